/-
  LinesThrough: both texts.
-/
import Derived.Test.YtkekanllfpdeaaaDoorBf
import Derived.Test.YtkekanllfpdeaaaDoorBc
namespace Go.Proofs.YtkekanllfpdeaaaDoor
open Go.RowKit
set_option linter.unusedVariables false

def thr (cs : List Int) (p : Int) : List Int := cs.filter fun l => drawn l p
def thrR (n : Int) (cs : List Int) (p : Int) : List Int × Int := if okB n cs = true then (if 0 ≤ p ∧ p < n then (thr cs p, 0) else ([], 2)) else ([], 1)
theorem thr_le (cs : List Int) (p : Int) : (thr cs p).length ≤ cs.length := List.length_filter_le _ _
theorem thrR_le {n : Int} {cs : List Int} {p : Int} (hl : cs.length ≤ 1048576) : (thrR n cs p).1.length ≤ 1048576 := by
  unfold thrR
  split
  · split
    · exact Nat.le_trans (thr_le _ _) hl
    · simp
  · simp
theorem newList_nil {W w : World} {c : Int} (hb : Below W.heap.size W w) : NewList ([], c) W (.returned (.tuple #[.slice none 0 0, .int .i64 c])) w := ⟨none, 0, rfl, World.ownsRow_nil _ _ _ _, hb⟩
theorem take_yes {cs : List Int} {q : Int → Bool} {k : Nat} {z : Int} (h : cs[k]? = some z) (hq : q z = true) : (cs.take (k + 1)).filter q = (cs.take k).filter q ++ [z] := by
  rw [List.take_add_one, h, List.filter_append]
  simp [hq]
theorem take_no {cs : List Int} {q : Int → Bool} {k : Nat} {z : Int} (h : cs[k]? = some z) (hq : q z = false) : (cs.take (k + 1)).filter q = (cs.take k).filter q := by
  rw [List.take_add_one, h, List.filter_append]
  simp [hq]
theorem take_fle {cs : List Int} {q : Int → Bool} {k : Nat} (h : cs.length ≤ 100) : ((cs.take k).filter q).length ≤ 100 := by
  have h1 := List.length_filter_le q (cs.take k)
  have h2 := List.length_take_le k cs
  have h3 : (cs.take k).length ≤ cs.length := by rw [List.length_take]; omega
  omega

end Go.Proofs.YtkekanllfpdeaaaDoor
