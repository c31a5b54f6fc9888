/-
  PlacementsOf, both texts.
-/
import Derived.Test.YtkekanllfpdeaabSq
namespace Go.Proofs.Ytkekanllfpdeaab
open Go.RowKit
set_option linter.unusedVariables false

theorem newList_nil (W w1 : World) (k : Int) (h : Below W.heap.size W w1) : NewList (([] : List Int), k) W (.returned (.tuple #[.slice none 0 0, .int .i64 k])) w1 := ⟨none, 0, rfl, World.ownsRow_nil _ _ _ _, h⟩
theorem newList_of {W w0 w1 : World} {a : Option Addr} {c : Nat} {zs : List Int} {k : Int} (hb : Below W.heap.size W w0) (ho : w1.ownsRow w0.heap.size 2 1 (.slice a zs.length c) zs.length (zs.map intV)) (h : Below w0.heap.size w0 w1) : NewList (zs, k) W (.returned (.tuple #[.slice a zs.length c, .int .i64 k])) w1 :=
  ⟨a, c, rfl, ownsRow_base ho hb.size, Below.trans' hb h⟩
def plcR (wd hi : Int) (cs : List Int) (n : Int) : List Int × Int := if seaB wd hi cs = true then (if inn n 1 5 = true then (plc wd hi n.toNat, 0) else ([], 2)) else ([], 1)
theorem plcR_le (wd hi : Int) (cs : List Int) (n : Int) : (plcR wd hi cs n).1.length ≤ 1048576 := by
  unfold plcR
  split
  · rename_i h
    obtain ⟨a, b, c, d, _⟩ := seaB_yes h
    split
    · rename_i h2
      have := inn_yes h2
      have := (pl_facts a b c d this.1 this.2).2.2.1
      show (plc wd hi n.toNat).length ≤ _
      omega
    · simp
  · simp

end Go.Proofs.Ytkekanllfpdeaab
