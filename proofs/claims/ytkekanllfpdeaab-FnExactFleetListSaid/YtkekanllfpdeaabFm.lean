/-
  The model's l09Fleet, IsFleet.
-/
import Derived.Test.YtkekanllfpdeaabFf
namespace Go.Proofs.Ytkekanllfpdeaab
open Go.RowKit
set_option linter.unusedVariables false

theorem setL_take {f : List Int} {i : Nat} {z : Int} (h : f[i]? = some z) : setL (f.take (i + 1)) = orI (setL (f.take i)) z := by
  rw [List.take_add_one, h]
  exact setL_snoc _ _
theorem stepB_eq {wd hi : Int} {cs f : List Int} {i j : Nat} {z y n m : Int} (hi' : i = j + 1) (hz : f[i]? = some z) (hy : f[j]? = some y) (hn : cs[i]? = some n) (hm : cs[j]? = some m) :
    stepB wd hi cs f i = ((plAt wd hi cs i).contains z && (decide (andI z (setL (f.take i)) = 0) && !(decide (n = m) && decide (z < y)))) := by
  subst hi'
  have hl : (f.take (j + 1)).length = j + 1 := by rw [List.length_take]; have := (List.getElem?_eq_some_iff.1 hz).1; omega
  unfold stepB okNext
  rw [hl, List.getD_eq_getElem?_getD, hz, List.getD_eq_getElem?_getD, hn, List.getD_eq_getElem?_getD, Nat.add_sub_cancel, hm, List.getD_eq_getElem?_getD, List.getElem?_take_of_lt (by omega), hy, decide_eq_true (show 0 < j + 1 by omega)]
  simp
theorem stepB_zero {wd hi : Int} {cs f : List Int} {i : Nat} {z : Int} (hi' : i = 0) (hz : f[i]? = some z) :
    stepB wd hi cs f i = ((plAt wd hi cs i).contains z && decide (andI z (setL (f.take i)) = 0)) := by
  subst hi'
  unfold stepB okNext
  rw [List.getD_eq_getElem?_getD, hz]
  simp
theorem take_contains {P : List Int} {k : Nat} {x z : Int} (h : P[k]? = some x) : (P.take (k + 1)).contains z = ((P.take k).contains z || (z == x)) := by
  rw [List.take_add_one, h, Bool.eq_iff_iff]
  simp [List.mem_append]

end Go.Proofs.Ytkekanllfpdeaab
