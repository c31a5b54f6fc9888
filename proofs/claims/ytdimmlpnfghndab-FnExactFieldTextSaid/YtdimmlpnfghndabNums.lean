/-
  The contracts of the laws' helpers on []int64 and of the functions on lists of numbers.
-/
import Derived.Test.YtdimmlpnfghndabGen
namespace Go.Proofs.Ytdimmlpnfghndab
open Go.RowKit

theorem ret_int {k : IntKind} {a b : Int} (h : a = b) : Ending.returned (.int k a) = .returned (.int k b) := by rw [h]
theorem ret_bool {a b : Bool} (h : a = b) : Ending.returned (.bool a) = .returned (.bool b) := by rw [h]

/-- The copy's row after k stores. -/
def copied (zs : List Int) (k : Nat) : Nat → Value := fun i => if i < k then .int .i64 (zs[i]?.getD 0) else .int .i64 0
theorem copied_set {w : World} {b : Nat} {t : TypeId} {zs : List Int} {k : Nat} {z : Int} (h : w.rowIs b t zs.length (copied zs k)) (hz : zs[k]? = some z) :
    (w.setCell ⟨b, k, none⟩ (.int .i64 z)).rowIs b t zs.length (copied zs (k + 1)) := by
  refine (h.set k (.int .i64 z)).congr ?_
  intro i _
  unfold copied
  by_cases e : i = k
  · subst e; simp [hz]
  · simp only [e, if_false]
    by_cases h1 : i < k
    · rw [if_pos h1, if_pos (by omega)]
    · rw [if_neg h1, if_neg (by omega)]

end Go.Proofs.Ytdimmlpnfghndab