/-
  Boards: lineIn, isMetBy, l07Fills; l07Is.
-/
import Derived.Test.YtlllkmobhjlmoabDoorBd
namespace Go.Proofs.YtlllkmobhjlmoabDoor
open Go.RowKit
set_option linter.unusedVariables false

theorem lin_yes {z s : Int} {r : List Int} (h : subB z s = true) : lin (z :: r) s = some z ∧ fil (z :: r) s = true := by simp [lin, fil, h]
theorem lin_no {z s : Int} {r : List Int} (h : subB z s = false) : lin (z :: r) s = lin r s ∧ fil (z :: r) s = fil r s := by simp [lin, fil, h]
/-- All numbers of a list are sets. -/
def Sets (cs : List Int) : Prop := ∀ z ∈ cs, 0 ≤ z ∧ z < 65536
theorem sets_of {n : Int} {cs : List Int} (h : okB n cs = true) : Sets cs := fun z hz => by have := okB_mem h hz; omega

end Go.Proofs.YtlllkmobhjlmoabDoor
