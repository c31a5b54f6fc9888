/-
  What comes in, for laws on endings: the two lists opened; the laws' helpers on endings.
-/
import Derived.Test.YtbfpbkbhikogiabCo
import Derived.Test.YtbfpbkbhikogiabEnds0
import Derived.Test.YtbfpbkbhikogiabMk
import Derived.OpenShut
import Derived.ChangeOld
import Derived.Deep.Fields
import Derived.Lib.SmallJoins
import Derived.Deep.RegionHeld3
namespace Go.Proofs.Ytbfpbkbhikogiab
open Go.ChangeShapes Go.WideShapes Go.ChangeAt Go.RowKit Go.Deep Go.Joins
set_option linter.unusedVariables false
variable {H : Type} {enc : TypeId × Value → H}

/-- A list of numbers, as the reading of a field of a struct gives it. -/
theorem open_row {W : World} {base fuel : Nat} {cs : List Value} {x : DataW H × List MemPlace}
    (h : DataW.trod enc Try.prog W base (fun _ => true) true fuel 22 cs = some x) : ∃ a c zs, cs = [.slice a zs.length c] ∧ IntsAt W a zs ∧ zs.length ≤ 9223372036854775807 := by
  rcases open_ints Try.underlying22 Try.underlying2 (by kernel_rfl) h with ⟨hcs, _⟩ | ⟨x, l, c, zs, hcs, _, hl, hm, hz, _, hcell, hwz⟩
  · exact ⟨none, 0, [], hcs, CellsAt.nil _ _, by simp⟩
  · have h := intsAt_of_row (.inr ⟨_, rfl, hl, hm, by simpa using hz, hcell, hwz⟩)
    refine ⟨some x, c, _, ?_, h.1, by have := h.2.1; have := h.2.2; unfold maxLen at *; omega⟩
    rw [h.2.1]
    exact hcs

/-- What the laws' bound leaves. -/
def szE (n m : Nat) : Int := if 1048576 - (n : Int) < 0 then -1 else if 1048576 - (n : Int) - (m : Int) < 0 then -1 else 1048576 - (n : Int) - (m : Int)

theorem row2' {w : World} {b : Nat} {x y : Value} {t : TypeId} (h : w.heap[b]? = some (.cells #[x, y] t (0, 0))) :
    w.cell? ⟨b, 0, none⟩ = some x ∧ w.cell? ⟨b, 1, none⟩ = some y ∧ w.frozen? ⟨b, 0, none⟩ = false ∧ w.frozen? ⟨b, 1, none⟩ = false :=
  ⟨(cell_of_row _ _ 0 _ _ (0, 0) h).trans rfl, (cell_of_row _ _ 1 _ _ (0, 0) h).trans rfl, frozen_of_row _ _ 0 _ _ h, frozen_of_row _ _ 1 _ _ h⟩
theorem box_set20 {w : World} {b : Nat} {x y x' : Value} {t : TypeId} (h : w.heap[b]? = some (.cells #[x, y] t (0, 0))) : (w.setCell ⟨b, 0, none⟩ x').heap[b]? = some (.cells #[x', y] t (0, 0)) := heap_setCell_same _ b 0 _ t x' h
theorem box_set21 {w : World} {b : Nat} {x y y' : Value} {t : TypeId} (h : w.heap[b]? = some (.cells #[x, y] t (0, 0))) : (w.setCell ⟨b, 1, none⟩ y').heap[b]? = some (.cells #[x, y'] t (0, 0)) := heap_setCell_same _ b 1 _ t y' h
theorem box_set2' {w : World} {b : Nat} {x y x' y' : Value} {t : TypeId} (h : w.heap[b]? = some (.cells #[x, y] t (0, 0))) :
    ((w.setCell ⟨b, 0, none⟩ x').setCell ⟨b, 1, none⟩ y').heap[b]? = some (.cells #[x', y'] t (0, 0)) := box_set21 (box_set20 h)

/-- A new ending: two rows of the call's own, in two blocks. -/
def NewEnd (cs ls : List Int) (W : World) (e : Ending) (W' : World) : Prop :=
  ∃ g c g' c', e = .returned (.agg #[.slice (some ⟨g, 0, none⟩) cs.length c, .slice (some ⟨g', 0, none⟩) ls.length c']) ∧ W'.ownsRow W.heap.size 2 1 (.slice (some ⟨g, 0, none⟩) cs.length c) cs.length (cs.map intV) ∧ W'.ownsRow W.heap.size 2 1 (.slice (some ⟨g', 0, none⟩) ls.length c') ls.length (ls.map intV) ∧ g ≠ g' ∧ Below W.heap.size W W'

end Go.Proofs.Ytbfpbkbhikogiab
