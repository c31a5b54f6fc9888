/-
  Lists of shots: what came in, and the laws' helpers on them.
-/
import Derived.Test.YtkekanllfpdeaabAo
import Derived.Test.YtkekanllfpdeaabSk
import Derived.Deep.SlicePairs
namespace Go.Proofs.Ytkekanllfpdeaab
open Go.ChangeShapes Go.WideShapes Go.ChangeAt Go.RowKit Go.Deep Go.Joins
set_option linter.unusedVariables false

/-- The slice of shots at 'a' reads as 'ps'. -/
def ShotsAt (w : World) (a : Option Addr) (ps : List (Int × Int)) : Prop :=
  ps ≠ [] → ∃ b o, a = some ⟨b, o, none⟩ ∧ ∀ k x y, ps[k]? = some (x, y) → w.cell? ⟨b, o + k * 2, none⟩ = some (.int .i64 x) ∧ w.cell? ⟨b, o + k * 2 + 1, none⟩ = some (.int .i64 y)
theorem ShotsAt.keep {w w' : World} {a : Option Addr} {ps : List (Int × Int)} (h : ShotsAt w a ps) (hb : Below w.heap.size w w') : ShotsAt w' a ps := by
  intro hne
  obtain ⟨b, o, ha, hc⟩ := h hne
  exact ⟨b, o, ha, fun k x y hk => ⟨cell_keep hb (hc k x y hk).1, cell_keep hb (hc k x y hk).2⟩⟩
theorem ShotsAt.one {w : World} {a : Option Addr} {ps : List (Int × Int)} (h : ShotsAt w a ps) {k : Nat} (hk : k < ps.length) :
    ∃ b o x y, a = some ⟨b, o, none⟩ ∧ w.cell? ⟨b, o + k * 2, none⟩ = some (.int .i64 x) ∧ w.cell? ⟨b, o + k * 2 + 1, none⟩ = some (.int .i64 y) ∧ Hid (ps[k]? = some (x, y)) := by
  obtain ⟨b, o, ha, hc⟩ := h (by intro e; rw [e] at hk; simp at hk)
  have hg : ps[k]? = some ((ps[k]).1, (ps[k]).2) := List.getElem?_eq_getElem hk
  exact ⟨b, o, _, _, ha, (hc k _ _ hg).1, (hc k _ _ hg).2, hide hg⟩

end Go.Proofs.Ytkekanllfpdeaab
