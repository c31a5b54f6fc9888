/-
  Slices of slices of int64: what reads as a list of lists; the laws' helper on them.
-/
import Derived.Test.YtbfpbkbhikogiabCo
namespace Go.Proofs.Ytbfpbkbhikogiab
open Go.RowKit

/-- The slice of slices at 'a' reads as 'xss'. -/
def RowsAt (w : World) (a : Option Addr) (xss : List (List Int)) : Prop :=
  xss ≠ [] → ∃ b off, a = some ⟨b, off, none⟩ ∧ ∀ i zs, xss[i]? = some zs → ∃ ai ci, w.cell? ⟨b, off + i, none⟩ = some (.slice ai zs.length ci) ∧ IntsAt w ai zs

theorem RowsAt.nil (w : World) (a : Option Addr) : RowsAt w a [] := fun h => absurd rfl h

theorem RowsAt.keep {w w' : World} {a : Option Addr} {xss : List (List Int)} (h : RowsAt w a xss) (hb : Below w.heap.size w w') : RowsAt w' a xss := by
  intro hne
  obtain ⟨b, off, rfl, hc⟩ := h hne
  refine ⟨b, off, rfl, fun i zs hi => ?_⟩
  obtain ⟨ai, ci, hcell, hz⟩ := hc i zs hi
  exact ⟨ai, ci, by rw [hb.cell (p := ⟨b, off + i, none⟩) (World.block_lt_of_cell? w _ hcell)]; exact hcell, hz.keep hb⟩

/-- One row, under names of its own. -/
theorem RowsAt.one {w : World} {a : Option Addr} {xss : List (List Int)} (h : RowsAt w a xss) {k : Nat} (hk : k < xss.length) :
    ∃ b off ai ci zs, a = some ⟨b, off, none⟩ ∧ w.cell? ⟨b, off + k, none⟩ = some (.slice ai zs.length ci) ∧ IntsAt w ai zs ∧ Hid (xss[k]? = some zs) := by
  obtain ⟨b, off, ha, hc⟩ := h (by intro e; subst e; simp at hk)
  obtain ⟨ai, ci, hcell, hz⟩ := hc k xss[k] (List.getElem?_eq_getElem hk)
  exact ⟨b, off, ai, ci, _, ha, hcell, hz, List.getElem?_eq_getElem hk⟩

def Small (xss : List (List Int)) : Prop := xss.length ≤ 1048576 ∧ ∀ zs ∈ xss, zs.length ≤ 1048576
theorem Try.info22 : (Try.prog.info? 22).map (fun i => (i.zero, i.size, i.bytes)) = some (some (.slice none 0 0), 1, 24) := by kernel_rfl

end Go.Proofs.Ytbfpbkbhikogiab
