/-
  Boards of hexagons: the reduced triangle, both texts.
-/
import Derived.Test.YtogfoahejgmfgaaHt
import Derived.Deep.LoopGhost
namespace Go.Proofs.Ytogfoahejgmfgaa
open Go.RowKit
set_option linter.unusedVariables false

theorem hexAt_some {cs : List Int} {k : Nat} (h : k < cs.length) : cs[k]? = some (hexAt cs (k : Int)) := by simp [hexAt, h]
/-- The cells of a list, by number. -/
theorem IntsAt.at {w : World} {a : Option Addr} {zs : List Int} (h : IntsAt w a zs) (hne : 0 < zs.length) : ∃ b off, a = some ⟨b, off, none⟩ ∧ ∀ i, i < zs.length → w.cell? ⟨b, off + i, none⟩ = some (.int .i64 (hexAt zs (i : Int))) := by
  obtain ⟨b, off, rfl, hc⟩ := h.get hne
  exact ⟨b, off, rfl, fun i hi => by rw [hc i hi]; simp [hexAt]⟩
theorem tS_mul (r : Nat) (hr : r ≤ 8) : wrap64 ((r : Int) * ((r : Int) + 1)) = (r : Int) * ((r : Int) + 1) ∧ wrap64 (((r : Int) * ((r : Int) + 1)).tdiv 2) = (tS r : Int) := by
  obtain ⟨_, _, _, _, h1, h2⟩ := tri_nums' (n := (r : Int)) (by omega) (by omega)
  exact ⟨h1, by rw [h2, tS_int (by omega), Int.toNat_natCast]⟩

theorem ownsRow_empty {w : World} {lo g : Nat} (hg : w.heap[g]? = some (.cells #[] 2 (0, 0))) (hlo : lo ≤ g) : w.ownsRow lo 2 1 (.slice (some ⟨g, 0, none⟩) 0 0) 0 [] :=
  ⟨rfl, .inr ⟨g, 0, #[], rfl, hlo, hg, Nat.le_refl _, by decide, rfl, rfl⟩⟩
end Go.Proofs.Ytogfoahejgmfgaa
