/-
  slices.Grow, Concat of two lists; a list made an array (placedFrom).
-/
import Derived.Test.YtkekanllfpdeaabWt
import Derived.Test.YtkekanllfpdeaabPu
namespace Go.Proofs.Ytkekanllfpdeaab
open Go.RowKit Go.Shelf
set_option linter.unusedVariables false

theorem ints_at_off {w : World} {b o : Nat} {zs : List Int} (h : IntsAt w (some ⟨b, o, none⟩) zs) : ∀ j u, (zs.map intV)[j]? = some u → w.cell? ((⟨b, o, none⟩ : Addr).add j) = some u := by
  intro j u hu
  have hj : j < zs.length := by have := (List.getElem?_eq_some_iff.1 hu).1; simpa using this
  obtain ⟨b', o', z, he, hc, hz⟩ := h.one hj
  cases he
  rw [List.getElem?_map, hz.out] at hu
  cases hu
  simp only [Addr.add]
  split
  · rename_i e; subst e; simpa [intV] using hc
  · exact hc

theorem arrayAt_any (a : Option Addr) (n c : Nat) (h : 3 ≤ n) (w : World) : (Instr.arrayAt 61 (.slice a n c)).run Try.prog w = .ok (.pointer a) w := by
  have : ¬ (n < 3) := by omega
  simp [Instr.arrayAt, run_underlying Try.underlying61, this]
theorem st3_box {w : World} {b : Nat} {t : T3} {ty : TypeId} (x y z : Int) (h : w.heap[b]? = some (.cells (cellsT t) ty (0, 0))) : (((w.setCell ⟨b, 0, none⟩ (.int .i64 x)).setCell ⟨b, 1, none⟩ (.int .i64 y)).setCell ⟨b, 2, none⟩ (.int .i64 z)).heap[b]? = some (.cells (cellsT (x, y, z)) ty (0, 0)) :=
  boxT_set (k := 2) z (boxT_set (k := 1) y (boxT_set (k := 0) x h (by omega)) (by omega)) (by omega)
theorem list3 {f : List Int} (h1 : 1 ≤ f.length) (h3 : f.length ≤ 3) : ∃ rest, f ++ [0, 0, 0] = (padF f).1 :: (padF f).2.1 :: (padF f).2.2 :: rest := by
  match f, h1, h3 with
  | [a], _, _ => exact ⟨[0], rfl⟩
  | [a, b], _, _ => exact ⟨[0, 0], rfl⟩
  | [a, b, c], _, _ => exact ⟨[0, 0, 0], rfl⟩

end Go.Proofs.Ytkekanllfpdeaab
