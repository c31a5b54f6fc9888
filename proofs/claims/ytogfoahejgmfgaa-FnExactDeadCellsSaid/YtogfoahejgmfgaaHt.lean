/-
  Boards of hexagons: triangles: their check, their reduction, both texts.
-/
import Derived.Test.YtogfoahejgmfgaaHa
import Derived.Test.YtogfoahejgmfgaaPm
namespace Go.Proofs.Ytogfoahejgmfgaa
open Go.RowKit
set_option linter.unusedVariables false

/-! ### the check -/
def trC (n lo : Int) (cs : List Int) : Int := if inn n 1 8 && decide (lo ≤ n) then (if decide ((cs.length : Int) = n * (n + 1) / 2) && cs.all plB then 0 else 1) else 2
theorem trC_two {n lo : Int} {cs : List Int} (h : (inn n 1 8 && decide (lo ≤ n)) = false) : trC n lo cs = 2 := by simp only [trC, h]; rfl
theorem trC_len {n lo : Int} {cs : List Int} (h : (inn n 1 8 && decide (lo ≤ n)) = true) (h2 : ¬ (cs.length : Int) = n * (n + 1) / 2) : trC n lo cs = 1 := by simp [trC, h, h2]
theorem trC_rest {n lo : Int} {cs : List Int} (h : (inn n 1 8 && decide (lo ≤ n)) = true) (h2 : (cs.length : Int) = n * (n + 1) / 2) : trC n lo cs = if cs.all plB = true then 0 else 1 := by simp [trC, h, h2]
theorem plB_inn (z : Int) : inn z 1 2 = plB z := by
  unfold inn plB
  by_cases h1 : z = 1
  · subst h1; rfl
  · by_cases h2 : z = 2
    · subst h2; rfl
    · have : ¬ (1 ≤ z ∧ z ≤ 2) := by omega
      rw [decide_eq_false h1, decide_eq_false h2, ← Bool.decide_and, decide_eq_false this]
      rfl
theorem trC_zero {n lo : Int} {cs : List Int} (h : trC n lo cs = 0) : lo ≤ n ∧ 1 ≤ n ∧ n ≤ 8 ∧ (cs.length : Int) = n * (n + 1) / 2 ∧ ∀ z ∈ cs, 1 ≤ z ∧ z ≤ 2 := by
  unfold trC at h
  split at h
  · rename_i h1
    split at h
    · rename_i h2
      simp only [Bool.and_eq_true, decide_eq_true_eq, List.all_eq_true] at h1 h2
      obtain ⟨i1, i2⟩ := inn_yes h1.1
      exact ⟨h1.2, i1, i2, h2.1, fun z hz => inn_yes (by rw [plB_inn]; exact h2.2 z hz)⟩
    · cases h
  · cases h
theorem tri_nums {n : Int} (h1 : 1 ≤ n) (h2 : n ≤ 8) : 0 ≤ n * (n + 1) ∧ n * (n + 1) ≤ 72 ∧ 1 ≤ n * (n + 1) / 2 ∧ n * (n + 1) / 2 ≤ 36 ∧ wrap64 (n * (n + 1)) = n * (n + 1) ∧ wrap64 ((n * (n + 1)).tdiv 2) = n * (n + 1) / 2 := by
  have : n = 1 ∨ n = 2 ∨ n = 3 ∨ n = 4 ∨ n = 5 ∨ n = 6 ∨ n = 7 ∨ n = 8 := by omega
  rcases this with rfl | rfl | rfl | rfl | rfl | rfl | rfl | rfl <;> decide +kernel
theorem tri_nums' {n : Int} (h1 : 0 ≤ n) (h2 : n ≤ 9) : 0 ≤ n * (n + 1) ∧ n * (n + 1) ≤ 90 ∧ 0 ≤ n * (n + 1) / 2 ∧ n * (n + 1) / 2 ≤ 45 ∧ wrap64 (n * (n + 1)) = n * (n + 1) ∧ wrap64 ((n * (n + 1)).tdiv 2) = n * (n + 1) / 2 := by
  have : n = 0 ∨ n = 1 ∨ n = 2 ∨ n = 3 ∨ n = 4 ∨ n = 5 ∨ n = 6 ∨ n = 7 ∨ n = 8 ∨ n = 9 := by omega
  rcases this with rfl | rfl | rfl | rfl | rfl | rfl | rfl | rfl | rfl | rfl <;> decide +kernel

end Go.Proofs.Ytogfoahejgmfgaa
