/-
  Col and snort: unions; matchings, kept ones. No walk stands here.
-/
import Derived.Test.YtdimmlpnfghndaaFp
namespace Go.Proofs.Ytdimmlpnfghndaa
open Go.RowKit
set_option linter.unusedVariables false

/-! ### unions -/
def uI (n M j : Int) : Nat → Int → Int
  | 0, L => L
  | i + 1, L => if drawn M (lp (i : Int) j) = true then withE (uI n M j i L) (lp (n + i) (n + j)) else uI n M j i L
def uJ (n M : Int) : Nat → Int → Int
  | 0, L => L
  | j + 1, L => uI n M j j (uJ n M j L)
theorem uI_range {n M j : Int} (h0 : 0 ≤ n) (h1 : n + j < 8) : ∀ (i : Nat) (L : Int), (i : Int) ≤ j → 0 ≤ L ∧ L < 268435456 → 0 ≤ uI n M j i L ∧ uI n M j i L < 268435456
  | 0, L, _, h => h
  | i + 1, L, hi, h => by
    have ih := uI_range h0 h1 (M := M) i L (by omega) h
    simp only [uI]
    split
    · have hl := lp_lt (i := n + i) (j := n + j) (by omega) (by omega) h1
      refine ⟨withE_nonneg _ _, ?_⟩
      have := withE_lt (n := 28) ih.1 (by simpa using ih.2) (k := lp (n + i) (n + j)) (by omega)
      simpa using this
    · exact ih
theorem uJ_range {n M : Int} (h0 : 0 ≤ n) : ∀ (j : Nat) (L : Int), n + (j : Int) ≤ 8 → 0 ≤ L ∧ L < 268435456 → 0 ≤ uJ n M j L ∧ uJ n M j L < 268435456
  | 0, L, _, h => h
  | j + 1, L, hj, h => by
    have ih := uJ_range h0 (M := M) j L (by omega) h
    exact uI_range h0 (by omega) j _ (Int.le_refl _) ih
theorem shl_small {R n : Int} (h0 : 0 ≤ R) (h1 : R < 256) (k0 : 0 ≤ n) (k1 : n ≤ 8) : 0 ≤ R * 2 ^ n.toNat ∧ R * 2 ^ n.toNat < 65536 := by
  have : n = 0 ∨ n = 1 ∨ n = 2 ∨ n = 3 ∨ n = 4 ∨ n = 5 ∨ n = 6 ∨ n = 7 ∨ n = 8 := by omega
  rcases this with rfl | rfl | rfl | rfl | rfl | rfl | rfl | rfl | rfl <;> simp <;> omega
/-- The answer: points, lines, red, blue, code. -/
def uniR (n L R B n' L' R' B' : Int) : Int × Int × Int × Int × Int :=
  if okF n L R B = true ∧ okF n' L' R' B' = true then if n + n' ≤ 8 then (n + n', uJ n L' n'.toNat L, orI R (R' * 2 ^ n.toNat), orI B (B' * 2 ^ n.toNat), 0) else (0, 0, 0, 0, 3) else (0, 0, 0, 0, 1)
end Go.Proofs.Ytdimmlpnfghndaa
