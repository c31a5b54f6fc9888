/-
  WeightOf: both texts.
-/
import Derived.Test.YtkekanllfpdeaaaDoorBl
namespace Go.Proofs.YtkekanllfpdeaaaDoor
open Go.RowKit
set_option linter.unusedVariables false

def wt1 (n l : Int) : Int := 2 ^ (n - ones l).toNat
def wts (n : Int) : List Int → Int
  | [] => 0
  | l :: r => wt1 n l + wts n r
def wtR (n : Int) (cs : List Int) : Int × Int := if okB n cs = true then (wts n cs, 0) else (0, 1)
theorem onesK_sub {x : Int} {m : Nat} (h0 : 0 ≤ x) (h1 : x < 2 ^ m) : ∀ k, onesK k x ≤ m ∧ (k ≤ m → onesK k x ≤ k)
  | 0 => by simp [onesK]
  | k + 1 => by
    obtain ⟨i1, i2⟩ := onesK_sub h0 h1 k
    have hd := dg_01 x k
    simp only [onesK]
    refine ⟨?_, fun h => by have := i2 (by omega); omega⟩
    by_cases hk : k < m
    · have := i2 (by omega); omega
    · have := dg_of_free (drawn_big h0 h1 (i := k) (by omega))
      omega
theorem ones_le_n {n l : Int} (hn : 1 ≤ n ∧ n ≤ 16) (h0 : 0 ≤ l) (h1 : l < 2 ^ n.toNat) : ones l ≤ n := by
  have := (onesK_sub h0 h1 16).1
  unfold ones
  omega
theorem wt1_range {n l : Int} (hn : 1 ≤ n ∧ n ≤ 16) : 0 ≤ wt1 n l ∧ wt1 n l ≤ 65536 := by
  have h := ones_range l
  exact pow_65536 (n := n - ones l) (by omega)
theorem wts_range {n : Int} (hn : 1 ≤ n ∧ n ≤ 16) : ∀ cs : List Int, 0 ≤ wts n cs ∧ wts n cs ≤ 65536 * cs.length
  | [] => by simp [wts]
  | l :: r => by
    have := wts_range hn r
    have := wt1_range (l := l) hn
    simp only [wts, List.length_cons]
    omega
theorem wts_app (n : Int) : ∀ (a b : List Int), wts n (a ++ b) = wts n a + wts n b
  | [], b => by simp [wts]
  | l :: r, b => by rw [List.cons_append, wts, wts, wts_app n r b]; omega
theorem wts_take {n : Int} {cs : List Int} {k : Nat} {z : Int} (h : cs[k]? = some z) : wts n (cs.take (k + 1)) = wts n (cs.take k) + wt1 n z := by
  rw [List.take_add_one, h, wts_app]
  simp [wts]

end Go.Proofs.YtkekanllfpdeaaaDoor
