/-
  Values that count moves: two rules that agree on small values give the same values; the plain functions of the least and the greatest number, and of the lengths.
-/
import Derived.Test.YtlgogpphlnogoaaVals
namespace Go.Proofs.Ytlgogpphlnogoaa

theorem stL_same {R1 R2 : List Int → Int} {xss : List (List Int)} (H : ∀ (k : Nat) (vs : List Int), k ≤ 1000 → (∀ v ∈ vs, 0 ≤ v ∧ v ≤ k) → R1 vs = R2 vs ∧ 0 ≤ R2 vs ∧ R2 vs ≤ k + 1) {n : Nat} (hn : n ≤ 1000) :
    ∀ (k : Nat) (h : k ≤ n), stL 0 R1 xss (downs n k h) = stL 0 R2 xss (downs n k h) ∧ ∀ i, 0 ≤ stL 0 R2 xss (downs n k h) i ∧ stL 0 R2 xss (downs n k h) i ≤ k
  | 0, h => ⟨rfl, fun i => ⟨Int.le_refl _, Int.le_refl _⟩⟩
  | k + 1, h => by
    obtain ⟨he, hb⟩ := stL_same H hn k (by omega)
    have hR := H k (afterOf (stL 0 R2 xss (downs n k (by omega))) (rowOf xss (n - 1 - k))) (by omega) (by
      intro v hv
      simp only [afterOf, List.mem_map] at hv
      obtain ⟨q, _, rfl⟩ := hv
      exact hb _)
    obtain ⟨st, hst⟩ : ∃ st, st = stL 0 R2 xss (downs n k (by omega)) := ⟨_, rfl⟩
    rw [← hst] at he hb hR
    have e1 : stL 0 R1 xss (downs n (k + 1) h) = upd st (n - 1 - k) (R1 (afterOf st (rowOf xss (n - 1 - k)))) := by rw [downs, stL_snoc, he]
    have e2 : stL 0 R2 xss (downs n (k + 1) h) = upd st (n - 1 - k) (R2 (afterOf st (rowOf xss (n - 1 - k)))) := by rw [downs, stL_snoc, ← hst]
    rw [e1, e2, hR.1]
    refine ⟨rfl, fun i => ?_⟩
    have := hb i
    have h2 := hR.2
    unfold upd
    split <;> omega

theorem valsL_same {R1 R2 : List Int → Int} {xss : List (List Int)} (hn : xss.length ≤ 1000) (H : ∀ (k : Nat) (vs : List Int), k ≤ 1000 → (∀ v ∈ vs, 0 ≤ v ∧ v ≤ k) → R1 vs = R2 vs ∧ 0 ≤ R2 vs ∧ R2 vs ≤ k + 1) : valsL 0 R1 xss = valsL 0 R2 xss := by
  unfold valsL
  rw [(stL_same H hn xss.length (Nat.le_refl _)).1]

def minL : List Int → Int
  | [] => 0
  | v :: r => r.foldl min v
def maxL : List Int → Int
  | [] => 0
  | v :: r => r.foldl max v
theorem minL_snoc {vs : List Int} (h : vs ≠ []) (v : Int) : minL (vs ++ [v]) = min (minL vs) v := by
  cases vs with
  | nil => exact absurd rfl h
  | cons x r => simp [minL]
theorem maxL_snoc {vs : List Int} (h : vs ≠ []) (v : Int) : maxL (vs ++ [v]) = max (maxL vs) v := by
  cases vs with
  | nil => exact absurd rfl h
  | cons x r => simp [maxL]
theorem foldl_min_bd {lo hi : Int} : ∀ (r : List Int) (v : Int), lo ≤ v → v ≤ hi → (∀ x ∈ r, lo ≤ x ∧ x ≤ hi) → lo ≤ r.foldl min v ∧ r.foldl min v ≤ hi
  | [], v, h1, h2, _ => ⟨h1, h2⟩
  | x :: r, v, h1, h2, h => by
    have hx := h x (by simp)
    exact foldl_min_bd r (min v x) (by omega) (by omega) (fun y hy => h y (by simp [hy]))
theorem foldl_max_bd {lo hi : Int} : ∀ (r : List Int) (v : Int), lo ≤ v → v ≤ hi → (∀ x ∈ r, lo ≤ x ∧ x ≤ hi) → lo ≤ r.foldl max v ∧ r.foldl max v ≤ hi
  | [], v, h1, h2, _ => ⟨h1, h2⟩
  | x :: r, v, h1, h2, h => by
    have hx := h x (by simp)
    exact foldl_max_bd r (max v x) (by omega) (by omega) (fun y hy => h y (by simp [hy]))
theorem minL_bd {lo hi : Int} {vs : List Int} (h0 : vs ≠ []) (h : ∀ x ∈ vs, lo ≤ x ∧ x ≤ hi) : lo ≤ minL vs ∧ minL vs ≤ hi := by
  cases vs with
  | nil => exact absurd rfl h0
  | cons x r => exact foldl_min_bd r x (h x (by simp)).1 (h x (by simp)).2 (fun y hy => h y (by simp [hy]))
theorem maxL_bd {lo hi : Int} {vs : List Int} (h0 : vs ≠ []) (h : ∀ x ∈ vs, lo ≤ x ∧ x ≤ hi) : lo ≤ maxL vs ∧ maxL vs ≤ hi := by
  cases vs with
  | nil => exact absurd rfl h0
  | cons x r => exact foldl_max_bd r x (h x (by simp)).1 (h x (by simp)).2 (fun y hy => h y (by simp [hy]))

/-- 1 + what is picked, or 0 for an end. -/
def oneMore (pick : List Int → Int) (vs : List Int) : Int := if vs = [] then 0 else 1 + pick vs
def oneMoreW (pick : List Int → Int) (vs : List Int) : Int := if vs = [] then 0 else Go.RowKit.wrap64 (1 + pick vs)
theorem oneMore_same {pick : List Int → Int} (hp : ∀ (lo hi : Int) (vs : List Int), vs ≠ [] → (∀ x ∈ vs, lo ≤ x ∧ x ≤ hi) → lo ≤ pick vs ∧ pick vs ≤ hi) (k : Nat) (vs : List Int) (hk : k ≤ 1000) (h : ∀ v ∈ vs, 0 ≤ v ∧ v ≤ k) : oneMoreW pick vs = oneMore pick vs ∧ 0 ≤ oneMore pick vs ∧ oneMore pick vs ≤ k + 1 := by
  unfold oneMoreW oneMore
  by_cases h0 : vs = []
  · rw [if_pos h0, if_pos h0]
    exact ⟨rfl, by omega, by omega⟩
  · rw [if_neg h0, if_neg h0]
    have := hp 0 k vs h0 h
    exact ⟨by unfold Go.RowKit.wrap64; omega, by omega, by omega⟩
theorem fewest_snoc (vs : List Int) (v : Int) : oneMore minL (vs ++ [v]) = if vs = [] then v + 1 else min (oneMore minL vs) (v + 1) := by
  unfold oneMore
  rw [if_neg (by simp)]
  by_cases h0 : vs = []
  · subst h0
    simp [minL]
    omega
  · rw [if_neg h0, if_neg h0, minL_snoc h0]
    omega
theorem most_snoc (vs : List Int) (v : Int) (hv : 0 ≤ v) : oneMore maxL (vs ++ [v]) = max (oneMore maxL vs) (v + 1) := by
  unfold oneMore
  rw [if_neg (by simp)]
  by_cases h0 : vs = []
  · subst h0
    simp [maxL]
    omega
  · rw [if_neg h0, maxL_snoc h0]
    omega
end Go.Proofs.Ytlgogpphlnogoaa
