/-
  Nets: edges, their order, what a net is. No walk stands here.
-/
import Derived.Test.YtkekanllfpdeaabCo
namespace Go.Proofs.Ytkekanllfpdeaab
open Go.RowKit
set_option linter.unusedVariables false

def cmpI (x y : Int) : Int := if x < y then -1 else if y < x then 1 else 0
/-- How rows are compared. -/
def cmpR : List Int → List Int → Int
  | [], [] => 0
  | [], _ :: _ => -1
  | _ :: _, [] => 1
  | x :: xs, y :: ys => if cmpI x y ≠ 0 then cmpI x y else cmpR xs ys
theorem cmpR_end {xs ys : List Int} (h : xs = []) : cmpR xs ys = if ys.length = 0 then 0 else -1 := by
  subst h
  cases ys <;> rfl
theorem cmpR_two {a b c d : Int} : cmpR [a, b] [c, d] < 0 ↔ a < c ∨ (a = c ∧ b < d) := by
  unfold cmpR cmpR cmpR cmpI
  by_cases h1 : a < c
  · simp [h1]
  · by_cases h2 : c < a
    · simp [h1, h2]; omega
    · have e : a = c := by omega
      subst e
      by_cases h3 : b < d
      · simp [h3]
      · by_cases h4 : d < b
        · simp [h3, h4]
        · simp [h3, h4]
/-- An edge between two of n points. -/
def edgB (n : Int) (zs : List Int) : Bool := decide (zs.length = 2) && (decide (0 ≤ zs.getD 0 0) && decide (zs.getD 0 0 < zs.getD 1 0) && decide (zs.getD 1 0 ≤ n - 1))
theorem edgB_two {n a b : Int} : edgB n [a, b] = (decide (0 ≤ a) && decide (a < b) && decide (b ≤ n - 1)) := by simp [edgB]
theorem edgB_len {n : Int} {zs : List Int} (h : zs.length ≠ 2) : edgB n zs = false := by simp [edgB, h]
theorem edgB_form {n : Int} {zs : List Int} (h : edgB n zs = true) : ∃ a b, zs = [a, b] ∧ 0 ≤ a ∧ a < b ∧ b ≤ n - 1 := by
  match zs, h with
  | [a, b], h =>
    rw [edgB_two] at h
    simp at h
    exact ⟨a, b, rfl, h.1.1, h.1.2, h.2⟩
  | [], h => simp [edgB] at h
  | [_], h => simp [edgB] at h
  | _ :: _ :: _ :: _, h => simp [edgB] at h
theorem len_two {zs : List Int} (h : zs.length = 2) : ∃ a b, zs = [a, b] := by
  match zs, h with
  | [a, b], _ => exact ⟨a, b, rfl⟩
def ordB (X : List (List Int)) (i : Nat) : Bool := decide (i = 0) || !decide (cmpR (X.getD i []) (X.getD (i - 1) []) < 0)
def stepN (n : Int) (X : List (List Int)) (i : Nat) : Bool := edgB n (X.getD i []) && ordB X i
def edgsB (n : Int) (X : List (List Int)) : Bool := (List.range X.length).all fun i => edgB n (X.getD i [])
def ordsB (X : List (List Int)) : Bool := (List.range X.length).all (ordB X)
def sizN (n : Int) (X : List (List Int)) : Bool := decide (2 ≤ n) && decide (n ≤ 8) && decide (X.length ≤ 10)
def netB (n : Int) (X : List (List Int)) : Bool := sizN n X && (List.range X.length).all (stepN n X)
theorem netB_parts (n : Int) (X : List (List Int)) : netB n X = (sizN n X && (edgsB n X && ordsB X)) := by
  unfold netB edgsB ordsB
  congr 1
  induction (List.range X.length) with
  | nil => rfl
  | cons a r ih =>
    simp only [List.all_cons, ih]
    unfold stepN
    cases edgB n (X.getD a []) <;> cases ordB X a <;> simp
theorem all_drop_step {p : Nat → Bool} {n i : Nat} (h : i < n) : ((List.range n).drop i).all p = (p i && ((List.range n).drop (i + 1)).all p) := by
  have hr : (List.range n)[i]? = some i := by simp [h]
  rw [drop_of_get hr]
  rfl
theorem all_drop_end {p : Nat → Bool} {n : Nat} : ((List.range n).drop n).all p = true := by
  rw [List.drop_of_length_le (by simp)]
  rfl
theorem getD_of {X : List (List Int)} {i : Nat} {zs : List Int} (h : X[i]? = some zs) : X.getD i [] = zs := by rw [List.getD_eq_getElem?_getD, h]; rfl
theorem ordsB_no {X : List (List Int)} {i : Nat} (h : i < X.length) (ho : ordB X i = false) : ordsB X = false := by
  unfold ordsB
  rw [List.all_eq_false]
  exact ⟨i, by simp [h], by simp [ho]⟩
theorem ordsB_yes {X : List (List Int)} (h : ∀ i, i < X.length → ordB X i = true) : ordsB X = true := by
  unfold ordsB
  rw [List.all_eq_true]
  intro i hi
  exact h i (by simpa using hi)
theorem edgsB_mem {n : Int} {X : List (List Int)} (h : edgsB n X = true) {i : Nat} {zs : List Int} (hi : X[i]? = some zs) : edgB n zs = true := by
  unfold edgsB at h
  rw [List.all_eq_true] at h
  have := h i (by simp; exact (List.getElem?_eq_some_iff.1 hi).1)
  rwa [getD_of hi] at this
theorem netB_yes {n : Int} {X : List (List Int)} (h : netB n X = true) : 2 ≤ n ∧ n ≤ 8 ∧ X.length ≤ 10 ∧ ∀ (i : Nat) (zs : List Int), X[i]? = some zs → ∃ a b, zs = [a, b] ∧ 0 ≤ a ∧ a < b ∧ b ≤ n - 1 := by
  rw [netB_parts] at h
  simp [sizN] at h
  exact ⟨h.1.1.1, h.1.1.2, h.1.2, fun i zs hi => edgB_form (edgsB_mem h.2.1 hi)⟩
theorem stepN_len {n : Int} {X : List (List Int)} {i : Nat} {zs : List Int} (hi : X[i]? = some zs) (h : zs.length ≠ 2) : stepN n X i = false := by
  unfold stepN
  rw [getD_of hi, edgB_len h]
  rfl
theorem stepN_edge {n : Int} {X : List (List Int)} {i : Nat} {a b : Int} (hi : X[i]? = some [a, b]) (h : ¬ (0 ≤ a ∧ a < b ∧ b ≤ n - 1)) : stepN n X i = false := by
  unfold stepN
  rw [getD_of hi, edgB_two]
  have : (decide (0 ≤ a) && decide (a < b) && decide (b ≤ n - 1)) = false := by
    rw [Bool.eq_false_iff]
    intro e
    simp at e
    exact h ⟨e.1.1, e.1.2, e.2⟩
  rw [this]
  rfl
theorem stepN_zero {n : Int} {X : List (List Int)} {i : Nat} {a b : Int} (hi : X[i]? = some [a, b]) (h : 0 ≤ a ∧ a < b ∧ b ≤ n - 1) (h0 : i = 0) : stepN n X i = true := by
  unfold stepN ordB
  rw [getD_of hi, edgB_two]
  simp [h.1, h.2.1, h.2.2, h0]
theorem stepN_ord {n : Int} {X : List (List Int)} {i j : Nat} {a b c d : Int} (hi : X[i]? = some [a, b]) (hj : X[j]? = some [c, d]) (hij : i = j + 1) (h : 0 ≤ a ∧ a < b ∧ b ≤ n - 1) : stepN n X i = !(decide (a < c) || (decide (a = c) && decide (b < d))) := by
  subst hij
  unfold stepN ordB
  rw [getD_of hi, Nat.add_sub_cancel, getD_of hj, edgB_two]
  have e : decide (cmpR [a, b] [c, d] < 0) = (decide (a < c) || (decide (a = c) && decide (b < d))) := by
    rw [Bool.eq_iff_iff]
    simp [cmpR_two]
  rw [e]
  simp [h.1, h.2.1, h.2.2]
end Go.Proofs.Ytkekanllfpdeaab
