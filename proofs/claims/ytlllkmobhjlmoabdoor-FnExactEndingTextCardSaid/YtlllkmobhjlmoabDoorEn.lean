/-
  Ends of dots and boxes: plain functions on lists of numbers. No walk stands here.
-/
import Derived.Test.YtlllkmobhjlmoabDoorGen
namespace Go.Proofs.YtlllkmobhjlmoabDoor
open Go.RowKit
set_option linter.unusedVariables false

/-- The list ascends and has numbers from lo to 30. -/
def srt (lo : Int) : List Int → Bool
  | [] => true
  | x :: r => decide (lo ≤ x) && decide (x ≤ 30) && srt x r
theorem srt_yes {lo x : Int} {r : List Int} (h1 : lo ≤ x) (h2 : x ≤ 30) : srt lo (x :: r) = srt x r := by simp [srt, h1, h2]
theorem srt_low {lo x : Int} {r : List Int} (h : x < lo) : srt lo (x :: r) = false := by
  have h' : ¬ lo ≤ x := by omega
  simp [srt, h']
theorem srt_high {lo x : Int} {r : List Int} (h : 30 < x) : srt lo (x :: r) = false := by
  have h' : ¬ x ≤ 30 := by omega
  simp [srt, h']
theorem srt_parts {lo x : Int} {r : List Int} (h : srt lo (x :: r) = true) : lo ≤ x ∧ x ≤ 30 ∧ srt x r = true := by
  simp only [srt, Bool.and_eq_true, decide_eq_true_eq] at h
  exact ⟨h.1.1, h.1.2, h.2⟩
theorem srt_mem : ∀ {l : List Int} {lo : Int}, srt lo l = true → ∀ x ∈ l, lo ≤ x ∧ x ≤ 30
  | [], _, _, x, hx => by cases hx
  | y :: r, lo, h, x, hx => by
    obtain ⟨h1, h2, h3⟩ := srt_parts h
    rcases List.mem_cons.1 hx with rfl | hx
    · exact ⟨h1, h2⟩
    · have := srt_mem h3 x hx
      omega
theorem srt_mono {l : List Int} {lo lo' : Int} (h : srt lo l = true) (hl : lo' ≤ lo) : srt lo' l = true := by
  cases l with
  | nil => rfl
  | cons x r =>
    obtain ⟨h1, h2, h3⟩ := srt_parts h
    rw [srt_yes (by omega) h2]
    exact h3

/-- Whether two lists are an ending. -/
def okEn (cs ls : List Int) : Bool := decide (cs.length + ls.length ≤ 8) && (srt 1 cs && srt 4 ls)
theorem okEn_parts {cs ls : List Int} (h : okEn cs ls = true) : cs.length + ls.length ≤ 8 ∧ srt 1 cs = true ∧ srt 4 ls = true := by
  simp only [okEn, Bool.and_eq_true, decide_eq_true_eq] at h
  exact h
theorem okEn_many {cs ls : List Int} (h : ¬ cs.length + ls.length ≤ 8) : okEn cs ls = false := by simp [okEn, h]
theorem okEn_one {cs ls : List Int} (h : srt 1 cs = false) : okEn cs ls = false := by simp [okEn, h]
theorem okEn_rest {cs ls : List Int} (h : cs.length + ls.length ≤ 8) (h1 : srt 1 cs = true) : okEn cs ls = srt 4 ls := by simp [okEn, h, h1]

/-- The sum of a list. -/
def sumL : List Int → Int
  | [] => 0
  | x :: r => x + sumL r
theorem sumL_append (a b : List Int) : sumL (a ++ b) = sumL a + sumL b := by
  induction a with
  | nil => simp [sumL]
  | cons x r ih => simp only [List.cons_append, sumL, ih]; omega
theorem sumL_bd : ∀ (l : List Int), (∀ x ∈ l, 0 ≤ x ∧ x ≤ 30) → 0 ≤ sumL l ∧ sumL l ≤ 30 * l.length
  | [], _ => by simp [sumL]
  | x :: r, h => by
    have h1 := h x (by simp)
    have h2 := sumL_bd r (fun y hy => h y (by simp [hy]))
    simp only [sumL, List.length_cons]
    omega
theorem sumL_take {l : List Int} {k : Nat} {x : Int} (h : l[k]? = some x) : sumL (l.take (k + 1)) = sumL (l.take k) + x := by
  rw [List.take_add_one, h, sumL_append]
  simp [sumL]

/-- How many are greater than 2, among the first k. -/
def longTo (l : List Int) (k : Nat) : Int := (((l.take k).filter fun x => decide (2 < x)).length : Nat)
theorem longTo_succ {l : List Int} {k : Nat} {x : Int} (h : l[k]? = some x) : longTo l (k + 1) = longTo l k + if 2 < x then 1 else 0 := by
  unfold longTo
  rw [List.take_add_one, h]
  simp only [Option.toList_some, List.filter_append, List.length_append]
  by_cases e : 2 < x <;> simp [e]
theorem longTo_bd (l : List Int) (k : Nat) : 0 ≤ longTo l k ∧ longTo l k ≤ k := by
  unfold longTo
  have h1 := List.length_filter_le (fun x : Int => decide (2 < x)) (l.take k)
  have h2 := List.length_take_le k l
  omega

/-- The chains and, behind them, the loops: kind and boxes. -/
def strs (cs ls : List Int) : List (Int × Int) := cs.map (fun b => (0, b)) ++ ls.map (fun b => (1, b))
theorem strs_len (cs ls : List Int) : (strs cs ls).length = cs.length + ls.length := by simp [strs]
theorem strs_mem {cs ls : List Int} (h : okEn cs ls = true) : ∀ s ∈ strs cs ls, (s.1 = 0 ∧ 1 ≤ s.2 ∨ s.1 = 1 ∧ 4 ≤ s.2) ∧ s.2 ≤ 30 := by
  obtain ⟨_, h1, h2⟩ := okEn_parts h
  intro s hs
  simp only [strs, List.mem_append, List.mem_map] at hs
  rcases hs with ⟨b, hb, rfl⟩ | ⟨b, hb, rfl⟩
  · have := srt_mem h1 b hb; exact ⟨.inl ⟨rfl, this.1⟩, this.2⟩
  · have := srt_mem h2 b hb; exact ⟨.inr ⟨rfl, this.1⟩, this.2⟩

/-! ### the sparing number -/
def leftOf (kind : Int) : Int := if kind = 1 then 4 else 2
def spOpen (s : Int × Int) : Bool := decide (s.1 = 1) || decide (2 < s.2)
def spar : List (Int × Int) → Int
  | [] => 0
  | s :: r => if r ≠ [] ∧ spOpen s = true then s.2 - 2 * leftOf s.1 + spar r else s.2 - spar r
theorem leftOf_bd (k : Int) : 2 ≤ leftOf k ∧ leftOf k ≤ 4 := by unfold leftOf; split <;> omega
theorem spar_bd : ∀ (l : List (Int × Int)), (∀ s ∈ l, 0 ≤ s.2 ∧ s.2 ≤ 30) → -(40 * (l.length : Int)) ≤ spar l ∧ spar l ≤ 40 * (l.length : Int)
  | [], _ => by simp [spar]
  | s :: r, h => by
    have h1 := h s (by simp)
    have h2 := spar_bd r (fun y hy => h y (by simp [hy]))
    have h3 := leftOf_bd s.1
    simp only [spar, List.length_cons]
    split <;> omega
end Go.Proofs.YtlllkmobhjlmoabDoor
