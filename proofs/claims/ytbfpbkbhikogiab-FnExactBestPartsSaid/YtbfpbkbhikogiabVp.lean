/-
  Ends of dots and boxes: openings in order, by tallies. No walk stands here.
-/
import Derived.Test.YtbfpbkbhikogiabVa
namespace Go.Proofs.Ytbfpbkbhikogiab
open Go.RowKit
set_option linter.unusedVariables false

/-- The places below bd at which there is a strand. -/
def seen (l : List Nat) (bd : Nat) : List Nat := (List.range 62).filter fun p => decide (p < bd) && decide (0 < tg l p)
theorem seen_all (l : List Nat) : seen l 62 = plc l := by
  unfold seen plc
  apply List.filter_congr
  intro p hp
  have := List.mem_range.1 hp
  simp [this]
theorem seen_zero (l : List Nat) : seen l 0 = [] := by
  unfold seen
  rw [List.filter_eq_nil_iff]
  intro p _
  simp
theorem seen_gap {l : List Nat} {bd bd' : Nat} (h : bd ≤ bd') (hg : ∀ p, bd ≤ p → p < bd' → tg l p = 0) : seen l bd' = seen l bd := by
  unfold seen
  apply List.filter_congr
  intro p hp
  by_cases h1 : p < bd
  · have h2 : p < bd' := by omega
    simp [h1, h2]
  · by_cases h2 : p < bd'
    · have := hg p (by omega) h2
      simp [this]
    · simp [h1, h2]
theorem filter_snoc {q : Nat → Bool} {z : Nat} (hq : ∀ p, q p = true → p < z) : ∀ n, z < n → (List.range n).filter (fun p => q p || decide (p = z)) = (List.range n).filter q ++ [z] := by
  intro n hn
  have h1 : ∀ m, m ≤ z → (List.range m).filter (fun p => q p || decide (p = z)) = (List.range m).filter q := by
    intro m hm
    apply List.filter_congr
    intro p hp
    have := List.mem_range.1 hp
    have hne : ¬ p = z := by omega
    simp [hne]
  induction n with
  | zero => omega
  | succ n ih =>
    rw [List.range_succ, List.filter_append, List.filter_append]
    by_cases e : n = z
    · subst e
      have hqn : q n = false := by
        cases hh : q n
        · rfl
        · have := hq n hh; omega
      rw [h1 n (Nat.le_refl _)]
      simp [hqn]
    · have hqn : q n = false := by
        cases hh : q n
        · rfl
        · have := hq n hh; omega
      rw [ih (by omega)]
      simp [hqn, e]
theorem seen_next {l : List Nat} {bd z : Nat} (h : bd ≤ z) (hz : z < 62) (h0 : 0 < tg l z) (hg : ∀ p, bd ≤ p → p < z → tg l p = 0) : seen l (z + 1) = seen l bd ++ [z] := by
  rw [← seen_gap h hg]
  unfold seen
  rw [← filter_snoc (q := fun p => decide (p < z) && decide (0 < tg l p)) (z := z) (fun p hp => by simp at hp; exact hp.1) 62 hz]
  apply List.filter_congr
  intro p hp
  by_cases e : p = z
  · subst e
    simp [h0]
  · by_cases h1 : p < z
    · have h2 : p < z + 1 := by omega
      simp [h1, h2, e]
    · have h2 : ¬ p < z + 1 := by omega
      simp [h1, h2, e]

/-! ### sorted lists have no gaps -/
theorem srt_ge {l : List Int} {lo : Int} (h : srt lo l = true) : ∀ x ∈ l, lo ≤ x := fun x hx => (srt_mem h x hx).1
theorem srt_first {l : List Int} {lo z : Int} (h : srt lo l = true) (hz : l[0]? = some z) : ∀ x ∈ l, z ≤ x := by
  cases l with
  | nil => simp at hz
  | cons y r =>
    simp at hz
    subst hz
    intro x hx
    rcases List.mem_cons.1 hx with rfl | hx
    · exact Int.le_refl _
    · exact srt_ge (srt_parts h).2.2 x hx
theorem srt_next : ∀ {l : List Int} {lo y z : Int} {i : Nat}, srt lo l = true → l[i]? = some y → l[i + 1]? = some z → (∀ x ∈ l, x ≤ y ∨ z ≤ x) ∧ y ≤ z
  | [], lo, y, z, i, h, hy, hz => by simp at hy
  | a :: r, lo, y, z, 0, h, hy, hz => by
    simp at hy hz
    subst hy
    have h3 := (srt_parts h).2.2
    refine ⟨fun x hx => ?_, srt_ge h3 z (List.mem_of_getElem? hz)⟩
    rcases List.mem_cons.1 hx with rfl | hx
    · exact .inl (Int.le_refl _)
    · exact .inr (srt_first h3 hz x hx)
  | a :: r, lo, y, z, i + 1, h, hy, hz => by
    have h3 := (srt_parts h).2.2
    obtain ⟨h1, h2⟩ := srt_next h3 (by simpa using hy) (by simpa using hz)
    refine ⟨fun x hx => ?_, h2⟩
    rcases List.mem_cons.1 hx with rfl | hx
    · exact .inl (srt_ge h3 y (List.mem_of_getElem? (by simpa using hy)))
    · exact h1 x hx
theorem srt_last : ∀ {l : List Int} {lo y : Int} {i : Nat}, srt lo l = true → l[i]? = some y → i + 1 = l.length → ∀ x ∈ l, x ≤ y
  | [], lo, y, i, h, hy, hn => by simp at hy
  | [a], lo, y, i, h, hy, hn => by
    have : i = 0 := by simp at hn; exact hn
    subst this
    simp at hy
    subst hy
    simp
  | a :: b :: r, lo, y, i, h, hy, hn => by
    obtain ⟨j, rfl⟩ : ∃ j, i = j + 1 := ⟨i - 1, by simp at hn; omega⟩
    have h3 := (srt_parts h).2.2
    have h4 := srt_last h3 (by simpa using hy) (by simpa using hn)
    intro x hx
    rcases List.mem_cons.1 hx with rfl | hx
    · have := srt_ge h3 b (by simp)
      have := h4 b (by simp)
      omega
    · exact h4 x hx

/-! ### the tally of two lists -/
theorem tg_set {l : List Nat} {i j v : Nat} (hi : i < l.length) : tg (l.set i v) j = if j = i then v else tg l j := by
  unfold tg
  rw [List.getElem?_set]
  by_cases e : i = j
  · subst e
    simp [hi]
  · have e' : ¬ j = i := fun x => e x.symm
    simp [e, e']
theorem tally_ext {l m : List Nat} (hl : l.length = 62) (hm : m.length = 62) (h : ∀ i, i < 62 → tg l i = tg m i) : l = m := by
  apply List.ext_getElem?
  intro i
  by_cases hi : i < 62
  · have := h i hi
    unfold tg at this
    rw [List.getElem?_eq_getElem (by omega), List.getElem?_eq_getElem (by omega)] at this ⊢
    simpa using this
  · rw [List.getElem?_eq_none (by omega), List.getElem?_eq_none (by omega)]
theorem cntL_erase0 {cs ls : List Int} {b : Int} (h : 0 ≤ b ∧ b ≤ 30) (hm : b ∈ cs) : cntL (cs.erase b) ls = decT (cntL cs ls) b.toNat := by
  refine tally_ext (cntL_len _ _) (by rw [decT_len, cntL_len]) (fun i hi => ?_)
  unfold decT
  rw [tg_set (by rw [cntL_len]; omega), cntL_get _ _ hi, cntL_get _ _ hi, cntL_get _ _ (by omega : b.toNat < 62)]
  by_cases e : i = b.toNat
  · subst e
    have h31 : b.toNat < 31 := by omega
    have hb : ((b.toNat : Nat) : Int) = b := by omega
    simp only [h31, if_true, hb]
    simp [List.count_erase_self]
  · rw [if_neg e]
    by_cases h31 : i < 31
    · simp only [h31, if_true]
      exact List.count_erase_of_ne (by omega)
    · simp only [h31, if_false]
theorem cntL_erase1 {cs ls : List Int} {b : Int} (h : 0 ≤ b ∧ b ≤ 30) (hm : b ∈ ls) : cntL cs (ls.erase b) = decT (cntL cs ls) (31 + b.toNat) := by
  refine tally_ext (cntL_len _ _) (by rw [decT_len, cntL_len]) (fun i hi => ?_)
  unfold decT
  rw [tg_set (by rw [cntL_len]; omega), cntL_get _ _ hi, cntL_get _ _ hi, cntL_get _ _ (by omega : 31 + b.toNat < 62)]
  by_cases e : i = 31 + b.toNat
  · subst e
    have h31 : ¬ 31 + b.toNat < 31 := by omega
    have hb : ((31 + b.toNat - 31 : Nat) : Int) = b := by omega
    simp only [h31, if_false, hb, if_true]
    exact List.count_erase_self
  · rw [if_neg e]
    by_cases h31 : i < 31
    · simp only [h31, if_true]
    · simp only [h31, if_false]
      exact List.count_erase_of_ne (by omega)
theorem cntL_pos0 {cs ls : List Int} {b : Int} (h : 0 ≤ b ∧ b ≤ 30) (hm : b ∈ cs) : 0 < tg (cntL cs ls) b.toNat := by
  rw [cntL_get _ _ (by omega)]
  have h31 : b.toNat < 31 := by omega
  have hb : ((b.toNat : Nat) : Int) = b := by omega
  simp only [h31, if_true, hb]
  exact List.count_pos_iff.2 hm
theorem cntL_pos1 {cs ls : List Int} {b : Int} (h : 0 ≤ b ∧ b ≤ 30) (hm : b ∈ ls) : 0 < tg (cntL cs ls) (31 + b.toNat) := by
  rw [cntL_get _ _ (by omega)]
  have h31 : ¬ 31 + b.toNat < 31 := by omega
  have hb : ((31 + b.toNat - 31 : Nat) : Int) = b := by omega
  simp only [h31, if_false, hb]
  exact List.count_pos_iff.2 hm
theorem cntL_none0 {cs ls : List Int} {p : Nat} (hp : p < 31) (h : ((p : Nat) : Int) ∉ cs) : tg (cntL cs ls) p = 0 := by
  rw [cntL_get _ _ (by omega)]
  simp only [hp, if_true]
  exact List.count_eq_zero.2 h
theorem cntL_none1 {cs ls : List Int} {p : Nat} (hp : 31 ≤ p) (hp' : p < 62) (h : ((p - 31 : Nat) : Int) ∉ ls) : tg (cntL cs ls) p = 0 := by
  rw [cntL_get _ _ hp']
  have h31 : ¬ p < 31 := by omega
  simp only [h31, if_false]
  exact List.count_eq_zero.2 h
theorem cntL_sum : ∀ (cs ls : List Int), (∀ x ∈ cs, 0 ≤ x ∧ x ≤ 30) → (∀ x ∈ ls, 0 ≤ x ∧ x ≤ 30) → (cntL cs ls).sum = cs.length + ls.length
  | [], [], _, _ => by decide
  | [], y :: r, h1, h2 => by
    have hy := h2 y (by simp)
    have ih := cntL_sum [] r h1 (fun x hx => h2 x (by simp [hx]))
    have e := cntL_erase1 (cs := []) hy (show y ∈ y :: r by simp)
    rw [List.erase_cons_head] at e
    have := sum_dec (cntL [] (y :: r)) (31 + y.toNat) (cntL_pos1 hy (by simp))
    rw [← e, ih] at this
    simp at this ⊢
    omega
  | y :: r, ls, h1, h2 => by
    have hy := h1 y (by simp)
    have ih := cntL_sum r ls (fun x hx => h1 x (by simp [hx])) h2
    have e := cntL_erase0 (ls := ls) hy (show y ∈ y :: r by simp)
    rw [List.erase_cons_head] at e
    have := sum_dec (cntL (y :: r) ls) y.toNat (cntL_pos0 hy (by simp))
    rw [← e, ih] at this
    simp only [List.length_cons]
    omega

theorem knd_lt {i : Nat} (h : i < 31) : knd i = 0 ∧ bxs i = (i : Int) := by unfold knd bxs; omega
theorem knd_ge {i : Nat} (h : 31 ≤ i) (h' : i < 62) : knd i = 1 ∧ bxs i = ((i - 31 : Nat) : Int) := by unfold knd bxs; omega

/-! ### what has been found -/
def bV (l : List Nat) : Option Nat → Int | none => 0 | some m => -tkT l m
def lV : Option Nat → Bool | none => false | some m => decide (knd m = 1)
def xV : Option Nat → Int | none => 0 | some m => bxs m
end Go.Proofs.Ytbfpbkbhikogiab
