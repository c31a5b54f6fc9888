/-
  Ends of dots and boxes: values of endings, by tallies. No walk stands here.
-/
import Derived.Test.YtbfpbkbhikogiabEn
namespace Go.Proofs.Ytbfpbkbhikogiab
open Go.RowKit
set_option linter.unusedVariables false

/-- What the taker gets more with the best answer, and whether it is the sparing one: v is the value of the rest. -/
def ansB (kind b v : Int) : Int × Bool := if spOpen (kind, b) = true ∧ b + v < b - 2 * leftOf kind - v then (b - 2 * leftOf kind - v, true) else (b + v, false)
theorem ansB_bd (kind b v B : Int) (h0 : 0 ≤ b) (h1 : b ≤ 30) (hv : -B ≤ v ∧ v ≤ B) : -(B + 40) ≤ (ansB kind b v).1 ∧ (ansB kind b v).1 ≤ B + 40 := by
  have := leftOf_bd kind
  unfold ansB
  split <;> simp only <;> omega

/-! ### the first one with the least -/
def bstStep (t : Nat → Int) (o : Option Nat) (x : Nat) : Option Nat := match o with | none => some x | some m => if t x < t m then some x else some m
def bst (t : Nat → Int) (l : List Nat) : Option Nat := l.foldl (bstStep t) none
theorem bst_snoc (t : Nat → Int) (l : List Nat) (x : Nat) : bst t (l ++ [x]) = bstStep t (bst t l) x := by simp [bst, List.foldl_append]
theorem rev_ind {p : List Nat → Prop} (h0 : p []) (h1 : ∀ l x, p l → p (l ++ [x])) (l : List Nat) : p l := by
  suffices h : ∀ (n : Nat) (l : List Nat), l.length = n → p l from h _ l rfl
  intro n
  induction n with
  | zero => intro l hl; rw [List.eq_nil_of_length_eq_zero hl]; exact h0
  | succ n ih =>
    intro l hl
    have hne : l ≠ [] := by intro e; subst e; simp at hl
    rw [← List.dropLast_concat_getLast hne]
    exact h1 _ _ (ih _ (by simp; omega))
theorem bst_mem (t : Nat → Int) (l : List Nat) : ∀ m, bst t l = some m → m ∈ l := by
  induction l using rev_ind with
  | h0 => intro m h; cases h
  | h1 l x ih =>
    intro m h
    rw [bst_snoc] at h
    cases hb : bst t l with
    | none => rw [hb] at h; simp only [bstStep, Option.some.injEq] at h; subst h; simp
    | some k =>
      rw [hb] at h
      simp only [bstStep] at h
      split at h
      · simp at h; subst h; simp
      · simp at h; subst h; simp [ih k hb]
theorem bst_some (t : Nat → Int) (l : List Nat) (hne : l ≠ []) : ∃ m, bst t l = some m := by
  induction l using rev_ind with
  | h0 => exact absurd rfl hne
  | h1 l x ih =>
    rw [bst_snoc]
    cases hb : bst t l with
    | none => exact ⟨x, rfl⟩
    | some k =>
      simp only [bstStep]
      split
      · exact ⟨x, rfl⟩
      · exact ⟨k, rfl⟩
theorem bst_congr {t t' : Nat → Int} (l : List Nat) (h : ∀ x ∈ l, t x = t' x) : bst t l = bst t' l := by
  induction l using rev_ind with
  | h0 => rfl
  | h1 l x ih =>
    have ih := ih (fun y hy => h y (by simp [hy]))
    rw [bst_snoc, bst_snoc, ih]
    cases hb : bst t' l with
    | none => rfl
    | some k =>
      have hk := h k (by simp [bst_mem t' l k hb])
      have hx := h x (by simp)
      simp only [bstStep, hk, hx]

/-! ### tallies: lists of 62 numbers -/
def tg (l : List Nat) (i : Nat) : Nat := l[i]?.getD 0
def plc (l : List Nat) : List Nat := (List.range 62).filter fun i => decide (0 < tg l i)
def decT (l : List Nat) (i : Nat) : List Nat := l.set i (tg l i - 1)
def knd (i : Nat) : Int := (i / 31 : Nat)
def bxs (i : Nat) : Int := (i % 31 : Nat)
theorem plc_mem {l : List Nat} {i : Nat} : i ∈ plc l ↔ i < 62 ∧ 0 < tg l i := by simp [plc]
theorem decT_len (l : List Nat) (i : Nat) : (decT l i).length = l.length := by simp [decT]
theorem sum_dec : ∀ (l : List Nat) (i : Nat), 0 < tg l i → (decT l i).sum + 1 = l.sum
  | [], i, h => by simp [tg] at h
  | x :: r, 0, h => by
    simp only [tg, List.getElem?_cons_zero, Option.getD_some] at h
    simp only [decT, tg, List.getElem?_cons_zero, Option.getD_some, List.set_cons_zero, List.sum_cons]
    omega
  | x :: r, i + 1, h => by
    have h' : 0 < tg r i := by simpa [tg] using h
    have := sum_dec r i h'
    simp only [decT, tg, List.getElem?_cons_succ, List.set_cons_succ, List.sum_cons] at this ⊢
    omega
theorem tg_le : ∀ (l : List Nat) (i : Nat), tg l i ≤ l.sum
  | [], i => by simp [tg]
  | x :: r, 0 => by simp [tg]
  | x :: r, i + 1 => by
    have := tg_le r i
    simp only [tg, List.getElem?_cons_succ, List.sum_cons] at this ⊢
    omega
theorem sum_pos {l : List Nat} (h : 0 < l.sum) : ∃ i, i < l.length ∧ 0 < tg l i := by
  induction l with
  | nil => simp at h
  | cons x r ih =>
    by_cases hx : 0 < x
    · exact ⟨0, by simp, by simpa [tg] using hx⟩
    · have : 0 < r.sum := by simp only [List.sum_cons] at h; omega
      obtain ⟨i, h1, h2⟩ := ih this
      exact ⟨i + 1, by simpa using h1, by simpa [tg] using h2⟩

def valT : Nat → List Nat → Int
  | 0, _ => 0
  | n + 1, l => match bst (fun i => (ansB (knd i) (bxs i) (valT n (decT l i))).1) (plc l) with
    | none => 0
    | some m => -(ansB (knd m) (bxs m) (valT n (decT l m))).1
/-- The value of an ending by its tally. -/
def vT (l : List Nat) : Int := valT l.sum l
/-- What the taker gets behind an opening. -/
def tkT (l : List Nat) (i : Nat) : Int := (ansB (knd i) (bxs i) (vT (decT l i))).1
def opT (l : List Nat) : Nat := (bst (tkT l) (plc l)).getD 0
theorem plc_ne {l : List Nat} (hl : l.length = 62) (h : 0 < l.sum) : plc l ≠ [] := by
  obtain ⟨i, h1, h2⟩ := sum_pos h
  intro e
  have : i ∈ plc l := plc_mem.2 ⟨by omega, h2⟩
  rw [e] at this
  cases this
theorem bst_op {l : List Nat} (hl : l.length = 62) (h : 0 < l.sum) : bst (tkT l) (plc l) = some (opT l) := by
  obtain ⟨m, hm⟩ := bst_some (tkT l) (plc l) (plc_ne hl h)
  unfold opT
  rw [hm]
  rfl
theorem op_mem {l : List Nat} (hl : l.length = 62) (h : 0 < l.sum) : opT l < 62 ∧ 0 < tg l (opT l) := plc_mem.1 (bst_mem _ _ _ (bst_op hl h))
theorem vT_over {l : List Nat} (h : l.sum = 0) : vT l = 0 := by unfold vT; rw [h]; rfl
theorem vT_step {l : List Nat} (hl : l.length = 62) (h : 0 < l.sum) : vT l = -tkT l (opT l) := by
  obtain ⟨n, hn⟩ : ∃ n, l.sum = n + 1 := ⟨l.sum - 1, by omega⟩
  have hv : ∀ i ∈ plc l, valT n (decT l i) = vT (decT l i) := by
    intro i hi
    have := sum_dec l i (plc_mem.1 hi).2
    unfold vT
    rw [show (decT l i).sum = n by omega]
  have hb := bst_op hl h
  have hc : bst (fun i => (ansB (knd i) (bxs i) (valT n (decT l i))).1) (plc l) = some (opT l) := by
    rw [← hb]
    apply bst_congr
    intro x hx
    simp only [tkT, hv x hx]
  have hm := bst_mem _ _ _ hb
  show valT l.sum l = _
  rw [hn, valT, hc]
  simp only [tkT, hv _ hm]
theorem knd_bd {i : Nat} (h : i < 62) : 0 ≤ knd i ∧ knd i ≤ 1 ∧ 0 ≤ bxs i ∧ bxs i ≤ 30 ∧ (i : Int) = 31 * knd i + bxs i := by unfold knd bxs; omega
theorem vT_bd : ∀ (n : Nat) (l : List Nat), l.length = 62 → l.sum = n → -(40 * (n : Int)) ≤ vT l ∧ vT l ≤ 40 * (n : Int)
  | 0, l, hl, h => by rw [vT_over h]; omega
  | n + 1, l, hl, h => by
    rw [vT_step hl (by omega)]
    obtain ⟨h1, h2⟩ := op_mem hl (by omega : 0 < l.sum)
    have h3 := sum_dec l (opT l) h2
    have h4 := vT_bd n (decT l (opT l)) (by rw [decT_len]; exact hl) (by omega)
    obtain ⟨k1, k2, k3, k4, _⟩ := knd_bd h1
    have := ansB_bd (knd (opT l)) (bxs (opT l)) (vT (decT l (opT l))) (40 * (n : Int)) k3 k4 h4
    simp only [tkT]
    omega
/-- A tally of at most eight strands. -/
def okT (l : List Nat) : Prop := l.length = 62 ∧ l.sum ≤ 8
theorem okT.dec {l : List Nat} (h : okT l) (i : Nat) (hi : 0 < tg l i) : okT (decT l i) := ⟨by rw [decT_len]; exact h.1, by have := sum_dec l i hi; have := h.2; omega⟩
theorem okT.bd {l : List Nat} (h : okT l) : -320 ≤ vT l ∧ vT l ≤ 320 := by
  have := vT_bd _ l h.1 rfl
  have := h.2
  omega
theorem okT.tk {l : List Nat} (h : okT l) {i : Nat} (hi : i < 62) (h0 : 0 < tg l i) : -360 ≤ tkT l i ∧ tkT l i ≤ 360 := by
  obtain ⟨k1, k2, k3, k4, _⟩ := knd_bd hi
  exact ansB_bd _ _ _ 320 k3 k4 (h.dec i h0).bd

/-! ### the tally of two lists -/
def cntL (cs ls : List Int) : List Nat := (List.range 62).map fun i => if i < 31 then cs.count ((i : Nat) : Int) else ls.count ((i - 31 : Nat) : Int)
theorem cntL_len (cs ls : List Int) : (cntL cs ls).length = 62 := by simp [cntL]
theorem cntL_get (cs ls : List Int) {i : Nat} (h : i < 62) : tg (cntL cs ls) i = if i < 31 then cs.count ((i : Nat) : Int) else ls.count ((i - 31 : Nat) : Int) := by simp [tg, cntL, h]
end Go.Proofs.Ytbfpbkbhikogiab
