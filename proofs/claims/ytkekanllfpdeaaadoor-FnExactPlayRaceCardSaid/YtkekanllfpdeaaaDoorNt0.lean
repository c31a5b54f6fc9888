/-
  The maker: plain; the model's digits.
-/
import Derived.Test.YtkekanllfpdeaaaDoorNs
import Derived.Test.YtkekanllfpdeaaaDoorNo
namespace Go.Proofs.YtkekanllfpdeaaaDoor
open Go.RowKit
set_option linter.unusedVariables false

/-! ### plain -/
def gM (n : Int) (cs : List Int) (F S p : Int) : Bool := decide (lvM n cs (mF F S p) (mS F S p) = 1)
def GM (n : Int) (cs : List Int) (F S : Int) (j : Nat) : Bool := if t1 F S = true then (pre (isFree F S) j).any (gM n cs F S) else (pre (isFree F S) j).all (gM n cs F S)
def FrJ (F S : Int) (j : Nat) : Bool := decide (0 < (pre (isFree F S) j).length)
theorem GM_zero (n : Int) (cs : List Int) (F S : Int) : GM n cs F S 0 = !t1 F S := by
  unfold GM
  cases t1 F S <;> simp [pre_zero]
theorem GM_no {n : Int} {cs : List Int} {F S : Int} {j : Nat} (h : isFree F S j = false) : GM n cs F S (j + 1) = GM n cs F S j ∧ FrJ F S (j + 1) = FrJ F S j := by
  unfold GM FrJ
  rw [pre_no h]
  exact ⟨rfl, rfl⟩
theorem GM_yes {n : Int} {cs : List Int} {F S : Int} {j : Nat} (h : isFree F S j = true) : GM n cs F S (j + 1) = (if t1 F S = true then GM n cs F S j || gM n cs F S j else GM n cs F S j && gM n cs F S j) ∧ FrJ F S (j + 1) = true := by
  unfold GM FrJ
  rw [pre_yes h]
  cases t1 F S <;> simp
theorem kids_range {n : Int} {cs : List Int} {F S y : Int} (h : y ∈ kids (endM n cs) n F S) : -1 ≤ y ∧ y ≤ 1 := by
  obtain ⟨p, _, rfl⟩ := List.mem_map.1 h
  exact val_range (endM_small n cs) _ _ _
theorem maker_step {n : Int} {cs : List Int} {F S : Int} (hst : St n F S) (hf : fil cs F = false) : decide (lvM n cs F S = 1) = (GM n cs F S n.toNat && FrJ F S n.toNat) := by
  by_cases hz : freeN n F S = 0
  · have he : endM n cs F S = some (-1) := by
      unfold endM
      rw [hf, if_neg (by simp), if_pos ((free_of_zero hst).1 hz)]
    have hv : lvM n cs F S = -1 := val_end he
    have hfr : FrJ F S n.toNat = false := by
      unfold FrJ
      have : (pre (isFree F S) n.toNat).length = 0 := hz
      rw [this]; rfl
    rw [hv, hfr]
    simp
  · have he : endM n cs F S = none := by
      unfold endM
      rw [hf, if_neg (by simp), if_neg (fun e => hz ((free_of_zero hst).2 e))]
    have hv : lvM n cs F S = pick (t1 F S) (kids (endM n cs) n F S) := val_step hst he
    have hfr : FrJ F S n.toNat = true := by
      unfold FrJ
      have : 0 < (pre (isFree F S) n.toNat).length := Nat.pos_of_ne_zero hz
      simpa using this
    have hne := kids_ne (E := endM n cs) hz
    rw [hv, hfr, Bool.and_true]
    unfold GM pick
    cases t1 F S
    · simp only [Bool.false_eq_true, if_false]
      have hm := mnL_mem hne
      by_cases h1 : mnL (kids (endM n cs) n F S) = 1
      · rw [decide_eq_true h1]
        symm
        rw [List.all_eq_true]
        intro p hp
        have hy : val (endM n cs) n (mF F S p) (mS F S p) ∈ kids (endM n cs) n F S := List.mem_map.2 ⟨p, hp, rfl⟩
        have h2 := mnL_le hy
        have h3 := kids_range hy
        unfold gM
        simp only [decide_eq_true_eq]
        show val (endM n cs) n (mF F S p) (mS F S p) = 1
        omega
      · rw [decide_eq_false h1]
        symm
        rw [List.all_eq_false]
        obtain ⟨p, hp, he2⟩ := List.mem_map.1 hm
        refine ⟨p, hp, ?_⟩
        unfold gM
        simp only [decide_eq_true_eq]
        show ¬ val (endM n cs) n (mF F S p) (mS F S p) = 1
        rw [he2]
        exact h1
    · simp only [if_true]
      have hm := mxL_mem hne
      by_cases h1 : mxL (kids (endM n cs) n F S) = 1
      · rw [decide_eq_true h1]
        symm
        rw [List.any_eq_true]
        obtain ⟨p, hp, he2⟩ := List.mem_map.1 hm
        refine ⟨p, hp, ?_⟩
        unfold gM
        simp only [decide_eq_true_eq]
        show val (endM n cs) n (mF F S p) (mS F S p) = 1
        rw [he2]
        exact h1
      · rw [decide_eq_false h1]
        symm
        rw [List.any_eq_false]
        intro p hp hg
        have hy : val (endM n cs) n (mF F S p) (mS F S p) ∈ kids (endM n cs) n F S := List.mem_map.2 ⟨p, hp, rfl⟩
        have h2 := mxL_ge hy
        have h3 := kids_range hm
        unfold gM at hg
        simp only [decide_eq_true_eq] at hg
        have h4 : val (endM n cs) n (mF F S p) (mS F S p) = 1 := hg
        omega
theorem gM_fil {n : Int} {cs : List Int} {F S p : Int} (h : fil cs (mF F S p) = true) : gM n cs F S p = true := by
  have he : endM n cs (mF F S p) (mS F S p) = some 1 := by unfold endM; rw [if_pos h]
  have hv : lvM n cs (mF F S p) (mS F S p) = 1 := val_end he
  unfold gM
  rw [hv]
  rfl
theorem pow_nat_small {j : Nat} (h : j < 28) : (0 : Int) < 2 ^ j ∧ (2 : Int) ^ j < 268435456 ∧ wrap64 ((2 : Int) ^ j) = 2 ^ j := by
  have h1 : (0 : Int) < 2 ^ j := Int.pow_pos (by decide)
  have h2 := pow_mono (a := j) (b := 27) (by omega)
  have h3 : (2 : Int) ^ 27 = 134217728 := by decide
  refine ⟨h1, by omega, ?_⟩
  unfold wrap64
  omega
theorem and_own {o : Int} {j : Nat} (h0 : 0 ≤ o) (h1 : o < 268435456) (hj : j < 28) : ∃ e : Int, bits BinOp.and IntKind.i64 o ((2 : Int) ^ j) = e ∧ (e != 0) = drawn o j := by
  obtain ⟨p0, p1, _⟩ := pow_nat_small hj
  refine ⟨andI o (2 ^ j), and_walkI h0 h1 (by omega) p1, ?_⟩
  obtain ⟨m, rfl⟩ := Int.eq_ofNat_of_zero_le h0
  have e2 : andI (m : Int) ((2 : Int) ^ j) = ((m &&& 2 ^ j : Nat) : Int) := by
    unfold andI
    rw [show ((2 : Int) ^ j).toNat = 2 ^ j by have : ((2 ^ j : Nat) : Int) = (2 : Int) ^ j := by simp
                                              omega]
    rfl
  rw [e2, drawn_nat]
  have h3 : m &&& 2 ^ j = if m.testBit j then 2 ^ j else 0 := by
    apply Nat.eq_of_testBit_eq
    intro i
    rw [Nat.testBit_and, Nat.testBit_two_pow]
    cases hb : m.testBit j
    · by_cases e : j = i
      · subst e; simp [hb]
      · simp [e]
    · by_cases e : j = i
      · subst e; simp [hb]
      · simp [e]
  rw [h3]
  have hp : 0 < 2 ^ j := Nat.pow_pos (by decide)
  cases m.testBit j
  · rfl
  · simp only [if_true]
    have h9 : ((2 ^ j : Nat) : Int) ≠ 0 := by omega
    exact bne_iff_ne.2 h9
/-- 'w | own'. -/
theorem or_own {F : Int} {j : Nat} (h0 : 0 ≤ F) (h1 : F < 268435456) (hj : j < 28) : bits BinOp.or IntKind.i64 F ((2 : Int) ^ j) = withE F j := by
  have := or_walkL (E := F) (k := (j : Int)) h0 h1 (by rw [Int.toNat_natCast]; exact hj)
  rw [Int.toNat_natCast] at this
  exact this

end Go.Proofs.YtkekanllfpdeaaaDoor
