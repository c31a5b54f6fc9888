/-
  Games of lines on points: digits of numbers, sets, how many nodes a set has. No walk stands here.
-/
import Derived.Test.YtogfoahejgmfgaaCo
import Derived.Laws.BitsAllLaws
namespace Go.Proofs.Ytogfoahejgmfgaa
open Go.RowKit
set_option linter.unusedVariables false

/-- The digit of E at k. -/
def dg (E k : Int) : Int := E / 2 ^ k.toNat % 2
def drawn (E k : Int) : Bool := decide (dg E k = 1)
def withE (E k : Int) : Int := ((E.toNat ||| 2 ^ k.toNat : Nat) : Int)
theorem dg_nat (n k : Nat) : dg (n : Int) (k : Int) = if n.testBit k then 1 else 0 := by
  unfold dg
  rw [Nat.testBit_eq_decide_div_mod_eq]
  have h : ((n : Int) / 2 ^ (k : Int).toNat % 2) = ((n / 2 ^ k % 2 : Nat) : Int) := by simp
  rw [h]
  have h2 : n / 2 ^ k % 2 = 0 ∨ n / 2 ^ k % 2 = 1 := by omega
  rcases h2 with h2 | h2 <;> simp [h2]
theorem drawn_nat (n k : Nat) : drawn (n : Int) (k : Int) = n.testBit k := by
  unfold drawn
  rw [dg_nat]
  cases n.testBit k <;> simp
theorem dg_01 (E k : Int) : dg E k = 0 ∨ dg E k = 1 := by
  unfold dg
  omega
theorem dg_of_drawn {E k : Int} (h : drawn E k = true) : dg E k = 1 := by simpa [drawn] using h
theorem dg_of_free {E k : Int} (h : drawn E k = false) : dg E k = 0 := by
  have := dg_01 E k
  have h' : ¬ dg E k = 1 := by simpa [drawn] using h
  omega
theorem withE_nonneg (E k : Int) : 0 ≤ withE E k := by unfold withE; omega
theorem withE_lt {E k : Int} {n : Nat} (h0 : 0 ≤ E) (h : E < 2 ^ n) (hk : k.toNat < n) : withE E k < 2 ^ n := by
  obtain ⟨m, rfl⟩ := Int.eq_ofNat_of_zero_le h0
  unfold withE
  have hm : m < 2 ^ n := by exact_mod_cast h
  have h2 : (2 : Nat) ^ k.toNat < 2 ^ n := Nat.pow_lt_pow_right (by omega) hk
  have := Nat.or_lt_two_pow hm h2
  have h3 : (((m ||| 2 ^ k.toNat : Nat) : Int)) < ((2 ^ n : Nat) : Int) := by exact_mod_cast this
  simpa using h3
theorem dg_withE {E k j : Int} (h0 : 0 ≤ E) (hk : 0 ≤ k) (hj : 0 ≤ j) : dg (withE E k) j = if j = k then 1 else dg E j := by
  obtain ⟨m, rfl⟩ := Int.eq_ofNat_of_zero_le h0
  obtain ⟨a, rfl⟩ := Int.eq_ofNat_of_zero_le hk
  obtain ⟨b, rfl⟩ := Int.eq_ofNat_of_zero_le hj
  unfold withE
  rw [dg_nat, dg_nat]
  have hb : ((m : Int).toNat ||| 2 ^ (a : Int).toNat).testBit b = (m.testBit b || decide (a = b)) := by
    rw [Nat.testBit_or, Nat.testBit_two_pow]
    rfl
  rw [hb]
  by_cases e : b = a
  · subst e; simp
  · have e' : ¬ (a = b) := fun x => e x.symm
    have e2 : ¬ ((b : Int) = (a : Int)) := by omega
    simp [e', e2]

/-! ### the walk's words for digits -/
theorem wraps_i64 (n : Int) (h0 : 0 ≤ n) (h1 : n < 2 ^ 63) : IntKind.i64.wrap n = n := by rw [IntKind.wrap_i64]; omega
theorem dg_walk {E k : Int} (h0 : 0 ≤ E) (h1 : E < 16777216) : bits BinOp.and IntKind.i64 (E / 2 ^ k.toNat) 1 = dg E k := by
  have hp : (0 : Int) < 2 ^ k.toNat := Int.pow_pos (by decide)
  have h2 : 0 ≤ E / 2 ^ k.toNat := Int.ediv_nonneg h0 (Int.le_of_lt hp)
  have h3 : E / 2 ^ k.toNat ≤ E := Int.ediv_le_self _ h0
  have := bits_mask .i64 63 (by decide) wraps_i64 1 (by decide) (E / 2 ^ k.toNat) h2 (by omega)
  simpa [dg] using this
theorem or_walk {E k : Int} (h0 : 0 ≤ E) (h1 : E < 16777216) (hk : k.toNat < 24) : bits BinOp.or IntKind.i64 E (2 ^ k.toNat) = withE E k := by
  obtain ⟨m, rfl⟩ := Int.eq_ofNat_of_zero_le h0
  have h3 : (2 : Nat) ^ k.toNat < 2 ^ 24 := Nat.pow_lt_pow_right (by omega) hk
  have h4 : (2 : Nat) ^ 24 ≤ 2 ^ 63 := Nat.pow_le_pow_right (by omega) (by omega)
  have := (bits_nat .i64 63 (by decide) wraps_i64 m (2 ^ k.toNat) (by omega) (by omega)).2
  rw [Int.natCast_pow] at this
  exact this
theorem wrap64_small {n : Int} (h0 : 0 ≤ n) (h1 : n ≤ 16777216) : wrap64 n = n := by unfold wrap64; omega
theorem pow_small {k : Int} (hk : k.toNat < 25) : (0 : Int) ≤ 2 ^ k.toNat ∧ (2 : Int) ^ k.toNat ≤ 16777216 := by
  refine ⟨Int.le_of_lt (Int.pow_pos (by decide)), ?_⟩
  have : (2 : Nat) ^ k.toNat ≤ 2 ^ 24 := Nat.pow_le_pow_right (by omega) (by omega)
  have h2 : ((2 ^ k.toNat : Nat) : Int) ≤ ((2 ^ 24 : Nat) : Int) := by exact_mod_cast this
  simpa using h2
theorem shl_walk64 {k : Int} (hk : k.toNat < 25) : wrap64 ((2 : Int) ^ k.toNat) = 2 ^ k.toNat := wrap64_small (pow_small hk).1 (pow_small hk).2

/-! ### digits of numbers below 2^28 -/
theorem dg_walkL {E k : Int} (h0 : 0 ≤ E) (h1 : E < 268435456) : bits BinOp.and IntKind.i64 (E / 2 ^ k.toNat) 1 = dg E k := by
  have hp : (0 : Int) < 2 ^ k.toNat := Int.pow_pos (by decide)
  have h2 : 0 ≤ E / 2 ^ k.toNat := Int.ediv_nonneg h0 (Int.le_of_lt hp)
  have h3 : E / 2 ^ k.toNat ≤ E := Int.ediv_le_self _ h0
  have := bits_mask .i64 63 (by decide) wraps_i64 1 (by decide) (E / 2 ^ k.toNat) h2 (by omega)
  simpa [dg] using this
theorem or_walkL {E k : Int} (h0 : 0 ≤ E) (h1 : E < 268435456) (hk : k.toNat < 28) : bits BinOp.or IntKind.i64 E (2 ^ k.toNat) = withE E k := by
  obtain ⟨m, rfl⟩ := Int.eq_ofNat_of_zero_le h0
  have h3 : (2 : Nat) ^ k.toNat < 2 ^ 28 := Nat.pow_lt_pow_right (by omega) hk
  have h4 : (2 : Nat) ^ 28 ≤ 2 ^ 63 := Nat.pow_le_pow_right (by omega) (by omega)
  have := (bits_nat .i64 63 (by decide) wraps_i64 m (2 ^ k.toNat) (by omega) (by omega)).2
  rw [Int.natCast_pow] at this
  exact this
/-- Two numbers' digits together; both. -/
def orI (x y : Int) : Int := ((x.toNat ||| y.toNat : Nat) : Int)
def andI (x y : Int) : Int := ((x.toNat &&& y.toNat : Nat) : Int)
theorem or_walkI {x y : Int} (h0 : 0 ≤ x) (h1 : x < 268435456) (k0 : 0 ≤ y) (k1 : y < 268435456) : bits BinOp.or IntKind.i64 x y = orI x y := by
  obtain ⟨m, rfl⟩ := Int.eq_ofNat_of_zero_le h0
  obtain ⟨n, rfl⟩ := Int.eq_ofNat_of_zero_le k0
  exact (bits_nat .i64 63 (by decide) wraps_i64 m n (by omega) (by omega)).2
theorem and_walkI {x y : Int} (h0 : 0 ≤ x) (h1 : x < 268435456) (k0 : 0 ≤ y) (k1 : y < 268435456) : bits BinOp.and IntKind.i64 x y = andI x y := by
  obtain ⟨m, rfl⟩ := Int.eq_ofNat_of_zero_le h0
  obtain ⟨n, rfl⟩ := Int.eq_ofNat_of_zero_le k0
  exact (bits_nat .i64 63 (by decide) wraps_i64 m n (by omega) (by omega)).1
theorem orI_range {x y : Int} {n : Nat} (h0 : 0 ≤ x) (h1 : x < 2 ^ n) (k0 : 0 ≤ y) (k1 : y < 2 ^ n) : 0 ≤ orI x y ∧ orI x y < 2 ^ n := by
  obtain ⟨a, rfl⟩ := Int.eq_ofNat_of_zero_le h0
  obtain ⟨b, rfl⟩ := Int.eq_ofNat_of_zero_le k0
  have ha : a < 2 ^ n := by exact_mod_cast h1
  have hb : b < 2 ^ n := by exact_mod_cast k1
  have h := Nat.or_lt_two_pow ha hb
  refine ⟨by unfold orI; omega, ?_⟩
  have h3 : (((a ||| b : Nat) : Int)) < ((2 ^ n : Nat) : Int) := by exact_mod_cast h
  simpa [orI] using h3
theorem drawn_orI {x y k : Int} (h0 : 0 ≤ x) (k0 : 0 ≤ y) (hk : 0 ≤ k) : drawn (orI x y) k = (drawn x k || drawn y k) := by
  obtain ⟨a, rfl⟩ := Int.eq_ofNat_of_zero_le h0
  obtain ⟨b, rfl⟩ := Int.eq_ofNat_of_zero_le k0
  obtain ⟨c, rfl⟩ := Int.eq_ofNat_of_zero_le hk
  unfold orI
  rw [drawn_nat, drawn_nat, drawn_nat]
  simp [Nat.testBit_or]
theorem andI_zero {x y k : Int} (h0 : 0 ≤ x) (k0 : 0 ≤ y) (hk : 0 ≤ k) (h : andI x y = 0) : ¬ (drawn x k = true ∧ drawn y k = true) := by
  obtain ⟨a, rfl⟩ := Int.eq_ofNat_of_zero_le h0
  obtain ⟨b, rfl⟩ := Int.eq_ofNat_of_zero_le k0
  obtain ⟨c, rfl⟩ := Int.eq_ofNat_of_zero_le hk
  unfold andI at h
  have h2 : ((a : Int).toNat &&& (b : Int).toNat) = 0 := by omega
  have h3 : (a &&& b).testBit c = false := by
    have e : a &&& b = 0 := h2
    rw [e]; simp
  rw [drawn_nat, drawn_nat]
  rw [Nat.testBit_and] at h3
  rintro ⟨p, q⟩
  simp [p, q] at h3
theorem drawn_withE {E k j : Int} (h0 : 0 ≤ E) (hk : 0 ≤ k) (hj : 0 ≤ j) : drawn (withE E k) j = (decide (j = k) || drawn E j) := by
  unfold drawn
  rw [dg_withE h0 hk hj]
  by_cases e : j = k <;> simp [e]
theorem withE_free {E F k : Int} (h0 : 0 ≤ E) (k0 : 0 ≤ F) (hk : 0 ≤ k) (h : andI E F = 0) (hF : drawn F k = false) : andI (withE E k) F = 0 := by
  obtain ⟨a, rfl⟩ := Int.eq_ofNat_of_zero_le h0
  obtain ⟨b, rfl⟩ := Int.eq_ofNat_of_zero_le k0
  obtain ⟨c, rfl⟩ := Int.eq_ofNat_of_zero_le hk
  rw [drawn_nat] at hF
  unfold andI at h
  have h1 : a &&& b = 0 := by have : ((a : Int).toNat &&& (b : Int).toNat) = 0 := by omega
                              exact this
  have h2 : ((a ||| 2 ^ c) &&& b) = 0 := by
    apply Nat.eq_of_testBit_eq
    intro i
    have h3 : (a &&& b).testBit i = false := by rw [h1]; simp
    rw [Nat.testBit_and] at h3
    rw [Nat.testBit_and, Nat.testBit_or, Nat.testBit_two_pow]
    by_cases e : c = i
    · subst e; simp [hF]
    · simp [e]; simpa using h3
  unfold andI withE
  have : (((a : Int).toNat ||| 2 ^ (c : Int).toNat : Nat) : Int).toNat &&& (b : Int).toNat = 0 := h2
  rw [this]; rfl
theorem andI_comm (x y : Int) : andI x y = andI y x := by unfold andI; rw [Nat.and_comm]
theorem orI_comm (x y : Int) : orI x y = orI y x := by unfold orI; rw [Nat.or_comm]
theorem dg_orI_free {x y k : Int} (h0 : 0 ≤ x) (k0 : 0 ≤ y) (hk : 0 ≤ k) : dg (orI x y) k = if drawn x k = true ∨ drawn y k = true then 1 else 0 := by
  by_cases h : drawn x k = true ∨ drawn y k = true
  · rw [if_pos h]
    apply dg_of_drawn
    rw [drawn_orI h0 k0 hk]
    rcases h with h | h <;> simp [h]
  · rw [if_neg h]
    apply dg_of_free
    rw [drawn_orI h0 k0 hk]
    simp only [not_or, Bool.not_eq_true] at h
    simp [h.1, h.2]

theorem pow_mono {a b : Nat} (h : a ≤ b) : (2 : Int) ^ a ≤ 2 ^ b := by
  have : (2 : Nat) ^ a ≤ 2 ^ b := Nat.pow_le_pow_right (by omega) h
  have h2 : ((2 ^ a : Nat) : Int) ≤ ((2 ^ b : Nat) : Int) := by exact_mod_cast this
  simpa using h2
end Go.Proofs.Ytogfoahejgmfgaa
