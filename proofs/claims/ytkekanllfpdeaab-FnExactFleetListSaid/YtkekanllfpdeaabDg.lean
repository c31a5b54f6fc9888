/-
  Games of lines on points: digits of numbers, sets, how many nodes a set has. No walk stands here.
-/
import Derived.Test.YtkekanllfpdeaabCo
import Derived.Laws.BitsAllLaws
namespace Go.Proofs.Ytkekanllfpdeaab
open Go.RowKit
set_option linter.unusedVariables false

/-- The digit of E at k. -/
def dg (E k : Int) : Int := E / 2 ^ k.toNat % 2
def drawn (E k : Int) : Bool := decide (dg E k = 1)
def withE (E k : Int) : Int := ((E.toNat ||| 2 ^ k.toNat : Nat) : Int)
theorem dg_nat (n k : Nat) : dg (n : Int) (k : Int) = if n.testBit k then 1 else 0 := by
  unfold dg
  rw [Nat.testBit_eq_decide_div_mod_eq]
  have h : ((n : Int) / 2 ^ (k : Int).toNat % 2) = ((n / 2 ^ k % 2 : Nat) : Int) := by simp
  rw [h]
  have h2 : n / 2 ^ k % 2 = 0 ∨ n / 2 ^ k % 2 = 1 := by omega
  rcases h2 with h2 | h2 <;> simp [h2]
theorem drawn_nat (n k : Nat) : drawn (n : Int) (k : Int) = n.testBit k := by
  unfold drawn
  rw [dg_nat]
  cases n.testBit k <;> simp
theorem dg_01 (E k : Int) : dg E k = 0 ∨ dg E k = 1 := by
  unfold dg
  omega
theorem dg_of_drawn {E k : Int} (h : drawn E k = true) : dg E k = 1 := by simpa [drawn] using h
theorem dg_of_free {E k : Int} (h : drawn E k = false) : dg E k = 0 := by
  have := dg_01 E k
  have h' : ¬ dg E k = 1 := by simpa [drawn] using h
  omega
theorem withE_nonneg (E k : Int) : 0 ≤ withE E k := by unfold withE; omega
theorem withE_lt {E k : Int} {n : Nat} (h0 : 0 ≤ E) (h : E < 2 ^ n) (hk : k.toNat < n) : withE E k < 2 ^ n := by
  obtain ⟨m, rfl⟩ := Int.eq_ofNat_of_zero_le h0
  unfold withE
  have hm : m < 2 ^ n := by exact_mod_cast h
  have h2 : (2 : Nat) ^ k.toNat < 2 ^ n := Nat.pow_lt_pow_right (by omega) hk
  have := Nat.or_lt_two_pow hm h2
  have h3 : (((m ||| 2 ^ k.toNat : Nat) : Int)) < ((2 ^ n : Nat) : Int) := by exact_mod_cast this
  simpa using h3
theorem dg_withE {E k j : Int} (h0 : 0 ≤ E) (hk : 0 ≤ k) (hj : 0 ≤ j) : dg (withE E k) j = if j = k then 1 else dg E j := by
  obtain ⟨m, rfl⟩ := Int.eq_ofNat_of_zero_le h0
  obtain ⟨a, rfl⟩ := Int.eq_ofNat_of_zero_le hk
  obtain ⟨b, rfl⟩ := Int.eq_ofNat_of_zero_le hj
  unfold withE
  rw [dg_nat, dg_nat]
  have hb : ((m : Int).toNat ||| 2 ^ (a : Int).toNat).testBit b = (m.testBit b || decide (a = b)) := by
    rw [Nat.testBit_or, Nat.testBit_two_pow]
    rfl
  rw [hb]
  by_cases e : b = a
  · subst e; simp
  · have e' : ¬ (a = b) := fun x => e x.symm
    have e2 : ¬ ((b : Int) = (a : Int)) := by omega
    simp [e', e2]

/-! ### the walk's words for digits -/
theorem wraps_i64 (n : Int) (h0 : 0 ≤ n) (h1 : n < 2 ^ 63) : IntKind.i64.wrap n = n := by rw [IntKind.wrap_i64]; omega
theorem dg_walk {E k : Int} (h0 : 0 ≤ E) (h1 : E < 16777216) : bits BinOp.and IntKind.i64 (E / 2 ^ k.toNat) 1 = dg E k := by
  have hp : (0 : Int) < 2 ^ k.toNat := Int.pow_pos (by decide)
  have h2 : 0 ≤ E / 2 ^ k.toNat := Int.ediv_nonneg h0 (Int.le_of_lt hp)
  have h3 : E / 2 ^ k.toNat ≤ E := Int.ediv_le_self _ h0
  have := bits_mask .i64 63 (by decide) wraps_i64 1 (by decide) (E / 2 ^ k.toNat) h2 (by omega)
  simpa [dg] using this
theorem or_walk {E k : Int} (h0 : 0 ≤ E) (h1 : E < 16777216) (hk : k.toNat < 24) : bits BinOp.or IntKind.i64 E (2 ^ k.toNat) = withE E k := by
  obtain ⟨m, rfl⟩ := Int.eq_ofNat_of_zero_le h0
  have h3 : (2 : Nat) ^ k.toNat < 2 ^ 24 := Nat.pow_lt_pow_right (by omega) hk
  have h4 : (2 : Nat) ^ 24 ≤ 2 ^ 63 := Nat.pow_le_pow_right (by omega) (by omega)
  have := (bits_nat .i64 63 (by decide) wraps_i64 m (2 ^ k.toNat) (by omega) (by omega)).2
  rw [Int.natCast_pow] at this
  exact this
theorem wrap64_small {n : Int} (h0 : 0 ≤ n) (h1 : n ≤ 16777216) : wrap64 n = n := by unfold wrap64; omega
theorem pow_small {k : Int} (hk : k.toNat < 25) : (0 : Int) ≤ 2 ^ k.toNat ∧ (2 : Int) ^ k.toNat ≤ 16777216 := by
  refine ⟨Int.le_of_lt (Int.pow_pos (by decide)), ?_⟩
  have : (2 : Nat) ^ k.toNat ≤ 2 ^ 24 := Nat.pow_le_pow_right (by omega) (by omega)
  have h2 : ((2 ^ k.toNat : Nat) : Int) ≤ ((2 ^ 24 : Nat) : Int) := by exact_mod_cast this
  simpa using h2
theorem shl_walk64 {k : Int} (hk : k.toNat < 25) : wrap64 ((2 : Int) ^ k.toNat) = 2 ^ k.toNat := wrap64_small (pow_small hk).1 (pow_small hk).2

/-! ### digits of numbers below 2^28 -/
theorem dg_walkL {E k : Int} (h0 : 0 ≤ E) (h1 : E < 268435456) : bits BinOp.and IntKind.i64 (E / 2 ^ k.toNat) 1 = dg E k := by
  have hp : (0 : Int) < 2 ^ k.toNat := Int.pow_pos (by decide)
  have h2 : 0 ≤ E / 2 ^ k.toNat := Int.ediv_nonneg h0 (Int.le_of_lt hp)
  have h3 : E / 2 ^ k.toNat ≤ E := Int.ediv_le_self _ h0
  have := bits_mask .i64 63 (by decide) wraps_i64 1 (by decide) (E / 2 ^ k.toNat) h2 (by omega)
  simpa [dg] using this
theorem or_walkL {E k : Int} (h0 : 0 ≤ E) (h1 : E < 268435456) (hk : k.toNat < 28) : bits BinOp.or IntKind.i64 E (2 ^ k.toNat) = withE E k := by
  obtain ⟨m, rfl⟩ := Int.eq_ofNat_of_zero_le h0
  have h3 : (2 : Nat) ^ k.toNat < 2 ^ 28 := Nat.pow_lt_pow_right (by omega) hk
  have h4 : (2 : Nat) ^ 28 ≤ 2 ^ 63 := Nat.pow_le_pow_right (by omega) (by omega)
  have := (bits_nat .i64 63 (by decide) wraps_i64 m (2 ^ k.toNat) (by omega) (by omega)).2
  rw [Int.natCast_pow] at this
  exact this
/-- Two numbers' digits together; both. -/
def orI (x y : Int) : Int := ((x.toNat ||| y.toNat : Nat) : Int)
def andI (x y : Int) : Int := ((x.toNat &&& y.toNat : Nat) : Int)
theorem or_walkI {x y : Int} (h0 : 0 ≤ x) (h1 : x < 268435456) (k0 : 0 ≤ y) (k1 : y < 268435456) : bits BinOp.or IntKind.i64 x y = orI x y := by
  obtain ⟨m, rfl⟩ := Int.eq_ofNat_of_zero_le h0
  obtain ⟨n, rfl⟩ := Int.eq_ofNat_of_zero_le k0
  exact (bits_nat .i64 63 (by decide) wraps_i64 m n (by omega) (by omega)).2
theorem and_walkI {x y : Int} (h0 : 0 ≤ x) (h1 : x < 268435456) (k0 : 0 ≤ y) (k1 : y < 268435456) : bits BinOp.and IntKind.i64 x y = andI x y := by
  obtain ⟨m, rfl⟩ := Int.eq_ofNat_of_zero_le h0
  obtain ⟨n, rfl⟩ := Int.eq_ofNat_of_zero_le k0
  exact (bits_nat .i64 63 (by decide) wraps_i64 m n (by omega) (by omega)).1
theorem orI_range {x y : Int} {n : Nat} (h0 : 0 ≤ x) (h1 : x < 2 ^ n) (k0 : 0 ≤ y) (k1 : y < 2 ^ n) : 0 ≤ orI x y ∧ orI x y < 2 ^ n := by
  obtain ⟨a, rfl⟩ := Int.eq_ofNat_of_zero_le h0
  obtain ⟨b, rfl⟩ := Int.eq_ofNat_of_zero_le k0
  have ha : a < 2 ^ n := by exact_mod_cast h1
  have hb : b < 2 ^ n := by exact_mod_cast k1
  have h := Nat.or_lt_two_pow ha hb
  refine ⟨by unfold orI; omega, ?_⟩
  have h3 : (((a ||| b : Nat) : Int)) < ((2 ^ n : Nat) : Int) := by exact_mod_cast h
  simpa [orI] using h3
theorem drawn_orI {x y k : Int} (h0 : 0 ≤ x) (k0 : 0 ≤ y) (hk : 0 ≤ k) : drawn (orI x y) k = (drawn x k || drawn y k) := by
  obtain ⟨a, rfl⟩ := Int.eq_ofNat_of_zero_le h0
  obtain ⟨b, rfl⟩ := Int.eq_ofNat_of_zero_le k0
  obtain ⟨c, rfl⟩ := Int.eq_ofNat_of_zero_le hk
  unfold orI
  rw [drawn_nat, drawn_nat, drawn_nat]
  simp [Nat.testBit_or]
theorem andI_zero {x y k : Int} (h0 : 0 ≤ x) (k0 : 0 ≤ y) (hk : 0 ≤ k) (h : andI x y = 0) : ¬ (drawn x k = true ∧ drawn y k = true) := by
  obtain ⟨a, rfl⟩ := Int.eq_ofNat_of_zero_le h0
  obtain ⟨b, rfl⟩ := Int.eq_ofNat_of_zero_le k0
  obtain ⟨c, rfl⟩ := Int.eq_ofNat_of_zero_le hk
  unfold andI at h
  have h2 : ((a : Int).toNat &&& (b : Int).toNat) = 0 := by omega
  have h3 : (a &&& b).testBit c = false := by
    have e : a &&& b = 0 := h2
    rw [e]; simp
  rw [drawn_nat, drawn_nat]
  rw [Nat.testBit_and] at h3
  rintro ⟨p, q⟩
  simp [p, q] at h3
theorem drawn_withE {E k j : Int} (h0 : 0 ≤ E) (hk : 0 ≤ k) (hj : 0 ≤ j) : drawn (withE E k) j = (decide (j = k) || drawn E j) := by
  unfold drawn
  rw [dg_withE h0 hk hj]
  by_cases e : j = k <;> simp [e]
theorem withE_free {E F k : Int} (h0 : 0 ≤ E) (k0 : 0 ≤ F) (hk : 0 ≤ k) (h : andI E F = 0) (hF : drawn F k = false) : andI (withE E k) F = 0 := by
  obtain ⟨a, rfl⟩ := Int.eq_ofNat_of_zero_le h0
  obtain ⟨b, rfl⟩ := Int.eq_ofNat_of_zero_le k0
  obtain ⟨c, rfl⟩ := Int.eq_ofNat_of_zero_le hk
  rw [drawn_nat] at hF
  unfold andI at h
  have h1 : a &&& b = 0 := by have : ((a : Int).toNat &&& (b : Int).toNat) = 0 := by omega
                              exact this
  have h2 : ((a ||| 2 ^ c) &&& b) = 0 := by
    apply Nat.eq_of_testBit_eq
    intro i
    have h3 : (a &&& b).testBit i = false := by rw [h1]; simp
    rw [Nat.testBit_and] at h3
    rw [Nat.testBit_and, Nat.testBit_or, Nat.testBit_two_pow]
    by_cases e : c = i
    · subst e; simp [hF]
    · simp [e]; simpa using h3
  unfold andI withE
  have : (((a : Int).toNat ||| 2 ^ (c : Int).toNat : Nat) : Int).toNat &&& (b : Int).toNat = 0 := h2
  rw [this]; rfl
theorem andI_comm (x y : Int) : andI x y = andI y x := by unfold andI; rw [Nat.and_comm]
theorem orI_comm (x y : Int) : orI x y = orI y x := by unfold orI; rw [Nat.or_comm]
theorem dg_orI_free {x y k : Int} (h0 : 0 ≤ x) (k0 : 0 ≤ y) (hk : 0 ≤ k) : dg (orI x y) k = if drawn x k = true ∨ drawn y k = true then 1 else 0 := by
  by_cases h : drawn x k = true ∨ drawn y k = true
  · rw [if_pos h]
    apply dg_of_drawn
    rw [drawn_orI h0 k0 hk]
    rcases h with h | h <;> simp [h]
  · rw [if_neg h]
    apply dg_of_free
    rw [drawn_orI h0 k0 hk]
    simp only [not_or, Bool.not_eq_true] at h
    simp [h.1, h.2]

theorem pow_mono {a b : Nat} (h : a ≤ b) : (2 : Int) ^ a ≤ 2 ^ b := by
  have : (2 : Nat) ^ a ≤ 2 ^ b := Nat.pow_le_pow_right (by omega) h
  have h2 : ((2 ^ a : Nat) : Int) ≤ ((2 ^ b : Nat) : Int) := by exact_mod_cast this
  simpa using h2
/-! ### those of the first k numbers -/
def pre (p : Int → Bool) (k : Nat) : List Int := ((List.range k).filter (fun i : Nat => p (i : Int))).map (fun i : Nat => (i : Int))
theorem pre_yes {p : Int → Bool} {k : Nat} (h : p (k : Int) = true) : pre p (k + 1) = pre p k ++ [(k : Int)] := by simp [pre, List.range_succ, h]
theorem pre_no {p : Int → Bool} {k : Nat} (h : p (k : Int) = false) : pre p (k + 1) = pre p k := by simp [pre, List.range_succ, h]
theorem pre_zero (p : Int → Bool) : pre p 0 = [] := rfl
theorem pre_le (p : Int → Bool) (k : Nat) : (pre p k).length ≤ k := by
  unfold pre
  rw [List.length_map]
  exact Nat.le_trans (List.length_filter_le _ _) (by simp)
theorem pre_mem {p : Int → Bool} {k : Nat} {z : Int} (h : z ∈ pre p k) : 0 ≤ z ∧ z < k ∧ p z = true := by
  simp only [pre, List.mem_map, List.mem_filter, List.mem_range] at h
  obtain ⟨i, ⟨h1, h2⟩, rfl⟩ := h
  exact ⟨by omega, by omega, h2⟩
theorem pre_congr {p q : Int → Bool} {k : Nat} (h : ∀ i : Nat, i < k → p (i : Int) = q (i : Int)) : pre p k = pre q k := by
  unfold pre
  congr 1
  exact List.filter_congr fun i hi => h i (List.mem_range.1 hi)


/-! ### 'and not' -/
def diffI (x y : Int) : Int := ((x.toNat ^^^ (x.toNat &&& y.toNat) : Nat) : Int)
theorem diff_nat_bit (m n i : Nat) : (m ^^^ (m &&& n)).testBit i = (m.testBit i && !n.testBit i) := by
  rw [Nat.testBit_xor, Nat.testBit_and]
  cases m.testBit i <;> cases n.testBit i <;> rfl
theorem diff_walkI {x y : Int} (h0 : 0 ≤ x) (h1 : x < 268435456) (k0 : 0 ≤ y) (k1 : y < 268435456) : bits BinOp.andNot IntKind.i64 x y = diffI x y := by
  obtain ⟨m, rfl⟩ := Int.eq_ofNat_of_zero_le h0
  obtain ⟨n, rfl⟩ := Int.eq_ofNat_of_zero_le k0
  show IntKind.i64.wrap ((BitVec.ofInt 64 (m : Int) &&& ~~~BitVec.ofInt 64 (n : Int)).toNat : Int) = _
  have e : (BitVec.ofInt 64 (m : Int) &&& ~~~BitVec.ofInt 64 (n : Int)).toNat = m ^^^ (m &&& n) := by
    rw [BitVec.toNat_and, BitVec.toNat_not, ofInt_u64 m (by omega), ofInt_u64 n (by omega)]
    apply Nat.eq_of_testBit_eq
    intro i
    rw [diff_nat_bit, Nat.testBit_and, show 2 ^ 64 - 1 - n = 2 ^ 64 - (n + 1) by omega, Nat.testBit_two_pow_sub_succ (by omega)]
    by_cases hi : i < 64
    · simp [hi]
    · have : m.testBit i = false := Nat.testBit_lt_two_pow (Nat.lt_of_lt_of_le (by omega : m < 2 ^ 64) (Nat.pow_le_pow_right (by omega) (by omega)))
      simp [this]
  rw [e]
  have hle : m ^^^ (m &&& n) < 2 ^ 28 := Nat.xor_lt_two_pow (by omega) (Nat.lt_of_le_of_lt Nat.and_le_left (by omega))
  exact wraps_i64 _ (by omega) (by omega)
theorem drawn_diffI {x y k : Int} (h0 : 0 ≤ x) (k0 : 0 ≤ y) (hk : 0 ≤ k) : drawn (diffI x y) k = (drawn x k && !drawn y k) := by
  obtain ⟨a, rfl⟩ := Int.eq_ofNat_of_zero_le h0
  obtain ⟨b, rfl⟩ := Int.eq_ofNat_of_zero_le k0
  obtain ⟨c, rfl⟩ := Int.eq_ofNat_of_zero_le hk
  unfold diffI
  rw [drawn_nat, drawn_nat, drawn_nat]
  exact diff_nat_bit a b c
theorem drawn_andI {x y k : Int} (h0 : 0 ≤ x) (k0 : 0 ≤ y) (hk : 0 ≤ k) : drawn (andI x y) k = (drawn x k && drawn y k) := by
  obtain ⟨a, rfl⟩ := Int.eq_ofNat_of_zero_le h0
  obtain ⟨b, rfl⟩ := Int.eq_ofNat_of_zero_le k0
  obtain ⟨c, rfl⟩ := Int.eq_ofNat_of_zero_le hk
  unfold andI
  rw [drawn_nat, drawn_nat, drawn_nat]
  simp [Nat.testBit_and]
theorem diffI_range {x y : Int} {n : Nat} (h0 : 0 ≤ x) (h1 : x < 2 ^ n) (k0 : 0 ≤ y) : 0 ≤ diffI x y ∧ diffI x y < 2 ^ n := by
  obtain ⟨a, rfl⟩ := Int.eq_ofNat_of_zero_le h0
  obtain ⟨b, rfl⟩ := Int.eq_ofNat_of_zero_le k0
  have ha : a < 2 ^ n := by exact_mod_cast h1
  have h : a ^^^ (a &&& b) < 2 ^ n := Nat.xor_lt_two_pow ha (Nat.lt_of_le_of_lt Nat.and_le_left ha)
  refine ⟨by unfold diffI; omega, ?_⟩
  have h3 : (((a ^^^ (a &&& b) : Nat) : Int)) < ((2 ^ n : Nat) : Int) := by exact_mod_cast h
  simpa [diffI] using h3
theorem andI_range {x y : Int} {n : Nat} (h0 : 0 ≤ x) (h1 : x < 2 ^ n) (k0 : 0 ≤ y) : 0 ≤ andI x y ∧ andI x y < 2 ^ n := by
  obtain ⟨a, rfl⟩ := Int.eq_ofNat_of_zero_le h0
  obtain ⟨b, rfl⟩ := Int.eq_ofNat_of_zero_le k0
  have ha : a < 2 ^ n := by exact_mod_cast h1
  have h : a &&& b < 2 ^ n := Nat.lt_of_le_of_lt Nat.and_le_left ha
  refine ⟨by unfold andI; omega, ?_⟩
  have h3 : (((a &&& b : Nat) : Int)) < ((2 ^ n : Nat) : Int) := by exact_mod_cast h
  simpa [andI] using h3
theorem eq_of_drawn {n : Nat} {x y : Int} (h0 : 0 ≤ x) (h1 : x < 2 ^ n) (k0 : 0 ≤ y) (k1 : y < 2 ^ n) (h : ∀ i : Nat, i < n → drawn x i = drawn y i) : x = y := by
  obtain ⟨a, rfl⟩ := Int.eq_ofNat_of_zero_le h0
  obtain ⟨b, rfl⟩ := Int.eq_ofNat_of_zero_le k0
  have ha : a < 2 ^ n := by exact_mod_cast h1
  have hb : b < 2 ^ n := by exact_mod_cast k1
  congr 1
  apply Nat.eq_of_testBit_eq
  intro i
  by_cases hi : i < n
  · have := h i hi
    rw [drawn_nat, drawn_nat] at this
    exact this
  · rw [Nat.testBit_lt_two_pow (Nat.lt_of_lt_of_le ha (Nat.pow_le_pow_right (by omega) (by omega))), Nat.testBit_lt_two_pow (Nat.lt_of_lt_of_le hb (Nat.pow_le_pow_right (by omega) (by omega)))]
theorem drawn_big {n : Nat} {x : Int} (h0 : 0 ≤ x) (h1 : x < 2 ^ n) {i : Nat} (hi : n ≤ i) : drawn x i = false := by
  obtain ⟨a, rfl⟩ := Int.eq_ofNat_of_zero_le h0
  have ha : a < 2 ^ n := by exact_mod_cast h1
  rw [drawn_nat]
  exact Nat.testBit_lt_two_pow (Nat.lt_of_lt_of_le ha (Nat.pow_le_pow_right (by omega) hi))
theorem drawn_zero (k : Int) : drawn 0 k = false := by simp [drawn, dg]
/-- All of the first n. -/
def allI (n : Int) : Int := 2 ^ n.toNat - 1
theorem allI_nat (n : Int) : allI n = ((2 ^ n.toNat - 1 : Nat) : Int) := by
  unfold allI
  have : 1 ≤ 2 ^ n.toNat := Nat.one_le_two_pow
  have e : ((2 ^ n.toNat : Nat) : Int) = 2 ^ n.toNat := by simp
  omega
theorem allI_range (n : Int) : 0 ≤ allI n ∧ allI n < 2 ^ n.toNat := by
  rw [allI_nat]
  have : 1 ≤ 2 ^ n.toNat := Nat.one_le_two_pow
  refine ⟨by omega, ?_⟩
  have h : ((2 ^ n.toNat - 1 : Nat) : Int) < ((2 ^ n.toNat : Nat) : Int) := by omega
  simpa using h
theorem drawn_allI (n : Int) (i : Nat) : drawn (allI n) i = decide (i < n.toNat) := by
  rw [allI_nat, drawn_nat, Nat.testBit_two_pow_sub_one]
theorem sub_all {l : Int} {n : Int} (h0 : 0 ≤ l) (h1 : l < 2 ^ n.toNat) {i : Nat} (h : drawn l i = true) : i < n.toNat := by
  rcases Nat.lt_or_ge i n.toNat with hi | hi
  · exact hi
  · rw [drawn_big h0 h1 hi] at h; cases h

/-! ### how many -/
def onesK : Nat → Int → Int
  | 0, _ => 0
  | k + 1, x => onesK k x + dg x k
def ones (x : Int) : Int := onesK 16 x
theorem onesK_range (x : Int) : ∀ k, 0 ≤ onesK k x ∧ onesK k x ≤ k
  | 0 => by simp [onesK]
  | k + 1 => by
    have := onesK_range x k
    have := dg_01 x k
    simp only [onesK]
    omega
theorem ones_range (x : Int) : 0 ≤ ones x ∧ ones x ≤ 16 := onesK_range x 16
theorem onesK_pre (x : Int) : ∀ k, ((pre (drawn x) k).length : Int) = onesK k x
  | 0 => by simp [pre_zero, onesK]
  | k + 1 => by
    have ih := onesK_pre x k
    cases h : drawn x k
    · rw [pre_no h, ih, onesK, dg_of_free h]; omega
    · rw [pre_yes h, List.length_append, onesK, dg_of_drawn h, ← ih]; simp
theorem onesK_withE {x p : Int} (h0 : 0 ≤ x) (hp : 0 ≤ p) (h : drawn x p = false) : ∀ k, onesK k (withE x p) = onesK k x + if p < (k : Int) then 1 else 0
  | 0 => by simp [onesK]; omega
  | k + 1 => by
    have ih := onesK_withE h0 hp h k
    have hd := dg_withE (E := x) (k := p) (j := k) h0 hp (by omega)
    have hf := dg_of_free h
    simp only [onesK]
    rw [ih, hd]
    by_cases e : (k : Int) = p
    · subst e
      rw [hf]
      simp
      omega
    · rw [if_neg e]
      by_cases e2 : p < (k : Int)
      · rw [if_pos e2, if_pos (by omega)]; omega
      · rw [if_neg e2, if_neg (by omega)]; omega
theorem ones_withE {x p : Int} (h0 : 0 ≤ x) (hp : 0 ≤ p) (hp2 : p < 16) (h : drawn x p = false) : ones (withE x p) = ones x + 1 := by
  unfold ones
  rw [onesK_withE h0 hp h, if_pos (by omega)]
theorem onesK_zero (k : Nat) : onesK k 0 = 0 := by
  induction k with
  | zero => rfl
  | succ k ih => simp [onesK, ih, dg]
def popL : Nat → Nat → Nat
  | 0, _ => 0
  | k + 1, x => x % 2 + popL k (x / 2)
theorem popL_succ : ∀ (k x : Nat), popL (k + 1) x = popL k x + x / 2 ^ k % 2
  | 0, x => by simp [popL]
  | k + 1, x => by
    rw [popL, popL_succ k (x / 2), popL, Nat.pow_succ, Nat.mul_comm (2 ^ k) 2, ← Nat.div_div_eq_div_mul]
    omega
theorem onesK_popL (x : Nat) : ∀ k, onesK k (x : Int) = (popL k x : Int)
  | 0 => rfl
  | k + 1 => by
    rw [onesK, onesK_popL x k, popL_succ]
    simp [dg]
theorem popL_low : ∀ (k x : Nat), 0 < x → x < 2 ^ k → popL k (x &&& (x - 1)) + 1 = popL k x
  | 0, x, h, h2 => by simp at h2; omega
  | k + 1, x, h, h2 => by
    have hd : (x &&& (x - 1)) / 2 = x / 2 &&& (x - 1) / 2 := Nat.and_div_two
    have hm : (x &&& (x - 1)) % 2 = 0 := by
      have h3 := (Nat.and_mod_two_eq_one (a := x) (b := x - 1))
      have : ¬ (x % 2 = 1 ∧ (x - 1) % 2 = 1) := by omega
      have h4 : ¬ (x &&& (x - 1)) % 2 = 1 := fun e => this (h3.1 e)
      omega
    simp only [popL]
    rw [hd, hm]
    rcases Nat.mod_two_eq_zero_or_one x with h3 | h3
    · have e : (x - 1) / 2 = x / 2 - 1 := by omega
      rw [e]
      have := popL_low k (x / 2) (by omega) (by rw [Nat.pow_succ] at h2; omega)
      omega
    · have e : (x - 1) / 2 = x / 2 := by omega
      rw [e, Nat.and_self]
      omega
theorem ones_low {x : Int} (h0 : 0 < x) (h1 : x < 65536) : ones (andI x (x - 1)) + 1 = ones x ∧ 0 ≤ andI x (x - 1) ∧ andI x (x - 1) < x := by
  obtain ⟨a, rfl⟩ := Int.eq_ofNat_of_zero_le (Int.le_of_lt h0)
  have e : andI (a : Int) ((a : Int) - 1) = ((a &&& (a - 1) : Nat) : Int) := by
    unfold andI
    rw [show ((a : Int) - 1).toNat = a - 1 by omega]
    rfl
  rw [e]
  have h2 := popL_low 16 a (by omega) (by omega)
  have h3 : a &&& (a - 1) ≤ a - 1 := Nat.and_le_right
  unfold ones
  rw [onesK_popL, onesK_popL]
  refine ⟨by omega, by omega, by omega⟩
theorem ones_nat (x : Nat) : ones (x : Int) = (popL 16 x : Int) := onesK_popL x 16
end Go.Proofs.Ytkekanllfpdeaab
