/-
  Col and snort: plain functions on fields. No walk stands here.
-/
import Derived.Test.YtdimmlpnfghndabBx
namespace Go.Proofs.Ytdimmlpnfghndab
open Go.RowKit
set_option linter.unusedVariables false

/-! ### digits of numbers below 2^28 -/
theorem dg_walkL {E k : Int} (h0 : 0 ≤ E) (h1 : E < 268435456) : bits BinOp.and IntKind.i64 (E / 2 ^ k.toNat) 1 = dg E k := by
  have hp : (0 : Int) < 2 ^ k.toNat := Int.pow_pos (by decide)
  have h2 : 0 ≤ E / 2 ^ k.toNat := Int.ediv_nonneg h0 (Int.le_of_lt hp)
  have h3 : E / 2 ^ k.toNat ≤ E := Int.ediv_le_self _ h0
  have := bits_mask .i64 63 (by decide) wraps_i64 1 (by decide) (E / 2 ^ k.toNat) h2 (by omega)
  simpa [dg] using this
theorem or_walkL {E k : Int} (h0 : 0 ≤ E) (h1 : E < 268435456) (hk : k.toNat < 28) : bits BinOp.or IntKind.i64 E (2 ^ k.toNat) = withE E k := by
  obtain ⟨m, rfl⟩ := Int.eq_ofNat_of_zero_le h0
  have h3 : (2 : Nat) ^ k.toNat < 2 ^ 28 := Nat.pow_lt_pow_right (by omega) hk
  have h4 : (2 : Nat) ^ 28 ≤ 2 ^ 63 := Nat.pow_le_pow_right (by omega) (by omega)
  have := (bits_nat .i64 63 (by decide) wraps_i64 m (2 ^ k.toNat) (by omega) (by omega)).2
  rw [Int.natCast_pow] at this
  exact this
/-- Two numbers' digits together; both. -/
def orI (x y : Int) : Int := ((x.toNat ||| y.toNat : Nat) : Int)
def andI (x y : Int) : Int := ((x.toNat &&& y.toNat : Nat) : Int)
theorem or_walkI {x y : Int} (h0 : 0 ≤ x) (h1 : x < 268435456) (k0 : 0 ≤ y) (k1 : y < 268435456) : bits BinOp.or IntKind.i64 x y = orI x y := by
  obtain ⟨m, rfl⟩ := Int.eq_ofNat_of_zero_le h0
  obtain ⟨n, rfl⟩ := Int.eq_ofNat_of_zero_le k0
  exact (bits_nat .i64 63 (by decide) wraps_i64 m n (by omega) (by omega)).2
theorem and_walkI {x y : Int} (h0 : 0 ≤ x) (h1 : x < 268435456) (k0 : 0 ≤ y) (k1 : y < 268435456) : bits BinOp.and IntKind.i64 x y = andI x y := by
  obtain ⟨m, rfl⟩ := Int.eq_ofNat_of_zero_le h0
  obtain ⟨n, rfl⟩ := Int.eq_ofNat_of_zero_le k0
  exact (bits_nat .i64 63 (by decide) wraps_i64 m n (by omega) (by omega)).1
theorem orI_range {x y : Int} {n : Nat} (h0 : 0 ≤ x) (h1 : x < 2 ^ n) (k0 : 0 ≤ y) (k1 : y < 2 ^ n) : 0 ≤ orI x y ∧ orI x y < 2 ^ n := by
  obtain ⟨a, rfl⟩ := Int.eq_ofNat_of_zero_le h0
  obtain ⟨b, rfl⟩ := Int.eq_ofNat_of_zero_le k0
  have ha : a < 2 ^ n := by exact_mod_cast h1
  have hb : b < 2 ^ n := by exact_mod_cast k1
  have h := Nat.or_lt_two_pow ha hb
  refine ⟨by unfold orI; omega, ?_⟩
  have h3 : (((a ||| b : Nat) : Int)) < ((2 ^ n : Nat) : Int) := by exact_mod_cast h
  simpa [orI] using h3
theorem drawn_orI {x y k : Int} (h0 : 0 ≤ x) (k0 : 0 ≤ y) (hk : 0 ≤ k) : drawn (orI x y) k = (drawn x k || drawn y k) := by
  obtain ⟨a, rfl⟩ := Int.eq_ofNat_of_zero_le h0
  obtain ⟨b, rfl⟩ := Int.eq_ofNat_of_zero_le k0
  obtain ⟨c, rfl⟩ := Int.eq_ofNat_of_zero_le hk
  unfold orI
  rw [drawn_nat, drawn_nat, drawn_nat]
  simp [Nat.testBit_or]
theorem andI_zero {x y k : Int} (h0 : 0 ≤ x) (k0 : 0 ≤ y) (hk : 0 ≤ k) (h : andI x y = 0) : ¬ (drawn x k = true ∧ drawn y k = true) := by
  obtain ⟨a, rfl⟩ := Int.eq_ofNat_of_zero_le h0
  obtain ⟨b, rfl⟩ := Int.eq_ofNat_of_zero_le k0
  obtain ⟨c, rfl⟩ := Int.eq_ofNat_of_zero_le hk
  unfold andI at h
  have h2 : ((a : Int).toNat &&& (b : Int).toNat) = 0 := by omega
  have h3 : (a &&& b).testBit c = false := by
    have e : a &&& b = 0 := h2
    rw [e]; simp
  rw [drawn_nat, drawn_nat]
  rw [Nat.testBit_and] at h3
  rintro ⟨p, q⟩
  simp [p, q] at h3
theorem drawn_withE {E k j : Int} (h0 : 0 ≤ E) (hk : 0 ≤ k) (hj : 0 ≤ j) : drawn (withE E k) j = (decide (j = k) || drawn E j) := by
  unfold drawn
  rw [dg_withE h0 hk hj]
  by_cases e : j = k <;> simp [e]
theorem withE_free {E F k : Int} (h0 : 0 ≤ E) (k0 : 0 ≤ F) (hk : 0 ≤ k) (h : andI E F = 0) (hF : drawn F k = false) : andI (withE E k) F = 0 := by
  obtain ⟨a, rfl⟩ := Int.eq_ofNat_of_zero_le h0
  obtain ⟨b, rfl⟩ := Int.eq_ofNat_of_zero_le k0
  obtain ⟨c, rfl⟩ := Int.eq_ofNat_of_zero_le hk
  rw [drawn_nat] at hF
  unfold andI at h
  have h1 : a &&& b = 0 := by have : ((a : Int).toNat &&& (b : Int).toNat) = 0 := by omega
                              exact this
  have h2 : ((a ||| 2 ^ c) &&& b) = 0 := by
    apply Nat.eq_of_testBit_eq
    intro i
    have h3 : (a &&& b).testBit i = false := by rw [h1]; simp
    rw [Nat.testBit_and] at h3
    rw [Nat.testBit_and, Nat.testBit_or, Nat.testBit_two_pow]
    by_cases e : c = i
    · subst e; simp [hF]
    · simp [e]; simpa using h3
  unfold andI withE
  have : (((a : Int).toNat ||| 2 ^ (c : Int).toNat : Nat) : Int).toNat &&& (b : Int).toNat = 0 := h2
  rw [this]; rfl
theorem andI_comm (x y : Int) : andI x y = andI y x := by unfold andI; rw [Nat.and_comm]
theorem orI_comm (x y : Int) : orI x y = orI y x := by unfold orI; rw [Nat.or_comm]
theorem dg_orI_free {x y k : Int} (h0 : 0 ≤ x) (k0 : 0 ≤ y) (hk : 0 ≤ k) : dg (orI x y) k = if drawn x k = true ∨ drawn y k = true then 1 else 0 := by
  by_cases h : drawn x k = true ∨ drawn y k = true
  · rw [if_pos h]
    apply dg_of_drawn
    rw [drawn_orI h0 k0 hk]
    rcases h with h | h <;> simp [h]
  · rw [if_neg h]
    apply dg_of_free
    rw [drawn_orI h0 k0 hk]
    simp only [not_or, Bool.not_eq_true] at h
    simp [h.1, h.2]

/-! ### fields -/
/-- The place of a line. -/
def lp (i j : Int) : Int := j * (j - 1) / 2 + i
def okF (n L R B : Int) : Bool := decide (1 ≤ n ∧ n ≤ 8) && (decide (0 ≤ L ∧ L < 2 ^ (lp 0 n).toNat) && (decide (0 ≤ R ∧ R < 2 ^ n.toNat) && (decide (0 ≤ B ∧ B < 2 ^ n.toNat) && decide (andI R B = 0))))
theorem okF_parts {n L R B : Int} (h : okF n L R B = true) : (1 ≤ n ∧ n ≤ 8) ∧ (0 ≤ L ∧ L < 2 ^ (lp 0 n).toNat) ∧ (0 ≤ R ∧ R < 2 ^ n.toNat) ∧ (0 ≤ B ∧ B < 2 ^ n.toNat) ∧ andI R B = 0 := by
  simpa [okF] using h
theorem okF_mk {n L R B : Int} (h1 : 1 ≤ n ∧ n ≤ 8) (h2 : 0 ≤ L ∧ L < 2 ^ (lp 0 n).toNat) (h3 : 0 ≤ R ∧ R < 2 ^ n.toNat) (h4 : 0 ≤ B ∧ B < 2 ^ n.toNat) (h5 : andI R B = 0) : okF n L R B = true := by
  simp [okF, h1, h2, h3, h4, h5]
theorem n18 {n : Int} (h : 1 ≤ n ∧ n ≤ 8) : n = 1 ∨ n = 2 ∨ n = 3 ∨ n = 4 ∨ n = 5 ∨ n = 6 ∨ n = 7 ∨ n = 8 := by omega
theorem lp_n {n : Int} (h : 1 ≤ n ∧ n ≤ 8) : 0 ≤ lp 0 n ∧ lp 0 n ≤ 28 ∧ (lp 0 n).toNat ≤ 28 := by
  rcases n18 h with rfl | rfl | rfl | rfl | rfl | rfl | rfl | rfl <;> simp [lp]
theorem pow_mono {a b : Nat} (h : a ≤ b) : (2 : Int) ^ a ≤ 2 ^ b := by
  have : (2 : Nat) ^ a ≤ 2 ^ b := Nat.pow_le_pow_right (by omega) h
  have h2 : ((2 ^ a : Nat) : Int) ≤ ((2 ^ b : Nat) : Int) := by exact_mod_cast this
  simpa using h2
theorem okF_nums {n L R B : Int} (h : okF n L R B = true) : 1 ≤ n ∧ n ≤ 8 ∧ 0 ≤ L ∧ L < 268435456 ∧ 0 ≤ R ∧ R < 256 ∧ 0 ≤ B ∧ B < 256 := by
  obtain ⟨h1, ⟨l0, l1⟩, ⟨r0, r1⟩, ⟨b0, b1⟩, _⟩ := okF_parts h
  have e1 := pow_mono (lp_n h1).2.2
  have e2 : (2 : Int) ^ n.toNat ≤ 2 ^ 8 := pow_mono (by omega)
  have e3 : (2 : Int) ^ 28 = 268435456 := by decide
  have e4 : (2 : Int) ^ 8 = 256 := by decide
  omega
theorem okF_turn {n L R B : Int} (h : okF n L R B = true) : okF n L B R = true := by
  obtain ⟨h1, h2, h3, h4, h5⟩ := okF_parts h
  exact okF_mk h1 h2 h4 h3 (by rw [andI_comm]; exact h5)
theorem okF_turn_eq (n L R B : Int) : okF n L B R = okF n L R B := by
  cases h : okF n L R B
  · cases h2 : okF n L B R
    · rfl
    · rw [okF_turn h2] at h; cases h
  · exact okF_turn h
theorem j07 {j : Int} (h : 0 ≤ j ∧ j ≤ 8) : j = 0 ∨ j = 1 ∨ j = 2 ∨ j = 3 ∨ j = 4 ∨ j = 5 ∨ j = 6 ∨ j = 7 ∨ j = 8 := by omega
/-- The numbers of a place. -/
theorem lp_nums {j : Int} (h0 : 0 ≤ j) (h1 : j ≤ 8) : 0 ≤ j * (j - 1) ∧ j * (j - 1) ≤ 56 ∧ 0 ≤ j * (j - 1) / 2 ∧ j * (j - 1) / 2 ≤ 28 := by
  rcases j07 ⟨h0, h1⟩ with rfl | rfl | rfl | rfl | rfl | rfl | rfl | rfl | rfl <;> decide
theorem lp_lt {i j : Int} (h0 : 0 ≤ i) (h1 : i < j) (h2 : j < 8) : 0 ≤ lp i j ∧ lp i j < 28 := by
  unfold lp
  rcases j07 ⟨(by omega : 0 ≤ j), (by omega : j ≤ 8)⟩ with rfl | rfl | rfl | rfl | rfl | rfl | rfl | rfl | rfl <;> omega
/-- Are two points joined? -/
def jn (L i j : Int) : Bool := drawn L (lp (min i j) (max i j))
theorem jn_lt {L i j : Int} (h : i < j) : jn L i j = drawn L (lp i j) := by
  unfold jn
  rw [show min i j = i by omega, show max i j = j by omega]
theorem jn_comm (L i j : Int) : jn L i j = jn L j i := by
  unfold jn
  rw [Int.min_comm, Int.max_comm]
/-- The colour of a point: 1 red, 2 blue, 0 neither. -/
def cl (R B i : Int) : Int := if drawn R i = true then 1 else if drawn B i = true then 2 else 0
theorem cl_range (R B i : Int) : cl R B i = 0 ∨ cl R B i = 1 ∨ cl R B i = 2 := by
  unfold cl
  by_cases h : drawn R i = true
  · simp [h]
  · by_cases h2 : drawn B i = true <;> simp [h, h2]
theorem cl_sum {R B i : Int} (h0 : 0 ≤ R) (k0 : 0 ≤ B) (hi : 0 ≤ i) (h : andI R B = 0) : dg R i + 2 * dg B i = cl R B i := by
  have h2 := andI_zero h0 k0 hi h
  unfold cl
  cases hr : drawn R i
  · cases hb : drawn B i
    · rw [dg_of_free hr, dg_of_free hb]; simp
    · rw [dg_of_free hr, dg_of_drawn hb]; simp
  · cases hb : drawn B i
    · rw [dg_of_drawn hr, dg_of_free hb]; simp
    · exact absurd ⟨hr, hb⟩ h2
/-- Two colours that must not be joined. -/
def bad (game a b : Int) : Bool := decide (a > 0) && (decide (b > 0) && (decide (a = b) == decide (game = 0)))
/-- The first i points before j: no line is bad. -/
def fairI (L R B game j : Int) (i : Nat) : Bool := (List.range i).all fun k : Nat => !(drawn L (lp (k : Int) j) && bad game (cl R B k) (cl R B j))
def fairJ (L R B game : Int) (j : Nat) : Bool := (List.range j).all fun k : Nat => fairI L R B game k k
def fair (n L R B game : Int) : Bool := fairJ L R B game n.toNat
theorem fairI_succ (L R B game j : Int) (i : Nat) : fairI L R B game j (i + 1) = (fairI L R B game j i && !(drawn L (lp (i : Int) j) && bad game (cl R B i) (cl R B j))) := by simp [fairI, List.range_succ]
theorem fairJ_succ (L R B game : Int) (j : Nat) : fairJ L R B game (j + 1) = (fairJ L R B game j && fairI L R B game j j) := by simp [fairJ, List.range_succ]
theorem fairI_zero (L R B game j : Int) : fairI L R B game j 0 = true := rfl
theorem fairJ_zero (L R B game : Int) : fairJ L R B game 0 = true := rfl
theorem fairJ_one (L R B game : Int) : fairJ L R B game 1 = true := rfl
theorem fairI_false {L R B game j : Int} {k i : Nat} (hk : k < i) (h1 : drawn L (lp (k : Int) j) = true) (h2 : bad game (cl R B k) (cl R B j) = true) : fairI L R B game j i = false := by
  unfold fairI
  rw [List.all_eq_false]
  exact ⟨k, List.mem_range.2 hk, by simp [h1, h2]⟩
theorem fairJ_false {L R B game : Int} {k j : Nat} (hk : k < j) (h : fairI L R B game k k = false) : fairJ L R B game j = false := by
  unfold fairJ
  rw [List.all_eq_false]
  exact ⟨k, List.mem_range.2 hk, by simp [h]⟩

/-- A move. -/
def mvR (R pl i : Int) : Int := if pl = 0 then withE R i else R
def mvB (B pl i : Int) : Int := if pl = 0 then B else withE B i
def freeP (R B i : Int) : Bool := decide (cl R B i = 0)
theorem freeP_parts {R B i : Int} (h : freeP R B i = true) : drawn R i = false ∧ drawn B i = false := by
  unfold freeP cl at h
  cases hr : drawn R i
  · cases hb : drawn B i
    · exact ⟨rfl, rfl⟩
    · simp [hr, hb] at h
  · simp [hr] at h
theorem okF_move {n L R B pl i : Int} (h : okF n L R B = true) (h0 : 0 ≤ i) (h1 : i < n) (hf : freeP R B i = true) : okF n L (mvR R pl i) (mvB B pl i) = true := by
  obtain ⟨a1, a2, a3, a4, a5⟩ := okF_parts h
  obtain ⟨f1, f2⟩ := freeP_parts hf
  unfold mvR mvB
  by_cases e : pl = 0
  · rw [if_pos e, if_pos e]
    exact okF_mk a1 a2 ⟨withE_nonneg _ _, withE_lt a3.1 a3.2 (by omega)⟩ a4 (withE_free a3.1 a4.1 h0 a5 f2)
  · rw [if_neg e, if_neg e]
    refine okF_mk a1 a2 a3 ⟨withE_nonneg _ _, withE_lt a4.1 a4.2 (by omega)⟩ ?_
    rw [andI_comm]
    exact withE_free a4.1 a3.1 h0 (by rw [andI_comm]; exact a5) f1
/-- May the player colour the point? -/
def mayP (n L R B game pl i : Int) : Bool := freeP R B i && fair n L (mvR R pl i) (mvB B pl i) game
def pts (n L R B game pl : Int) : List Int := pre (mayP n L R B game pl) n.toNat
theorem pts_le {n L R B game pl : Int} (h : n ≤ 8) : (pts n L R B game pl).length ≤ 8 := by
  have := pre_le (mayP n L R B game pl) n.toNat
  unfold pts
  omega
theorem pts_mem {n L R B game pl z : Int} (h : z ∈ pts n L R B game pl) : 0 ≤ z ∧ z < n ∧ freeP R B z = true ∧ fair n L (mvR R pl z) (mvB B pl z) game = true := by
  obtain ⟨h1, h2, h3⟩ := pre_mem h
  simp only [mayP, Bool.and_eq_true] at h3
  exact ⟨h1, by omega, h3.1, h3.2⟩

/-! ### how many points have no colour -/
def freeN (n R B : Int) : Nat := ((List.range n.toNat).filter fun i : Nat => freeP R B (i : Int)).length
theorem freeN_le (n R B : Int) : freeN n R B ≤ n.toNat := by
  unfold freeN
  exact Nat.le_trans (List.length_filter_le _ _) (by simp)
theorem filter_one {p q : Nat → Bool} (k : Nat) : ∀ (m : Nat), k < m → p k = true → q k = false → (∀ j, j ≠ k → q j = p j) → ((List.range m).filter p).length = ((List.range m).filter q).length + 1
  | 0, h, _, _, _ => by omega
  | m + 1, h, hp, hq, he => by
    rw [List.range_succ, List.filter_append, List.filter_append, List.length_append, List.length_append]
    by_cases e : k = m
    · subst e
      have : (List.range k).filter p = (List.range k).filter q := List.filter_congr fun x hx => (he x (by have := List.mem_range.1 hx; omega)).symm
      rw [this]
      simp [hp, hq]
    · have ih := filter_one k m (by omega) hp hq he
      have e2 := he m (fun x => e x.symm)
      simp only [List.filter_cons, List.filter_nil, e2]
      omega
theorem freeP_move {n L R B pl i : Int} (h : okF n L R B = true) (h0 : 0 ≤ i) (hf : freeP R B i = true) (j : Int) (hj : 0 ≤ j) : freeP (mvR R pl i) (mvB B pl i) j = (!decide (j = i) && freeP R B j) := by
  obtain ⟨a1, a2, a3, a4, a5⟩ := okF_parts h
  unfold freeP cl mvR mvB
  by_cases e : pl = 0
  · rw [if_pos e, if_pos e, drawn_withE a3.1 h0 hj]
    by_cases e2 : j = i
    · simp [e2]
    · simp [e2]
  · rw [if_neg e, if_neg e, drawn_withE a4.1 h0 hj]
    by_cases e2 : j = i
    · subst e2
      cases hr : drawn R j <;> simp
    · simp [e2]
theorem freeN_move {n L R B pl i : Int} (h : okF n L R B = true) (h0 : 0 ≤ i) (h1 : i < n) (hf : freeP R B i = true) : freeN n R B = freeN n (mvR R pl i) (mvB B pl i) + 1 := by
  unfold freeN
  refine filter_one i.toNat n.toNat (by omega) (by rw [Int.toNat_of_nonneg h0]; exact hf) ?_ (fun j hj => ?_)
  · rw [Int.toNat_of_nonneg h0, freeP_move h h0 hf i h0]; simp
  · rw [freeP_move h h0 hf j (by omega)]
    have : ¬ ((j : Int) = i) := by omega
    simp [this]
theorem pts_zero {n L R B game pl : Int} (h : freeN n R B = 0) : pts n L R B game pl = [] := by
  unfold pts pre
  unfold freeN at h
  have h2 : ((List.range n.toNat).filter fun i : Nat => freeP R B (i : Int)) = [] := List.eq_nil_of_length_eq_zero h
  rw [List.filter_eq_nil_iff] at h2
  have : ((List.range n.toNat).filter fun i : Nat => mayP n L R B game pl (i : Int)) = [] := by
    rw [List.filter_eq_nil_iff]
    intro a ha
    have := h2 a ha
    simp only [Bool.not_eq_true] at this
    simp [mayP, this]
  rw [this]; rfl

/-! ### who wins -/
theorem any_mem {α : Type} {l : List α} {p q : α → Bool} (h : ∀ x ∈ l, p x = q x) : l.any p = l.any q := by
  induction l with
  | nil => rfl
  | cons a r ih =>
    rw [List.any_cons, List.any_cons, h a (by simp), ih (fun x hx => h x (by simp [hx]))]
theorem move_of_pts {n L R B game pl i : Int} (h : okF n L R B = true) (hi : i ∈ pts n L R B game pl) : okF n L (mvR R pl i) (mvB B pl i) = true ∧ fair n L (mvR R pl i) (mvB B pl i) game = true ∧ freeN n R B = freeN n (mvR R pl i) (mvB B pl i) + 1 := by
  obtain ⟨h0, h1, h2, h3⟩ := pts_mem hi
  exact ⟨okF_move h h0 h1 h2, h3, freeN_move h h0 h1 h2⟩
def winF (n L game : Int) : Nat → Int → Int → Int → Bool
  | 0, _, _, _ => false
  | k + 1, R, B, pl => (pts n L R B game pl).any fun i => !winF n L game k (mvR R pl i) (mvB B pl i) (1 - pl)
def win (n L R B game pl : Int) : Bool := winF n L game (freeN n R B) R B pl
theorem win_step {n L R B game pl : Int} (h : okF n L R B = true) : win n L R B game pl = (pts n L R B game pl).any fun i => !win n L (mvR R pl i) (mvB B pl i) game (1 - pl) := by
  unfold win
  cases hk : freeN n R B with
  | zero => rw [pts_zero hk]; rfl
  | succ k =>
    simp only [winF]
    refine any_mem fun i hi => ?_
    obtain ⟨_, _, h3⟩ := move_of_pts h hi
    rw [show freeN n (mvR R pl i) (mvB B pl i) = k by omega]
/-- The points behind which the other player does not win. -/
def best (n L R B game pl : Int) : List Int := (pts n L R B game pl).filter fun i => !win n L (mvR R pl i) (mvB B pl i) game (1 - pl)
theorem best_le {n L R B game pl : Int} (h : n ≤ 8) : (best n L R B game pl).length ≤ 8 := Nat.le_trans (List.length_filter_le _ _) (pts_le h)
theorem best_mem {n L R B game pl z : Int} (h : z ∈ best n L R B game pl) : z ∈ pts n L R B game pl := (List.mem_filter.1 h).1

/-! ### the least and the greatest number of moves -/
/-- Of a list of numbers: the pick of all, one more; 0 of none. -/
def upMin : List Int → Int
  | [] => 0
  | a :: r => r.foldl (fun m x => if x < m then x else m) a + 1
def upMax : List Int → Int
  | [] => 0
  | a :: r => r.foldl (fun m x => if m < x then x else m) a + 1
def leftF (up : List Int → Int) (n L game : Int) : Nat → Int → Int → Int → Int
  | 0, _, _, _ => up []
  | k + 1, R, B, pl => up ((pts n L R B game pl).map fun i => leftF up n L game k (mvR R pl i) (mvB B pl i) (1 - pl))
def left (up : List Int → Int) (n L R B game pl : Int) : Int := leftF up n L game (freeN n R B) R B pl
theorem left_step (up : List Int → Int) {n L R B game pl : Int} (h : okF n L R B = true) : left up n L R B game pl = up ((pts n L R B game pl).map fun i => left up n L (mvR R pl i) (mvB B pl i) game (1 - pl)) := by
  unfold left
  cases hk : freeN n R B with
  | zero => rw [pts_zero hk]; rfl
  | succ k =>
    simp only [leftF]
    congr 1
    refine List.map_congr_left fun i hi => ?_
    obtain ⟨_, _, h3⟩ := move_of_pts h hi
    rw [show freeN n (mvR R pl i) (mvB B pl i) = k by omega]

/-! ### a play -/
def playF (n L game : Int) : Nat → Int → Int → Int → List Int
  | 0, _, _, _ => []
  | k + 1, R, B, pl => match (if best n L R B game pl = [] then pts n L R B game pl else best n L R B game pl) with
    | [] => []
    | i :: _ => i :: playF n L game k (mvR R pl i) (mvB B pl i) (1 - pl)
def play (n L R B game pl : Int) : List Int := playF n L game (freeN n R B) R B pl
/-- The point that is coloured next. -/
def next (n L R B game pl : Int) : List Int := if best n L R B game pl = [] then pts n L R B game pl else best n L R B game pl
theorem next_pts {n L R B game pl i : Int} (h : i ∈ next n L R B game pl) : i ∈ pts n L R B game pl := by
  unfold next at h
  split at h
  · exact h
  · exact best_mem h
theorem play_none {n L R B game pl : Int} (h : next n L R B game pl = []) : play n L R B game pl = [] := by
  unfold play
  cases hk : freeN n R B with
  | zero => rfl
  | succ k =>
    simp only [playF]
    unfold next at h
    rw [h]
theorem play_some {n L R B game pl i : Int} {r : List Int} (hok : okF n L R B = true) (h : next n L R B game pl = i :: r) : play n L R B game pl = i :: play n L (mvR R pl i) (mvB B pl i) game (1 - pl) := by
  obtain ⟨_, _, h3⟩ := move_of_pts hok (next_pts (by rw [h]; simp : i ∈ next n L R B game pl))
  unfold play
  rw [h3]
  simp only [playF]
  unfold next at h
  rw [h]
theorem playF_le (n L game : Int) : ∀ (k : Nat) (R B pl : Int), (playF n L game k R B pl).length ≤ k
  | 0, _, _, _ => by simp [playF]
  | k + 1, R, B, pl => by
    simp only [playF]
    split
    · simp
    · have := playF_le n L game k (mvR R pl ‹Int›) (mvB B pl ‹Int›) (1 - pl)
      simp only [List.length_cons]
      omega
theorem play_le (n L R B game pl : Int) (h : n ≤ 8) : (play n L R B game pl).length ≤ 8 := by
  have h1 := playF_le n L game (freeN n R B) R B pl
  have h2 := freeN_le n R B
  unfold play
  omega

/-! ### codes -/
def codeF (n L R B game : Int) : Int := if okF n L R B = true then if 0 ≤ game ∧ game ≤ 1 then if fair n L R B game = true then 0 else 5 else 2 else 1
def codeP (n L R B game pl : Int) : Int := if okF n L R B = true then if (0 ≤ game ∧ game ≤ 1) ∧ (0 ≤ pl ∧ pl ≤ 1) then if fair n L R B game = true then 0 else 5 else 2 else 1
end Go.Proofs.Ytdimmlpnfghndab
