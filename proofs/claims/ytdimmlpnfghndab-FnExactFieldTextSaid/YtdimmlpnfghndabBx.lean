/-
  Dots and boxes: plain functions on numbers and lists. No walk stands here.
-/
import Derived.Test.YtdimmlpnfghndabGen
namespace Go.Proofs.Ytdimmlpnfghndab
open Go.RowKit

/-- The digit of E at k. -/
def dg (E k : Int) : Int := E / 2 ^ k.toNat % 2
def drawn (E k : Int) : Bool := decide (dg E k = 1)
def withE (E k : Int) : Int := ((E.toNat ||| 2 ^ k.toNat : Nat) : Int)
def nLie (w h : Int) : Int := w * (h + 1)
def nEdge (w h : Int) : Int := w * (h + 1) + (w + 1) * h
def okBox (w h E : Int) : Bool := decide (1 ≤ w ∧ w ≤ 3 ∧ 1 ≤ h ∧ h ≤ 3 ∧ 0 ≤ E ∧ E < 2 ^ (nEdge w h).toNat)

theorem dg_nat (n k : Nat) : dg (n : Int) (k : Int) = if n.testBit k then 1 else 0 := by
  unfold dg
  rw [Nat.testBit_eq_decide_div_mod_eq]
  have h : ((n : Int) / 2 ^ (k : Int).toNat % 2) = ((n / 2 ^ k % 2 : Nat) : Int) := by simp
  rw [h]
  have h2 : n / 2 ^ k % 2 = 0 ∨ n / 2 ^ k % 2 = 1 := by omega
  rcases h2 with h2 | h2 <;> simp [h2]
theorem drawn_nat (n k : Nat) : drawn (n : Int) (k : Int) = n.testBit k := by
  unfold drawn
  rw [dg_nat]
  cases n.testBit k <;> simp
theorem dg_01 (E k : Int) : dg E k = 0 ∨ dg E k = 1 := by
  unfold dg
  omega
theorem dg_of_drawn {E k : Int} (h : drawn E k = true) : dg E k = 1 := by simpa [drawn] using h
theorem dg_of_free {E k : Int} (h : drawn E k = false) : dg E k = 0 := by
  have := dg_01 E k
  have h' : ¬ dg E k = 1 := by simpa [drawn] using h
  omega
theorem withE_nonneg (E k : Int) : 0 ≤ withE E k := by unfold withE; omega
theorem withE_lt {E k : Int} {n : Nat} (h0 : 0 ≤ E) (h : E < 2 ^ n) (hk : k.toNat < n) : withE E k < 2 ^ n := by
  obtain ⟨m, rfl⟩ := Int.eq_ofNat_of_zero_le h0
  unfold withE
  have hm : m < 2 ^ n := by exact_mod_cast h
  have h2 : (2 : Nat) ^ k.toNat < 2 ^ n := Nat.pow_lt_pow_right (by omega) hk
  have := Nat.or_lt_two_pow hm h2
  have h3 : (((m ||| 2 ^ k.toNat : Nat) : Int)) < ((2 ^ n : Nat) : Int) := by exact_mod_cast this
  simpa using h3
theorem dg_withE {E k j : Int} (h0 : 0 ≤ E) (hk : 0 ≤ k) (hj : 0 ≤ j) : dg (withE E k) j = if j = k then 1 else dg E j := by
  obtain ⟨m, rfl⟩ := Int.eq_ofNat_of_zero_le h0
  obtain ⟨a, rfl⟩ := Int.eq_ofNat_of_zero_le hk
  obtain ⟨b, rfl⟩ := Int.eq_ofNat_of_zero_le hj
  unfold withE
  rw [dg_nat, dg_nat]
  have hb : ((m : Int).toNat ||| 2 ^ (a : Int).toNat).testBit b = (m.testBit b || decide (a = b)) := by
    rw [Nat.testBit_or, Nat.testBit_two_pow]
    rfl
  rw [hb]
  by_cases e : b = a
  · subst e; simp
  · have e' : ¬ (a = b) := fun x => e x.symm
    have e2 : ¬ ((b : Int) = (a : Int)) := by omega
    simp [e', e2]

/-! ### the walk's words for digits -/
theorem wraps_i64 (n : Int) (h0 : 0 ≤ n) (h1 : n < 2 ^ 63) : IntKind.i64.wrap n = n := by rw [IntKind.wrap_i64]; omega
theorem dg_walk {E k : Int} (h0 : 0 ≤ E) (h1 : E < 16777216) : bits BinOp.and IntKind.i64 (E / 2 ^ k.toNat) 1 = dg E k := by
  have hp : (0 : Int) < 2 ^ k.toNat := Int.pow_pos (by decide)
  have h2 : 0 ≤ E / 2 ^ k.toNat := Int.ediv_nonneg h0 (Int.le_of_lt hp)
  have h3 : E / 2 ^ k.toNat ≤ E := Int.ediv_le_self _ h0
  have := bits_mask .i64 63 (by decide) wraps_i64 1 (by decide) (E / 2 ^ k.toNat) h2 (by omega)
  simpa [dg] using this
theorem or_walk {E k : Int} (h0 : 0 ≤ E) (h1 : E < 16777216) (hk : k.toNat < 24) : bits BinOp.or IntKind.i64 E (2 ^ k.toNat) = withE E k := by
  obtain ⟨m, rfl⟩ := Int.eq_ofNat_of_zero_le h0
  have h3 : (2 : Nat) ^ k.toNat < 2 ^ 24 := Nat.pow_lt_pow_right (by omega) hk
  have h4 : (2 : Nat) ^ 24 ≤ 2 ^ 63 := Nat.pow_le_pow_right (by omega) (by omega)
  have := (bits_nat .i64 63 (by decide) wraps_i64 m (2 ^ k.toNat) (by omega) (by omega)).2
  rw [Int.natCast_pow] at this
  exact this
theorem wrap64_small {n : Int} (h0 : 0 ≤ n) (h1 : n ≤ 16777216) : wrap64 n = n := by unfold wrap64; omega
theorem pow_small {k : Int} (hk : k.toNat < 25) : (0 : Int) ≤ 2 ^ k.toNat ∧ (2 : Int) ^ k.toNat ≤ 16777216 := by
  refine ⟨Int.le_of_lt (Int.pow_pos (by decide)), ?_⟩
  have : (2 : Nat) ^ k.toNat ≤ 2 ^ 24 := Nat.pow_le_pow_right (by omega) (by omega)
  have h2 : ((2 ^ k.toNat : Nat) : Int) ≤ ((2 ^ 24 : Nat) : Int) := by exact_mod_cast this
  simpa using h2
theorem shl_walk64 {k : Int} (hk : k.toNat < 25) : wrap64 ((2 : Int) ^ k.toNat) = 2 ^ k.toNat := wrap64_small (pow_small hk).1 (pow_small hk).2

/-! ### grids -/
theorem dims3 {w : Int} (h : 1 ≤ w) (h' : w ≤ 3) : w = 1 ∨ w = 2 ∨ w = 3 := by omega
theorem okBox_parts {w h E : Int} (hb : okBox w h E = true) : 1 ≤ w ∧ w ≤ 3 ∧ 1 ≤ h ∧ h ≤ 3 ∧ 0 ≤ E ∧ E < 2 ^ (nEdge w h).toNat := by simpa [okBox] using hb
theorem okBox_mk {w h E : Int} (h1 : 1 ≤ w) (h2 : w ≤ 3) (h3 : 1 ≤ h) (h4 : h ≤ 3) (h5 : 0 ≤ E) (h6 : E < 2 ^ (nEdge w h).toNat) : okBox w h E = true := by simp [okBox, *]
/-- The numbers of a grid. -/
theorem grid_nums {w h : Int} (h1 : 1 ≤ w) (h2 : w ≤ 3) (h3 : 1 ≤ h) (h4 : h ≤ 3) : 1 ≤ w * h ∧ w * h ≤ 9 ∧ 2 ≤ w * (h + 1) ∧ w * (h + 1) ≤ 12 ∧ 2 ≤ (w + 1) * h ∧ (w + 1) * h ≤ 12 ∧ (w + 1) * h = h * (w + 1) ∧ nEdge w h = w * (h + 1) + (w + 1) * h ∧ nLie w h = w * (h + 1) := by
  rcases dims3 h1 h2 with rfl | rfl | rfl <;> rcases dims3 h3 h4 with rfl | rfl | rfl <;> simp [nEdge, nLie]
theorem okBox_E {w h E : Int} (hb : okBox w h E = true) : 0 ≤ E ∧ E < 16777216 := by
  obtain ⟨h1, h2, h3, h4, h5, h6⟩ := okBox_parts hb
  refine ⟨h5, ?_⟩
  rcases dims3 h1 h2 with rfl | rfl | rfl <;> rcases dims3 h3 h4 with rfl | rfl | rfl <;> simp [nEdge] at h6 <;> omega

/-! ### the edges of a box -/
def arT (w i : Int) : Int := i / w * w + i % w
def arB (w i : Int) : Int := (i / w + 1) * w + i % w
def arL (w h i : Int) : Int := w * (h + 1) + i / w * (w + 1) + i % w
def arR (w h i : Int) : Int := w * (h + 1) + i / w * (w + 1) + (i % w + 1)
def around (w h i : Int) : List Int := [arT w i, arB w i, arL w h i, arR w h i]

/-- What a walk needs of a box's row and column. -/
theorem box_nums {w h i : Int} (h1 : 1 ≤ w) (h2 : w ≤ 3) (h3 : 1 ≤ h) (h4 : h ≤ 3) (h5 : 0 ≤ i) (h6 : i < w * h) :
    0 ≤ i / w ∧ i / w ≤ 2 ∧ i / w < h ∧ 0 ≤ i % w ∧ i % w ≤ 2 ∧ i % w < w ∧ 0 ≤ i / w * w ∧ i / w * w ≤ 6 ∧ 0 ≤ (i / w + 1) * w ∧ (i / w + 1) * w ≤ 9 ∧ 0 ≤ i / w * (w + 1) ∧ i / w * (w + 1) ≤ 8 := by
  rcases dims3 h1 h2 with rfl | rfl | rfl <;> rcases dims3 h3 h4 with rfl | rfl | rfl <;> refine ⟨?_, ?_, ?_, ?_, ?_, ?_, ?_, ?_, ?_, ?_, ?_, ?_⟩ <;> omega
theorem around_range {w h i : Int} (h1 : 1 ≤ w) (h2 : w ≤ 3) (h3 : 1 ≤ h) (h4 : h ≤ 3) (h5 : 0 ≤ i) (h6 : i < w * h) :
    0 ≤ arT w i ∧ arT w i < nEdge w h ∧ 0 ≤ arB w i ∧ arB w i < nEdge w h ∧ 0 ≤ arL w h i ∧ arL w h i < nEdge w h ∧ 0 ≤ arR w h i ∧ arR w h i < nEdge w h := by
  rcases dims3 h1 h2 with rfl | rfl | rfl <;> rcases dims3 h3 h4 with rfl | rfl | rfl <;> simp only [arT, arB, arL, arR, nEdge] <;> refine ⟨?_, ?_, ?_, ?_, ?_, ?_, ?_, ?_⟩ <;> omega

/-- How many edges of a box are drawn. -/
def cnt4 (w h E i : Int) : Int := dg E (arT w i) + dg E (arB w i) + dg E (arL w h i) + dg E (arR w h i)
/-- .. of the first k of its edges. -/
def cntTo (w h E i : Int) : Nat → Int
  | 0 => 0
  | 1 => dg E (arT w i)
  | 2 => dg E (arT w i) + dg E (arB w i)
  | 3 => dg E (arT w i) + dg E (arB w i) + dg E (arL w h i)
  | _ => cnt4 w h E i
theorem cnt4_range (w h E i : Int) : 0 ≤ cnt4 w h E i ∧ cnt4 w h E i ≤ 4 := by
  unfold cnt4
  have := dg_01 E (arT w i)
  have := dg_01 E (arB w i)
  have := dg_01 E (arL w h i)
  have := dg_01 E (arR w h i)
  omega
theorem dg_le_withE {E k j : Int} (h0 : 0 ≤ E) (hk : 0 ≤ k) (hj : 0 ≤ j) : dg E j ≤ dg (withE E k) j := by
  rw [dg_withE h0 hk hj]
  have := dg_01 E j
  split <;> omega
theorem cnt4_mono {w h E k i : Int} (h1 : 1 ≤ w) (h2 : w ≤ 3) (h3 : 1 ≤ h) (h4 : h ≤ 3) (h5 : 0 ≤ i) (h6 : i < w * h) (h0 : 0 ≤ E) (hk : 0 ≤ k) : cnt4 w h E i ≤ cnt4 w h (withE E k) i := by
  obtain ⟨a1, _, a2, _, a3, _, a4, _⟩ := around_range h1 h2 h3 h4 h5 h6
  unfold cnt4
  have := dg_le_withE h0 hk a1
  have := dg_le_withE h0 hk a2
  have := dg_le_withE h0 hk a3
  have := dg_le_withE h0 hk a4
  omega

/-! ### those of the first k numbers -/
def pre (p : Int → Bool) (k : Nat) : List Int := ((List.range k).filter (fun i : Nat => p (i : Int))).map (fun i : Nat => (i : Int))
theorem pre_yes {p : Int → Bool} {k : Nat} (h : p (k : Int) = true) : pre p (k + 1) = pre p k ++ [(k : Int)] := by simp [pre, List.range_succ, h]
theorem pre_no {p : Int → Bool} {k : Nat} (h : p (k : Int) = false) : pre p (k + 1) = pre p k := by simp [pre, List.range_succ, h]
theorem pre_zero (p : Int → Bool) : pre p 0 = [] := rfl
theorem pre_le (p : Int → Bool) (k : Nat) : (pre p k).length ≤ k := by
  unfold pre
  rw [List.length_map]
  exact Nat.le_trans (List.length_filter_le _ _) (by simp)
theorem pre_mem {p : Int → Bool} {k : Nat} {z : Int} (h : z ∈ pre p k) : 0 ≤ z ∧ z < k ∧ p z = true := by
  simp only [pre, List.mem_map, List.mem_filter, List.mem_range] at h
  obtain ⟨i, ⟨h1, h2⟩, rfl⟩ := h
  exact ⟨by omega, by omega, h2⟩
theorem pre_congr {p q : Int → Bool} {k : Nat} (h : ∀ i : Nat, i < k → p (i : Int) = q (i : Int)) : pre p k = pre q k := by
  unfold pre
  congr 1
  exact List.filter_congr fun i hi => h i (List.mem_range.1 hi)

def freeE (w h E : Int) : List Int := pre (fun e => !drawn E e) (nEdge w h).toNat
def withB (w h E n : Int) : List Int := pre (fun i => decide (cnt4 w h E i = n)) (w * h).toNat

theorem freeE_le {w h E : Int} (hb : okBox w h E = true) : (freeE w h E).length ≤ 24 := by
  obtain ⟨h1, h2, h3, h4, _, _⟩ := okBox_parts hb
  have := grid_nums h1 h2 h3 h4
  have := pre_le (fun e => !drawn E e) (nEdge w h).toNat
  unfold freeE
  omega
theorem withB_le {w h E n : Int} (hb : okBox w h E = true) : (withB w h E n).length ≤ 9 := by
  obtain ⟨h1, h2, h3, h4, _, _⟩ := okBox_parts hb
  have := grid_nums h1 h2 h3 h4
  have := pre_le (fun i => decide (cnt4 w h E i = n)) (w * h).toNat
  unfold withB
  omega

/-! ### a move -/
/-- How many boxes are made taken, among the first k. -/
def takenTo (w h E F : Int) (k : Nat) : Int := ((pre (fun i => decide (cnt4 w h E i < 4) && decide (cnt4 w h F i = 4)) k).length : Nat)
theorem takenTo_range (w h E F : Int) (k : Nat) : 0 ≤ takenTo w h E F k ∧ takenTo w h E F k ≤ k := by
  unfold takenTo
  have := pre_le (fun i => decide (cnt4 w h E i < 4) && decide (cnt4 w h F i = 4)) k
  omega
theorem takenTo_yes {w h E F : Int} {k : Nat} (h1 : cnt4 w h E k < 4) (h2 : cnt4 w h F k = 4) : takenTo w h E F (k + 1) = takenTo w h E F k + 1 := by
  unfold takenTo
  rw [pre_yes (by simp [h1, h2])]
  simp
theorem takenTo_no {w h E F : Int} {k : Nat} (h1 : ¬ (cnt4 w h E k < 4 ∧ cnt4 w h F k = 4)) : takenTo w h E F (k + 1) = takenTo w h E F k := by
  unfold takenTo
  rw [pre_no (by simpa using h1)]
/-- The difference of the numbers of boxes that are taken. -/
theorem takenTo_diff {w h E F : Int} {k : Nat} (hm : ∀ i : Nat, i < k → cnt4 w h E i ≤ cnt4 w h F i) : takenTo w h E F k = ((pre (fun i => decide (cnt4 w h F i = 4)) k).length : Int) - ((pre (fun i => decide (cnt4 w h E i = 4)) k).length : Int) := by
  induction k with
  | zero => rfl
  | succ k ih =>
    have ih := ih (fun i hi => hm i (by omega))
    have hk := hm k (by omega)
    have hE := cnt4_range w h E k
    have hF := cnt4_range w h F k
    by_cases e1 : cnt4 w h F k = 4
    · rw [pre_yes (p := fun i => decide (cnt4 w h F i = 4)) (by simp [e1])]
      by_cases e2 : cnt4 w h E k = 4
      · rw [pre_yes (p := fun i => decide (cnt4 w h E i = 4)) (by simp [e2]), takenTo_no (by omega), ih]
        simp
        omega
      · rw [pre_no (p := fun i => decide (cnt4 w h E i = 4)) (by simp [e2]), takenTo_yes (by omega) e1, ih]
        simp
        omega
    · rw [pre_no (p := fun i => decide (cnt4 w h F i = 4)) (by simp [e1]), pre_no (p := fun i => decide (cnt4 w h E i = 4)) (by simp; omega), takenTo_no (by omega), ih]
def takenBy (w h E F : Int) : Int := takenTo w h E F (w * h).toNat
theorem takenBy_diff {w h E k : Int} (hb : okBox w h E = true) (hk : 0 ≤ k) : takenBy w h E (withE E k) = ((withB w h (withE E k) 4).length : Int) - ((withB w h E 4).length : Int) := by
  obtain ⟨h1, h2, h3, h4, h5, h6⟩ := okBox_parts hb
  exact takenTo_diff (fun i hi => cnt4_mono h1 h2 h3 h4 (by omega) (by omega) h5 hk)

/-! ### safe edges -/
/-- The box i gets its third edge by e. -/
def third (w h E F i : Int) : Bool := decide (cnt4 w h F i = 3) && decide (cnt4 w h E i < 3)
def safeTo (w h E F : Int) (k : Nat) : Bool := (List.range k).all fun i : Nat => !third w h E F (i : Int)
theorem safeTo_succ (w h E F : Int) (k : Nat) : safeTo w h E F (k + 1) = (safeTo w h E F k && !third w h E F (k : Int)) := by simp [safeTo, List.range_succ]
def safeE (w h E e : Int) : Bool := safeTo w h E (withE E e) (w * h).toNat
def safeL (w h E : Int) : List Int := (freeE w h E).filter (safeE w h E)
theorem safeTo_false {w h E F : Int} {i k : Nat} (hi : i < k) (ht : third w h E F (i : Int) = true) : safeTo w h E F k = false := by
  unfold safeTo
  rw [List.all_eq_false]
  exact ⟨i, List.mem_range.2 hi, by simp [ht]⟩
end Go.Proofs.Ytdimmlpnfghndab
