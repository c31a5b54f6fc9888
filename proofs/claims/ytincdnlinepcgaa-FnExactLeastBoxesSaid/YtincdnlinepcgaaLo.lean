/-
  Dots and boxes: reflections one after another; the positions that come of one. Plain functions.
-/
import Derived.Test.YtincdnlinepcgaaBxR
namespace Go.Proofs.Ytincdnlinepcgaa
open Go.RowKit
set_option linter.unusedVariables false

/-- Reflections of an edge's number, twice: for a grid in whose kinds the sides stay as they are. -/
def compB (w h : Int) : Bool :=
  (List.range (nEdge w h).toNat).all fun e : Nat =>
    decide (rfE w h 0 (rfE w h 0 e) = e ∧ rfE w h 1 (rfE w h 1 e) = e ∧ rfE w h 0 (rfE w h 1 e) = rfE w h 1 (rfE w h 0 e) ∧
      (w = h → rfE w h 2 (rfE w h 2 e) = e ∧ rfE w h 0 (rfE w h 2 e) = rfE w h 2 (rfE w h 1 e) ∧ rfE w h 1 (rfE w h 2 e) = rfE w h 2 (rfE w h 0 e)))
theorem comp_ok : ∀ w ∈ [(1 : Int), 2, 3], ∀ h ∈ [(1 : Int), 2, 3], compB w h = true := by decide +kernel
theorem comp_of {w h : Int} (h1 : 1 ≤ w) (h2 : w ≤ 3) (h3 : 1 ≤ h) (h4 : h ≤ 3) {e : Nat} (he : (e : Int) < nEdge w h) :
    rfE w h 0 (rfE w h 0 e) = e ∧ rfE w h 1 (rfE w h 1 e) = e ∧ rfE w h 0 (rfE w h 1 e) = rfE w h 1 (rfE w h 0 e) ∧
      (w = h → rfE w h 2 (rfE w h 2 e) = e ∧ rfE w h 0 (rfE w h 2 e) = rfE w h 2 (rfE w h 1 e) ∧ rfE w h 1 (rfE w h 2 e) = rfE w h 2 (rfE w h 0 e)) := by
  have hc : compB w h = true := by
    refine comp_ok w ?_ h ?_
    · rcases dims3 h1 h2 with rfl | rfl | rfl <;> simp
    · rcases dims3 h3 h4 with rfl | rfl | rfl <;> simp
  simp only [compB, List.all_eq_true, decide_eq_true_eq] at hc
  exact hc e (List.mem_range.2 (by omega))

/-- The kind leaves the sides as they are. -/
def Keeps (w h k : Int) : Prop := k = 0 ∨ k = 1 ∨ (k = 2 ∧ w = h)
theorem Keeps.m {w h k : Int} (hk : Keeps w h k) : mw w h k = w ∧ mh w h k = h := by
  unfold mw mh
  rcases hk with rfl | rfl | ⟨rfl, rfl⟩ <;> simp
theorem Keeps.r {w h k : Int} (hk : Keeps w h k) : 0 ≤ k ∧ k ≤ 2 := by
  rcases hk with rfl | rfl | ⟨rfl, _⟩ <;> omega
theorem refl_ok {w h E k : Int} (hb : okBox w h E = true) (hk : Keeps w h k) : okBox w h (refl3 w h E k) = true := by
  obtain ⟨h1, h2, h3, h4, _, _⟩ := okBox_parts hb
  have hg := grid_nums h1 h2 h3 h4
  have := rflTo_range (E := E) (k := (nEdge w h).toNat) h1 h2 h3 h4 hk.r.1 hk.r.2 (by omega)
  rw [hk.m.1, hk.m.2] at this
  exact this
theorem refl_dg {w h E k j : Int} (h1 : 1 ≤ w) (h2 : w ≤ 3) (h3 : 1 ≤ h) (h4 : h ≤ 3) (hk : Keeps w h k) (hj : 0 ≤ j) :
    dg (refl3 w h E k) j = 1 ↔ ∃ e : Nat, (e : Int) < nEdge w h ∧ drawn E e = true ∧ rfE w h k e = j := by
  have h0 : ¬ (dg 0 j = 1) := by
    obtain ⟨m, rfl⟩ := Int.eq_ofNat_of_zero_le hj
    rw [show (0 : Int) = ((0 : Nat) : Int) by rfl, dg_nat]; simp
  unfold refl3
  rw [foldE_dg E _ 0 j (Int.le_refl _) hj (fun p hp => by
    obtain ⟨e, he, rfl⟩ := List.mem_map.1 hp
    exact (plc_range (e := e) h1 h2 h3 h4 hk.r.1 hk.r.2 (by have := List.mem_range.1 he; omega)).2.1)]
  constructor
  · rintro (hx | ⟨p, hp, hd, he⟩)
    · exact absurd hx h0
    · obtain ⟨e, hm, rfl⟩ := List.mem_map.1 hp
      exact ⟨e, by have := List.mem_range.1 hm; omega, hd, he⟩
  · rintro ⟨e, hm, hd, he⟩
    exact .inr ⟨_, List.mem_map.2 ⟨e, List.mem_range.2 (by omega), rfl⟩, hd, he⟩
theorem refl_twice_dg {w h E a b j : Int} (h1 : 1 ≤ w) (h2 : w ≤ 3) (h3 : 1 ≤ h) (h4 : h ≤ 3) (ha : Keeps w h a) (hb : Keeps w h b) (hj : 0 ≤ j) :
    dg (refl3 w h (refl3 w h E b) a) j = 1 ↔ ∃ e : Nat, (e : Int) < nEdge w h ∧ drawn E e = true ∧ rfE w h a (rfE w h b e) = j := by
  rw [refl_dg h1 h2 h3 h4 ha hj]
  constructor
  · rintro ⟨e2, he2, hd, hr⟩
    obtain ⟨e1, he1, hd1, hr1⟩ := (refl_dg h1 h2 h3 h4 hb (by omega)).1 (dg_of_drawn hd)
    exact ⟨e1, he1, hd1, by rw [hr1]; exact hr⟩
  · rintro ⟨e1, he1, hd1, hr⟩
    have hr1 := (plc_range (e := e1) h1 h2 h3 h4 hb.r.1 hb.r.2 he1).2
    rw [hb.m.1, hb.m.2] at hr1
    obtain ⟨e2, he2⟩ := Int.eq_ofNat_of_zero_le hr1.1
    refine ⟨e2, by omega, ?_, by rw [← he2]; exact hr⟩
    have := (refl_dg (E := E) (j := (e2 : Int)) h1 h2 h3 h4 hb (by omega)).2 ⟨e1, he1, hd1, he2⟩
    simp [drawn, this]
theorem dg_high {w h E j : Int} (hb : okBox w h E = true) (hj : nEdge w h ≤ j) : ¬ (dg E j = 1) := by
  obtain ⟨h1, h2, h3, h4, p1, q1⟩ := okBox_parts hb
  have hg := grid_nums h1 h2 h3 h4
  obtain ⟨m, rfl⟩ := Int.eq_ofNat_of_zero_le p1
  obtain ⟨k, rfl⟩ := Int.eq_ofNat_of_zero_le (show 0 ≤ j by omega)
  rw [dg_nat]
  have hm : m < 2 ^ (nEdge w h).toNat := by exact_mod_cast q1
  rw [Nat.testBit_lt_two_pow (Nat.lt_of_lt_of_le hm (Nat.pow_le_pow_right (by omega) (by omega)))]
  simp
theorem refl_back {w h E k : Int} (hb : okBox w h E = true) (hk : Keeps w h k) (hc : ∀ e : Nat, (e : Int) < nEdge w h → rfE w h k (rfE w h k e) = e) : refl3 w h (refl3 w h E k) k = E := by
  obtain ⟨h1, h2, h3, h4, p1, q1⟩ := okBox_parts hb
  have hr := okBox_parts (refl_ok (refl_ok hb hk) hk)
  refine eq_of_dg hr.2.2.2.2.1 p1 fun j hj => ?_
  rw [refl_twice_dg h1 h2 h3 h4 hk hk hj]
  constructor
  · rintro ⟨e, he, hd, hx⟩
    rw [hc e he] at hx
    subst hx
    exact dg_of_drawn hd
  · intro hd
    obtain ⟨e, rfl⟩ := Int.eq_ofNat_of_zero_le hj
    have hlt : (e : Int) < nEdge w h := by
      rcases Int.lt_or_le (e : Int) (nEdge w h) with h5 | h5
      · exact h5
      · exact absurd hd (dg_high hb h5)
    exact ⟨e, hlt, by simp [drawn, hd], hc e hlt⟩
theorem refl_swap {w h E a b c d : Int} (hb : okBox w h E = true) (ha : Keeps w h a) (hbk : Keeps w h b) (hc : Keeps w h c) (hd : Keeps w h d) (hx : ∀ e : Nat, (e : Int) < nEdge w h → rfE w h a (rfE w h b e) = rfE w h c (rfE w h d e)) :
    refl3 w h (refl3 w h E b) a = refl3 w h (refl3 w h E d) c := by
  obtain ⟨h1, h2, h3, h4, p1, q1⟩ := okBox_parts hb
  have hr := okBox_parts (refl_ok (refl_ok hb hbk) ha)
  have hs := okBox_parts (refl_ok (refl_ok hb hd) hc)
  refine eq_of_dg hr.2.2.2.2.1 hs.2.2.2.2.1 fun j hj => ?_
  rw [refl_twice_dg h1 h2 h3 h4 ha hbk hj, refl_twice_dg h1 h2 h3 h4 hc hd hj]
  constructor
  · rintro ⟨e, he, hdr, hy⟩
    exact ⟨e, he, hdr, by rw [← hx e he]; exact hy⟩
  · rintro ⟨e, he, hdr, hy⟩
    exact ⟨e, he, hdr, by rw [hx e he]; exact hy⟩
section
variable {w h E : Int} (hb : okBox w h E = true)
include hb
theorem r00 : refl3 w h (refl3 w h E 0) 0 = E := by
  obtain ⟨h1, h2, h3, h4, _, _⟩ := okBox_parts hb
  exact refl_back hb (.inl rfl) fun e he => (comp_of h1 h2 h3 h4 he).1
theorem r11 : refl3 w h (refl3 w h E 1) 1 = E := by
  obtain ⟨h1, h2, h3, h4, _, _⟩ := okBox_parts hb
  exact refl_back hb (.inr (.inl rfl)) fun e he => (comp_of h1 h2 h3 h4 he).2.1
theorem r01 : refl3 w h (refl3 w h E 1) 0 = refl3 w h (refl3 w h E 0) 1 := by
  obtain ⟨h1, h2, h3, h4, _, _⟩ := okBox_parts hb
  exact refl_swap hb (.inl rfl) (.inr (.inl rfl)) (.inr (.inl rfl)) (.inl rfl) fun e he => (comp_of h1 h2 h3 h4 he).2.2.1
theorem r22 (hs : w = h) : refl3 w h (refl3 w h E 2) 2 = E := by
  obtain ⟨h1, h2, h3, h4, _, _⟩ := okBox_parts hb
  exact refl_back hb (.inr (.inr ⟨rfl, hs⟩)) fun e he => ((comp_of h1 h2 h3 h4 he).2.2.2 hs).1
theorem r02 (hs : w = h) : refl3 w h (refl3 w h E 2) 0 = refl3 w h (refl3 w h E 1) 2 := by
  obtain ⟨h1, h2, h3, h4, _, _⟩ := okBox_parts hb
  exact refl_swap hb (.inl rfl) (.inr (.inr ⟨rfl, hs⟩)) (.inr (.inr ⟨rfl, hs⟩)) (.inr (.inl rfl)) fun e he => ((comp_of h1 h2 h3 h4 he).2.2.2 hs).2.1
theorem r12 (hs : w = h) : refl3 w h (refl3 w h E 2) 1 = refl3 w h (refl3 w h E 0) 2 := by
  obtain ⟨h1, h2, h3, h4, _, _⟩ := okBox_parts hb
  exact refl_swap hb (.inr (.inl rfl)) (.inr (.inr ⟨rfl, hs⟩)) (.inr (.inr ⟨rfl, hs⟩)) (.inl rfl) fun e he => ((comp_of h1 h2 h3 h4 he).2.2.2 hs).2.2
end

/-- The four that come by the kinds 0 and 1. -/
def four (w h E : Int) : List Int := [E, refl3 w h E 0, refl3 w h (refl3 w h E 0) 1, refl3 w h (refl3 w h (refl3 w h E 0) 1) 0]
def orb (w h E : Int) : List Int := if w = h then four w h E ++ four w h (refl3 w h E 2) else four w h E
theorem four_ok {w h E x : Int} (hb : okBox w h E = true) (hx : x ∈ four w h E) : okBox w h x = true := by
  have k0 : Keeps w h 0 := .inl rfl
  have k1 : Keeps w h 1 := .inr (.inl rfl)
  simp only [four, List.mem_cons, List.not_mem_nil, or_false] at hx
  rcases hx with rfl | rfl | rfl | rfl
  · exact hb
  · exact refl_ok hb k0
  · exact refl_ok (refl_ok hb k0) k1
  · exact refl_ok (refl_ok (refl_ok hb k0) k1) k0
/-- The last of the four is the reflection of kind 1. -/
theorem four_last {w h E : Int} (hb : okBox w h E = true) : refl3 w h (refl3 w h (refl3 w h E 0) 1) 0 = refl3 w h E 1 := by
  rw [← r01 hb, r00 (refl_ok hb (.inr (.inl rfl)))]
theorem four_round {w h E : Int} (hb : okBox w h E = true) : refl3 w h (refl3 w h (refl3 w h (refl3 w h E 0) 1) 0) 1 = E := by
  rw [four_last hb, r11 hb]
theorem four_closed {w h E x : Int} (hb : okBox w h E = true) (hx : x ∈ four w h E) : refl3 w h x 0 ∈ four w h E ∧ refl3 w h x 1 ∈ four w h E := by
  have k0 : Keeps w h 0 := .inl rfl
  have k1 : Keeps w h 1 := .inr (.inl rfl)
  have e1 := four_last hb
  have e2 := four_round hb
  have e3 := r00 hb
  have e4 := r11 (refl_ok hb k0)
  have e5 := r00 (refl_ok (refl_ok hb k0) k1)
  unfold four at hx ⊢
  simp only [List.mem_cons, List.not_mem_nil, or_false] at hx
  rcases hx with rfl | rfl | rfl | rfl
  · exact ⟨by simp, by rw [e1]; simp⟩
  · exact ⟨by rw [e3]; simp, by simp⟩
  · exact ⟨by simp, by rw [e4]; simp⟩
  · exact ⟨by rw [e5]; simp, by rw [e2]; simp⟩
theorem four_cross {w h E x : Int} (hs : w = h) (hb : okBox w h E = true) (hx : x ∈ four w h E) : refl3 w h x 2 ∈ four w h (refl3 w h E 2) := by
  have k0 : Keeps w h 0 := .inl rfl
  have k1 : Keeps w h 1 := .inr (.inl rfl)
  have k2 : Keeps w h 2 := .inr (.inr ⟨rfl, hs⟩)
  have hF := refl_ok hb k2
  unfold four at hx
  simp only [List.mem_cons, List.not_mem_nil, or_false] at hx
  have f1 := four_last hF
  rcases hx with rfl | rfl | rfl | rfl
  · simp [four]
  · rw [← r12 hb hs, ← f1]; simp [four]
  · rw [← r02 (refl_ok hb k0) hs, ← r12 hb hs, r01 hF]; simp [four]
  · rw [four_last hb, ← r02 hb hs]; simp [four]
theorem orb_ok {w h E x : Int} (hb : okBox w h E = true) (hx : x ∈ orb w h E) : okBox w h x = true := by
  unfold orb at hx
  split at hx
  · rename_i hs
    rcases List.mem_append.1 hx with h1 | h1
    · exact four_ok hb h1
    · exact four_ok (refl_ok hb (.inr (.inr ⟨rfl, hs⟩))) h1
  · exact four_ok hb hx
theorem orb_closed {w h E x k : Int} (hb : okBox w h E = true) (hk : Keeps w h k) (hx : x ∈ orb w h E) : refl3 w h x k ∈ orb w h E := by
  unfold orb at hx ⊢
  rcases hk with rfl | rfl | ⟨rfl, hs⟩
  · split at hx
    · rename_i hs
      rw [if_pos hs]
      rcases List.mem_append.1 hx with h1 | h1
      · exact List.mem_append.2 (.inl (four_closed hb h1).1)
      · exact List.mem_append.2 (.inr (four_closed (refl_ok hb (.inr (.inr ⟨rfl, hs⟩))) h1).1)
    · rename_i hs
      rw [if_neg hs]
      exact (four_closed hb hx).1
  · split at hx
    · rename_i hs
      rw [if_pos hs]
      rcases List.mem_append.1 hx with h1 | h1
      · exact List.mem_append.2 (.inl (four_closed hb h1).2)
      · exact List.mem_append.2 (.inr (four_closed (refl_ok hb (.inr (.inr ⟨rfl, hs⟩))) h1).2)
    · rename_i hs
      rw [if_neg hs]
      exact (four_closed hb hx).2
  · rw [if_pos hs] at hx ⊢
    rcases List.mem_append.1 hx with h1 | h1
    · exact List.mem_append.2 (.inr (four_cross hs hb h1))
    · have := four_cross hs (refl_ok hb (.inr (.inr ⟨rfl, hs⟩))) h1
      rw [r22 hb hs] at this
      exact List.mem_append.2 (.inl this)
theorem orb_le (w h E : Int) : (orb w h E).length ≤ 8 := by
  unfold orb
  split <;> simp [four]
theorem nodup_le : ∀ (l k : List Int), l.Nodup → (∀ x ∈ l, x ∈ k) → l.length ≤ k.length
  | [], k, _, _ => Nat.zero_le _
  | x :: l, k, hn, hs => by
    have hx := hs x List.mem_cons_self
    have hn' := List.nodup_cons.1 hn
    have ih := nodup_le l (k.erase x) hn'.2 fun y hy => (List.mem_erase_of_ne (fun e : y = x => hn'.1 (by rw [← e]; exact hy))).2 (hs y (List.mem_cons_of_mem _ hy))
    rw [List.length_erase_of_mem hx] at ih
    have := List.length_pos_of_mem hx
    simp
    omega

/-! ### the model's way through them -/
/-- The position behind j reflections, by turns of the kinds 0 and 1. -/
def stp (w h E : Int) : Nat → Int
  | 0 => E
  | j + 1 => refl3 w h (stp w h E j) ((j : Int) % 2)
/-- The least of them. -/
def bst (w h E B : Int) : Nat → Int
  | 0 => B
  | j + 1 => if stp w h E (j + 1) < bst w h E B j then stp w h E (j + 1) else bst w h E B j
def leastE (w h E : Int) : Int := if w = h then bst w h (refl3 w h E 2) (bst w h E E 4) 4 else bst w h E E 4
theorem stp_ok {w h E : Int} (hb : okBox w h E = true) : ∀ j, okBox w h (stp w h E j) = true
  | 0 => hb
  | j + 1 => refl_ok (stp_ok hb j) (by rcases (by omega : (j : Int) % 2 = 0 ∨ (j : Int) % 2 = 1) with e | e <;> rw [e]; exact .inl rfl; exact .inr (.inl rfl))
theorem stp4 {w h E : Int} (hb : okBox w h E = true) : stp w h E 4 = E := four_round hb
theorem bst_le (w h E B : Int) : ∀ j, bst w h E B j ≤ B ∧ ∀ i, i < j → bst w h E B j ≤ stp w h E (i + 1)
  | 0 => ⟨Int.le_refl _, fun i hi => by omega⟩
  | j + 1 => by
    obtain ⟨h1, h2⟩ := bst_le w h E B j
    unfold bst
    split
    · refine ⟨by omega, fun i hi => ?_⟩
      rcases Nat.lt_or_eq_of_le (Nat.lt_succ_iff.1 hi) with h3 | h3
      · have := h2 i h3; omega
      · subst h3; exact Int.le_refl _
    · refine ⟨h1, fun i hi => ?_⟩
      rcases Nat.lt_or_eq_of_le (Nat.lt_succ_iff.1 hi) with h3 | h3
      · exact h2 i h3
      · subst h3; omega
theorem bst_mem (w h E B : Int) : ∀ j, bst w h E B j = B ∨ ∃ i, i < j ∧ bst w h E B j = stp w h E (i + 1)
  | 0 => .inl rfl
  | j + 1 => by
    unfold bst
    split
    · exact .inr ⟨j, by omega, rfl⟩
    · rcases bst_mem w h E B j with h1 | ⟨i, hi, h1⟩
      · exact .inl h1
      · exact .inr ⟨i, by omega, h1⟩
theorem stp_four {w h E : Int} (hb : okBox w h E = true) {i : Nat} (hi : i < 4) : stp w h E (i + 1) ∈ four w h E := by
  rcases (by omega : i = 0 ∨ i = 1 ∨ i = 2 ∨ i = 3) with rfl | rfl | rfl | rfl
  · simp [stp, four]
  · simp [stp, four]
  · simp [stp, four]
  · rw [stp4 hb]; simp [four]
theorem four_stp {w h E x : Int} (hb : okBox w h E = true) (hx : x ∈ four w h E) : ∃ i, i < 4 ∧ x = stp w h E (i + 1) := by
  simp only [four, List.mem_cons, List.not_mem_nil, or_false] at hx
  rcases hx with rfl | rfl | rfl | rfl
  · exact ⟨3, by omega, (stp4 hb).symm⟩
  · exact ⟨0, by omega, rfl⟩
  · exact ⟨1, by omega, rfl⟩
  · exact ⟨2, by omega, rfl⟩
theorem least_mem {w h E : Int} (hb : okBox w h E = true) : leastE w h E ∈ orb w h E := by
  have hm : bst w h E E 4 ∈ four w h E := by
    rcases bst_mem w h E E 4 with h1 | ⟨i, hi, h1⟩
    · rw [h1]; simp [four]
    · rw [h1]; exact stp_four hb hi
  unfold leastE orb
  split
  · rename_i hs
    rcases bst_mem w h (refl3 w h E 2) (bst w h E E 4) 4 with h1 | ⟨i, hi, h1⟩
    · rw [h1]; exact List.mem_append.2 (.inl hm)
    · rw [h1]; exact List.mem_append.2 (.inr (stp_four (refl_ok hb (.inr (.inr ⟨rfl, hs⟩))) hi))
  · exact hm
theorem least_le {w h E x : Int} (hb : okBox w h E = true) (hx : x ∈ orb w h E) : leastE w h E ≤ x := by
  have hl : ∀ x ∈ four w h E, bst w h E E 4 ≤ x := fun x hx => by
    obtain ⟨i, hi, rfl⟩ := four_stp hb hx
    exact (bst_le w h E E 4).2 i hi
  unfold orb at hx
  unfold leastE
  split at hx
  · rename_i hs
    rw [if_pos hs]
    rcases List.mem_append.1 hx with h1 | h1
    · exact Int.le_trans (bst_le w h (refl3 w h E 2) (bst w h E E 4) 4).1 (hl x h1)
    · obtain ⟨i, hi, rfl⟩ := four_stp (refl_ok hb (.inr (.inr ⟨rfl, hs⟩))) h1
      exact (bst_le w h (refl3 w h E 2) (bst w h E E 4) 4).2 i hi
  · rename_i hs
    rw [if_neg hs]
    exact hl x hx

/-! ### the program's search -/
/-- What a search for all forms keeps: those before place k are closed, that at k by the kinds below d. -/
structure Forms (w h E : Int) (kinds : Nat) (k d : Nat) (fs : List Int) : Prop where
  nodup : fs.Nodup
  sub : ∀ x ∈ fs, x ∈ orb w h E
  first : E ∈ fs
  closed : ∀ i x, fs[i]? = some x → i < k → ∀ κ : Nat, κ < kinds → refl3 w h x κ ∈ fs
  here : ∀ x, fs[k]? = some x → ∀ κ : Nat, κ < d → refl3 w h x κ ∈ fs
theorem Forms.start (w h E : Int) (kinds : Nat) : Forms w h E kinds 0 0 [E] :=
  ⟨by simp, fun x hx => by simp at hx; subst hx; unfold orb; split <;> simp [four], by simp, fun i x _ hi => by omega, fun x _ κ hκ => by omega⟩
theorem Forms.le {w h E : Int} {kinds k d : Nat} {fs : List Int} (hf : Forms w h E kinds k d fs) : fs.length ≤ 8 := Nat.le_trans (nodup_le fs (orb w h E) hf.nodup hf.sub) (orb_le w h E)
theorem Forms.next {w h E : Int} {kinds k : Nat} {fs : List Int} (hf : Forms w h E kinds k kinds fs) : Forms w h E kinds (k + 1) 0 fs :=
  ⟨hf.nodup, hf.sub, hf.first, fun i x hx hi κ hκ => by
    rcases Nat.lt_or_eq_of_le (Nat.lt_succ_iff.1 hi) with h1 | h1
    · exact hf.closed i x hx h1 κ hκ
    · subst h1; exact hf.here x hx κ hκ, fun x _ κ hκ => by omega⟩
theorem Forms.known {w h E : Int} {kinds k d : Nat} {fs : List Int} {x : Int} (hf : Forms w h E kinds k d fs) (hx : fs[k]? = some x) (hm : refl3 w h x d ∈ fs) : Forms w h E kinds k (d + 1) fs :=
  ⟨hf.nodup, hf.sub, hf.first, hf.closed, fun y hy κ hκ => by
    rcases Nat.lt_or_eq_of_le (Nat.lt_succ_iff.1 hκ) with h1 | h1
    · exact hf.here y hy κ h1
    · subst h1
      rw [hx] at hy
      cases hy
      exact hm⟩
theorem Forms.more {w h E : Int} {kinds k d : Nat} {fs : List Int} {x : Int} (hb : okBox w h E = true) (hf : Forms w h E kinds k d fs) (hx : fs[k]? = some x) (hd : Keeps w h (d : Int)) (hm : refl3 w h x d ∉ fs) : Forms w h E kinds k (d + 1) (fs ++ [refl3 w h x d]) := by
  have hkl := (List.getElem?_eq_some_iff.1 hx).1
  have hlt : ∀ i y, (fs ++ [refl3 w h x d])[i]? = some y → i ≤ k → fs[i]? = some y := fun i y hy hi => by rwa [List.getElem?_append_left (by omega)] at hy
  refine ⟨?_, ?_, List.mem_append.2 (.inl hf.first), fun i y hy hi κ hκ => List.mem_append.2 (.inl (hf.closed i y (hlt i y hy (by omega)) hi κ hκ)), fun y hy κ hκ => ?_⟩
  · rw [List.nodup_append]
    refine ⟨hf.nodup, by simp, fun a ha b hb' => ?_⟩
    simp at hb'
    subst hb'
    intro e
    exact hm (e ▸ ha)
  · intro y hy
    rcases List.mem_append.1 hy with h1 | h1
    · exact hf.sub y h1
    · simp at h1
      subst h1
      exact orb_closed hb hd (hf.sub x (List.mem_of_getElem? hx))
  · have hy' := hlt k y hy (Nat.le_refl _)
    rcases Nat.lt_or_eq_of_le (Nat.lt_succ_iff.1 hκ) with h1 | h1
    · exact List.mem_append.2 (.inl (hf.here y hy' κ h1))
    · subst h1
      rw [hx] at hy'
      cases hy'
      simp
theorem Forms.all {w h E : Int} {kinds d : Nat} {fs : List Int} (hb : okBox w h E = true) (hk : kinds = if w = h then 3 else 2) (hf : Forms w h E kinds fs.length d fs) {x : Int} (hx : x ∈ orb w h E) : x ∈ fs := by
  have hc : ∀ y ∈ fs, ∀ κ : Nat, κ < kinds → refl3 w h y κ ∈ fs := fun y hy κ hκ => by
    obtain ⟨i, hi⟩ := List.mem_iff_getElem?.1 hy
    exact hf.closed i y hi (List.getElem?_eq_some_iff.1 hi).1 κ hκ
  have h4 : ∀ F ∈ fs, ∀ y ∈ four w h F, y ∈ fs := fun F hF y hy => by
    have k2 : 0 < kinds ∧ 1 < kinds := by rw [hk]; split <;> omega
    have a1 := hc F hF 0 k2.1
    have a2 := hc _ a1 1 k2.2
    have a3 := hc _ a2 0 k2.1
    simp only [four, List.mem_cons, List.not_mem_nil, or_false] at hy
    rcases hy with rfl | rfl | rfl | rfl
    · exact hF
    · exact a1
    · exact a2
    · exact a3
  unfold orb at hx
  split at hx
  · rename_i hs
    rw [if_pos hs] at hk
    rcases List.mem_append.1 hx with h1 | h1
    · exact h4 E hf.first x h1
    · exact h4 _ (hc E hf.first 2 (by omega)) x h1
  · exact h4 E hf.first x hx
/-- The least of the forms. -/
theorem Forms.least {w h E : Int} {kinds d : Nat} {fs : List Int} (hb : okBox w h E = true) (hk : kinds = if w = h then 3 else 2) (hf : Forms w h E kinds fs.length d fs) {m : Int} (hm : m ∈ fs) (hl : ∀ x ∈ fs, m ≤ x) : m = leastE w h E := by
  have h1 := least_le hb (hf.sub m hm)
  have h2 := hl _ (hf.all hb hk (least_mem hb))
  omega
end Go.Proofs.Ytincdnlinepcgaa
