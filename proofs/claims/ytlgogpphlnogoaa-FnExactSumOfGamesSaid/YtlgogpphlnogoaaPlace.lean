/-
  Codes of a game and a place: both texts.
-/
import Derived.Test.YtlgogpphlnogoaaIsGame
import Derived.Test.YtlgogpphlnogoaaEnds0
namespace Go.Proofs.Ytlgogpphlnogoaa
open Go.RowKit

def placeCode (xss : List (List Int)) (p : Int) : Int := if isGameB xss then (if 0 ≤ p ∧ p < xss.length then 0 else 2) else 1
theorem placeCode_no {xss : List (List Int)} {p : Int} (h : isGameB xss = false) : placeCode xss p = 1 := by unfold placeCode; rw [h]; rfl
theorem placeCode_in {xss : List (List Int)} {p : Int} (h : isGameB xss = true) (h0 : 0 ≤ p) (h1 : p < xss.length) : placeCode xss p = 0 := by unfold placeCode; rw [h, if_pos rfl, if_pos ⟨h0, h1⟩]
theorem placeCode_out {xss : List (List Int)} {p : Int} (h : isGameB xss = true) (h0 : ¬ (0 ≤ p ∧ p < xss.length)) : placeCode xss p = 2 := by unfold placeCode; rw [h, if_pos rfl, if_neg h0]
theorem placeCode_zero {xss : List (List Int)} {p : Int} (h : placeCode xss p = 0) : isGameB xss = true ∧ 0 ≤ p ∧ p < xss.length := by
  unfold placeCode at h
  split at h
  · rename_i hg
    split at h
    · rename_i hp
      exact ⟨hg, hp.1, hp.2⟩
    · simp at h
  · simp at h
theorem placeCode_cases (xss : List (List Int)) (p : Int) : placeCode xss p = 0 ∨ placeCode xss p = 1 ∨ placeCode xss p = 2 := by
  unfold placeCode
  split
  · split <;> simp
  · simp

/-! ### what a game's rows say -/
theorem ascB_mem : ∀ {zs : List Int} {low high : Int}, ascB low high zs = true → ∀ z ∈ zs, low ≤ z ∧ z ≤ high
  | [], _, _, _ => by simp
  | x :: r, low, high, h => by
    unfold ascB at h
    split at h
    · simp at h
    · intro z hz
      rcases List.mem_cons.1 hz with e | e
      · subst e; omega
      · have := ascB_mem h z e; omega
theorem rowsB_get : ∀ {xss : List (List Int)} {p n : Int} {i : Nat} {zs : List Int}, rowsB p n xss = true → xss[i]? = some zs → ascB (p + i + 1) (n - 1) zs = true
  | [], _, _, _, _, _, h => by simp at h
  | ys :: r, p, n, i, zs, h, hi => by
    unfold rowsB at h
    simp only [Bool.and_eq_true] at h
    cases i with
    | zero => simp at hi; subst hi; simpa using h.1
    | succ i =>
      simp at hi
      have := rowsB_get (i := i) h.2 hi
      have e : p + 1 + (i : Int) + 1 = p + ((i + 1 : Nat) : Int) + 1 := by omega
      rwa [e] at this
theorem game_len {xss : List (List Int)} (h : isGameB xss = true) : 1 ≤ xss.length ∧ xss.length ≤ 40 := by
  unfold isGameB at h
  simp only [Bool.and_eq_true, decide_eq_true_eq] at h
  exact h.1
theorem game_row {xss : List (List Int)} (h : isGameB xss = true) {i : Nat} {zs : List Int} (hi : xss[i]? = some zs) : ∀ z ∈ zs, (i : Int) < z ∧ z < xss.length := by
  have hl := game_len h
  rw [isGameB_in hl.1 hl.2] at h
  intro z hz
  have := ascB_mem (rowsB_get h hi) z hz
  omega
theorem ascB_len : ∀ {zs : List Int} {low high : Int}, ascB low high zs = true → (zs.length : Int) ≤ max 0 (high - low + 1)
  | [], _, _, _ => by simp; omega
  | x :: r, low, high, h => by
    unfold ascB at h
    split at h
    · simp at h
    · have := ascB_len h
      simp only [List.length_cons]
      omega
theorem game_row_len {xss : List (List Int)} (h : isGameB xss = true) {i : Nat} {zs : List Int} (hi : xss[i]? = some zs) : zs.length ≤ 40 := by
  have hl := game_len h
  rw [isGameB_in hl.1 hl.2] at h
  have := ascB_len (rowsB_get h hi)
  omega

set_option maxHeartbeats 400000 in
theorem isPlace_any (a : Option Addr) (c n : Nat) (p : Int) (w : World) :
    Calls Try.prog 71 #[.agg #[.slice a n c], .int .i64 p] w fun e w' => e = .returned (.bool (decide (0 ≤ p ∧ p < n))) ∧ Below w.heap.size w w' := by
  have hB0 : Below w.heap.size w (w.alloc (.cells #[.slice a n c] 29)) := (Below.refl _ _).alloc (Nat.le_refl _) _
  by_cases h0 : 0 ≤ p
  · by_cases h1 : p < n
    · rw [decide_eq_true ⟨h0, h1⟩]
      go_enter Try.func71, Try.ntmps71
      go_wp2_with fail
      go_ret
      exact ⟨rfl, hB0⟩
    · rw [decide_eq_false (by omega)]
      go_enter Try.func71, Try.ntmps71
      go_wp2_with fail
      go_ret
      exact ⟨rfl, hB0⟩
  · rw [decide_eq_false (by omega)]
    go_enter Try.func71, Try.ntmps71
    go_wp2_with fail
    go_ret
    exact ⟨rfl, hB0⟩

set_option maxHeartbeats 1000000 in
theorem checkPlace_any (a : Option Addr) (c : Nat) (xss : List (List Int)) (p : Int) (w : World) (ha : RowsAt w a xss) (hs : Small xss) :
    Calls Try.prog 75 #[.agg #[.slice a xss.length c], .int .i64 p] w fun e w' => e = .returned (.int .i64 (placeCode xss p)) ∧ Below w.heap.size w w' := by
  have hB0 : Below w.heap.size w (w.alloc (.cells #[.slice a xss.length c] 29)) := (Below.refl _ _).alloc (Nat.le_refl _) _
  have hbox : (w.alloc (.cells #[.slice a xss.length c] 29)).cell? ⟨w.heap.size, 0, none⟩ = some (.slice a xss.length c) := by simp [go_sem]
  cases hg : isGameB xss
  · rw [placeCode_no hg]
    go_enter Try.func75, Try.ntmps75
    go_wp2_with fail
    refine (implIsGame_any _ _ xss _ (ha.keep hB0) hs).mono ?_
    rw [hg]
    rintro e w1 ⟨rfl, hB1⟩
    go_wp2_with fail
    go_ret
    exact ⟨rfl, Below.trans' hB0 hB1⟩
  · by_cases hp : 0 ≤ p ∧ p < xss.length
    · rw [placeCode_in hg hp.1 hp.2]
      have HD := hide (decide_eq_true hp)
      clear hp
      go_enter Try.func75, Try.ntmps75
      go_wp2_with fail
      refine (implIsGame_any _ _ xss _ (ha.keep hB0) hs).mono ?_
      rw [hg]
      rintro e w1 ⟨rfl, hB1⟩
      have hb1 := cell_keep hB1 hbox
      go_wp2_with fail
      refine (isPlace_any _ _ _ _ _).mono ?_
      rw [HD.out]
      rintro e w2 ⟨rfl, hB2⟩
      go_wp2_with fail
      go_ret
      exact ⟨rfl, Below.trans' (Below.trans' hB0 hB1) hB2⟩
    · rw [placeCode_out hg hp]
      have HD := hide (decide_eq_false hp)
      clear hp
      go_enter Try.func75, Try.ntmps75
      go_wp2_with fail
      refine (implIsGame_any _ _ xss _ (ha.keep hB0) hs).mono ?_
      rw [hg]
      rintro e w1 ⟨rfl, hB1⟩
      have hb1 := cell_keep hB1 hbox
      go_wp2_with fail
      refine (isPlace_any _ _ _ _ _).mono ?_
      rw [HD.out]
      rintro e w2 ⟨rfl, hB2⟩
      go_wp2_with fail
      go_ret
      exact ⟨rfl, Below.trans' (Below.trans' hB0 hB1) hB2⟩

set_option maxHeartbeats 1000000 in
theorem l01Place_any (a : Option Addr) (c : Nat) (xss : List (List Int)) (p : Int) (w : World) (ha : RowsAt w a xss) (hs : Small xss) :
    Calls Try.prog 79 #[.agg #[.slice a xss.length c], .int .i64 p] w fun e w' => e = .returned (.int .i64 (placeCode xss p)) ∧ Below w.heap.size w w' := by
  have hl := hs.1
  have hB0 : Below w.heap.size w (w.alloc (.cells #[.slice a xss.length c] 29)) := (Below.refl _ _).alloc (Nat.le_refl _) _
  have hbox : (w.alloc (.cells #[.slice a xss.length c] 29)).cell? ⟨w.heap.size, 0, none⟩ = some (.slice a xss.length c) := by simp [go_sem]
  cases hg : isGameB xss
  · rw [placeCode_no hg]
    go_enter Try.func79, Try.ntmps79
    go_wp2_with fail
    refine (l01Is_any _ _ xss _ (ha.keep hB0) hs).mono ?_
    rw [hg]
    rintro e w1 ⟨rfl, hB1⟩
    go_wp2_with fail
    go_ret
    exact ⟨rfl, Below.trans' hB0 hB1⟩
  · have hin : (decide ((0 : Int) ≤ p) && decide (p ≤ (xss.length : Int) - 1)) = decide (0 ≤ p ∧ p < xss.length) := by
      by_cases hp : 0 ≤ p ∧ p < xss.length
      · rw [decide_eq_true hp, decide_eq_true hp.1, decide_eq_true (by omega)]; rfl
      · rw [decide_eq_false hp]
        by_cases h0 : 0 ≤ p
        · rw [decide_eq_false (p := p ≤ (xss.length : Int) - 1) (by omega)]; simp
        · rw [decide_eq_false h0]; rfl
    have HI := hide hin
    clear hin
    by_cases hp : 0 ≤ p ∧ p < xss.length
    · rw [placeCode_in hg hp.1 hp.2]
      have HD := hide (decide_eq_true hp)
      clear hp
      go_enter Try.func79, Try.ntmps79
      go_wp2_with fail
      refine (l01Is_any _ _ xss _ (ha.keep hB0) hs).mono ?_
      rw [hg]
      rintro e w1 ⟨rfl, hB1⟩
      have hb1 := cell_keep hB1 hbox
      go_wp2_with fail
      refine (l01N_any _ _ _ _).mono ?_
      rintro e w2 ⟨rfl, hB2⟩
      go_wp2_with fail
      refine (l01In_any _ _ _ _).mono ?_
      rw [HI.out, HD.out]
      rintro e w3 ⟨rfl, rfl⟩
      go_wp2_with fail
      go_ret
      exact ⟨rfl, Below.trans' (Below.trans' hB0 hB1) hB2⟩
    · rw [placeCode_out hg hp]
      have HD := hide (decide_eq_false hp)
      clear hp
      go_enter Try.func79, Try.ntmps79
      go_wp2_with fail
      refine (l01Is_any _ _ xss _ (ha.keep hB0) hs).mono ?_
      rw [hg]
      rintro e w1 ⟨rfl, hB1⟩
      have hb1 := cell_keep hB1 hbox
      go_wp2_with fail
      refine (l01N_any _ _ _ _).mono ?_
      rintro e w2 ⟨rfl, hB2⟩
      go_wp2_with fail
      refine (l01In_any _ _ _ _).mono ?_
      rw [HI.out, HD.out]
      rintro e w3 ⟨rfl, rfl⟩
      go_wp2_with fail
      go_ret
      exact ⟨rfl, Below.trans' (Below.trans' hB0 hB1) hB2⟩
end Go.Proofs.Ytlgogpphlnogoaa
