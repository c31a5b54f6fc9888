/-
  Dots and boxes: the program's functions that count and list: drawnAround, freeEdges, takenBy, IsBoxes.
-/
import Derived.Test.YtincdnlinepcgaaBxI
namespace Go.Proofs.Ytincdnlinepcgaa
open Go.RowKit
set_option linter.unusedVariables false

theorem cntTo_bd (w h E i : Int) (k : Nat) (hk : k ≤ 4) : 0 ≤ cntTo w h E i k ∧ cntTo w h E i k ≤ 4 := by
  have := dg_01 E (arT w i)
  have := dg_01 E (arB w i)
  have := dg_01 E (arL w h i)
  have := dg_01 E (arR w h i)
  rcases (by omega : k = 0 ∨ k = 1 ∨ k = 2 ∨ k = 3 ∨ k = 4) with rfl | rfl | rfl | rfl | rfl <;> simp only [cntTo, cnt4] <;> omega

set_option maxHeartbeats 1000000 in
theorem drawnAround_any (w h E i : Int) (hb : okBox w h E = true) (h5 : 0 ≤ i) (h6 : i < w * h) (W : World) :
    Calls Try.prog 48 #[.agg #[.int .i64 w, .int .i64 h, .int .i64 E], .int .i64 i] W (RetB (.int .i64 (cnt4 w h E i)) W) := by
  obtain ⟨h1, h2, h3, h4, _, _⟩ := okBox_parts hb
  obtain ⟨e1, e2⟩ := okBox_E hb
  have hn := grid_nums h1 h2 h3 h4
  have hr := around_range h1 h2 h3 h4 h5 h6
  obtain ⟨T, hT⟩ : ∃ T, T = arT w i := ⟨_, rfl⟩
  obtain ⟨B, hBo⟩ : ∃ B, B = arB w i := ⟨_, rfl⟩
  obtain ⟨L, hL⟩ : ∃ L, L = arL w h i := ⟨_, rfl⟩
  obtain ⟨R, hR⟩ : ∃ R, R = arR w h i := ⟨_, rfl⟩
  obtain ⟨C, hC⟩ : ∃ C : Nat → Int, C = cntTo w h E i := ⟨_, rfl⟩
  have hCb : ∀ k, k ≤ 4 → 0 ≤ C k ∧ C k ≤ 4 := by rw [hC]; exact cntTo_bd w h E i
  have hC0 : C 0 = 0 := by rw [hC]; rfl
  have hC1 : C 1 = C 0 + dg E T := by rw [hC, hT]; simp [cntTo]
  have hC2 : C 2 = C 1 + dg E B := by rw [hC, hBo]; rfl
  have hC3 : C 3 = C 2 + dg E L := by rw [hC, hL]; rfl
  have hC4 : C 4 = C 3 + dg E R := by rw [hC, hR]; rfl
  have hCf : C 4 = cnt4 w h E i := by rw [hC]; rfl
  rw [← hT, ← hBo, ← hL, ← hR] at hr
  have HE := hide (And.intro hT (And.intro hBo (And.intro hL hR)))
  have H0 := hide hC0
  have H1 := hide hC1
  have H2 := hide hC2
  have H3 := hide hC3
  have H4 := hide hC4
  have HF := hide hCf
  have HC := hide hCb
  have HN := hide hn
  have hbx := boxIn_new W w h E 25
  have hB0 := below_alloc W (.cells #[.int .i64 w, .int .i64 h, .int .i64 E] 25)
  have HBX := hide hbx
  have HB0 := hide hB0
  clear hT hBo hL hR hC hC0 hC1 hC2 hC3 hC4 hCf hCb hn hbx hB0
  go_enter Try.func48, Try.ntmps48
  go_wp2_with fail
  refine (edgesAround_any w h E i h1 h2 h3 h4 h5 h6 _).mono ?_
  rintro e w1 ⟨rfl, hb1⟩
  rw [← HE.out.1, ← HE.out.2.1, ← HE.out.2.2.1, ← HE.out.2.2.2]
  have hbx1 := HBX.out.keep hb1
  have hB1 := Below.trans' HB0.out hb1
  have HX1 := hide hbx1
  have HB1 := hide hB1
  clear hb1 hbx1 hB1
  go_wp2_with fail
  go_loopw [5, 11] (fun s j wr => ∃ k : Nat, k ≤ 4 ∧ j = .int .i64 k ∧ s = .int .i64 (C k) ∧ BoxIn wr W.heap.size w h E ∧ Below W.heap.size W wr) (fun _ j _ => 4 - (intOf j).toNat)
  case atStart => exact ⟨0, by omega, rfl, by rw [H0.out], HX1.out, HB1.out⟩
  case round =>
    clear HX1 HB1
    obtain ⟨k, hk, rfl, rfl, hbx, hB⟩ := hrel
    obtain ⟨c0, c1, c2⟩ := hbx
    have hck := HC.out k hk
    have HR := hide hr
    rcases (by omega : k = 0 ∨ k = 1 ∨ k = 2 ∨ k = 3 ∨ k = 4) with rfl | rfl | rfl | rfl | rfl
    · have hx0 : 0 ≤ T := hr.1
      have hx1 : T < 24 := by have := hr.2.1; have := HN.out; omega
      have ix : ∀ w0 : World, (Instr.index 48 (.agg #[.int .i64 T, .int .i64 B, .int .i64 L, .int .i64 R]) (.int .i64 0)).run Try.prog w0 = .ok (.int .i64 T) w0 := fun _ => by kernel_rfl
      clear hr
      cases hd : drawn E T
      all_goals
        have HD := hide hd
        clear hd
        go_wp2_with fail
        refine (isDrawn_any w h E T e1 e2 hx0 hx1 _).mono ?_
        rw [HD.out]
        rintro e w2 ⟨rfl, hb2⟩
        have hbx2 := hide (BoxIn.keep ⟨c0, c1, c2⟩ hb2)
        have hB2 := hide (Below.trans' hB hb2)
        clear hb2 hB c0 c1 c2
        go_wp2_with fail
        go_roundw
        case rel => exact ⟨0 + 1, by omega, rfl, by rw [H1.out]; first | rw [dg_of_drawn HD.out] | (rw [dg_of_free HD.out]; simp), hbx2.out, hB2.out⟩
        case measure => simp [intOf]
    · have hx0 : 0 ≤ B := hr.2.2.1
      have hx1 : B < 24 := by have := hr.2.2.2.1; have := HN.out; omega
      have ix : ∀ w0 : World, (Instr.index 48 (.agg #[.int .i64 T, .int .i64 B, .int .i64 L, .int .i64 R]) (.int .i64 1)).run Try.prog w0 = .ok (.int .i64 B) w0 := fun _ => by kernel_rfl
      clear hr
      cases hd : drawn E B
      all_goals
        have HD := hide hd
        clear hd
        go_wp2_with fail
        refine (isDrawn_any w h E B e1 e2 hx0 hx1 _).mono ?_
        rw [HD.out]
        rintro e w2 ⟨rfl, hb2⟩
        have hbx2 := hide (BoxIn.keep ⟨c0, c1, c2⟩ hb2)
        have hB2 := hide (Below.trans' hB hb2)
        clear hb2 hB c0 c1 c2
        go_wp2_with fail
        go_roundw
        case rel => exact ⟨1 + 1, by omega, rfl, by rw [H2.out]; first | rw [dg_of_drawn HD.out] | (rw [dg_of_free HD.out]; simp), hbx2.out, hB2.out⟩
        case measure => simp [intOf]
    · have hx0 : 0 ≤ L := hr.2.2.2.2.1
      have hx1 : L < 24 := by have := hr.2.2.2.2.2.1; have := HN.out; omega
      have ix : ∀ w0 : World, (Instr.index 48 (.agg #[.int .i64 T, .int .i64 B, .int .i64 L, .int .i64 R]) (.int .i64 2)).run Try.prog w0 = .ok (.int .i64 L) w0 := fun _ => by kernel_rfl
      clear hr
      cases hd : drawn E L
      all_goals
        have HD := hide hd
        clear hd
        go_wp2_with fail
        refine (isDrawn_any w h E L e1 e2 hx0 hx1 _).mono ?_
        rw [HD.out]
        rintro e w2 ⟨rfl, hb2⟩
        have hbx2 := hide (BoxIn.keep ⟨c0, c1, c2⟩ hb2)
        have hB2 := hide (Below.trans' hB hb2)
        clear hb2 hB c0 c1 c2
        go_wp2_with fail
        go_roundw
        case rel => exact ⟨2 + 1, by omega, rfl, by rw [H3.out]; first | rw [dg_of_drawn HD.out] | (rw [dg_of_free HD.out]; simp), hbx2.out, hB2.out⟩
        case measure => simp [intOf]
    · have hx0 : 0 ≤ R := hr.2.2.2.2.2.2.1
      have hx1 : R < 24 := by have := hr.2.2.2.2.2.2.2; have := HN.out; omega
      have ix : ∀ w0 : World, (Instr.index 48 (.agg #[.int .i64 T, .int .i64 B, .int .i64 L, .int .i64 R]) (.int .i64 3)).run Try.prog w0 = .ok (.int .i64 R) w0 := fun _ => by kernel_rfl
      clear hr
      cases hd : drawn E R
      all_goals
        have HD := hide hd
        clear hd
        go_wp2_with fail
        refine (isDrawn_any w h E R e1 e2 hx0 hx1 _).mono ?_
        rw [HD.out]
        rintro e w2 ⟨rfl, hb2⟩
        have hbx2 := hide (BoxIn.keep ⟨c0, c1, c2⟩ hb2)
        have hB2 := hide (Below.trans' hB hb2)
        clear hb2 hB c0 c1 c2
        go_wp2_with fail
        go_roundw
        case rel => exact ⟨3 + 1, by omega, rfl, by rw [H4.out]; first | rw [dg_of_drawn HD.out] | (rw [dg_of_free HD.out]; simp), hbx2.out, hB2.out⟩
        case measure => simp [intOf]
    · go_wp2_with fail
      go_ret
      exact ⟨ret_int HF.out, hB⟩
end Go.Proofs.Ytincdnlinepcgaa
