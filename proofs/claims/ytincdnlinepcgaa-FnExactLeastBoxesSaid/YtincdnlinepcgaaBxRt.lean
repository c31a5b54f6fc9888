/-
  Dots and boxes: ReflectBoxes, both texts.
-/
import Derived.Test.YtincdnlinepcgaaBxRs1
import Derived.Test.YtincdnlinepcgaaBxRs2
namespace Go.Proofs.Ytincdnlinepcgaa
open Go.RowKit
set_option linter.unusedVariables false

theorem specReflected_any (w h E kind : Int) (hb : okBox w h E = true) (hk0 : 0 ≤ kind) (hk2 : kind ≤ 2) (W : World) :
    Calls Try.prog 56 #[.agg #[.int .i64 w, .int .i64 h, .int .i64 E], .int .i64 kind] W (RetB (.agg #[.int .i64 (mw w h kind), .int .i64 (mh w h kind), .int .i64 (refl3 w h E kind)]) W) := by
  rcases (by omega : kind = 0 ∨ kind = 1 ∨ kind = 2) with rfl | rfl | rfl
  · exact specReflected_0 w h E hb W
  · exact specReflected_1 w h E hb W
  · exact specReflected_2 w h E hb W

/-- Wide, High, Edges, the code. -/
def rfR (w h E kind : Int) : Int × Int × Int × Int := if okBox w h E then (if inn kind 0 2 then (mw w h kind, mh w h kind, refl3 w h E kind, 0) else (0, 0, 0, 2)) else (0, 0, 0, 1)
def rfV (r : Int × Int × Int × Int) : Value := .tuple #[.agg #[.int .i64 r.1, .int .i64 r.2.1, .int .i64 r.2.2.1], .int .i64 r.2.2.2]

set_option maxRecDepth 100000 in
set_option maxHeartbeats 2000000 in
theorem implReflect_any (w h E kind : Int) (W : World) : Calls Try.prog 35 #[.agg #[.int .i64 w, .int .i64 h, .int .i64 E], .int .i64 kind] W (RetB (rfV (rfR w h E kind)) W) := by
  obtain ⟨W0, hW0⟩ : ∃ W0, W0 = (W.alloc (.cells #[.int .i64 w, .int .i64 h, .int .i64 E] 25)).alloc (.cells #[.int .i64 0, .int .i64 0, .int .i64 0] 25) := ⟨_, rfl⟩
  have hB0 : Hid (Below W.heap.size W W0) := by rw [hW0]; exact hide ((below_alloc _ _).alloc (by simp) _)
  have hs0 : Hid (W0.heap.size = W.heap.size + 2) := by rw [hW0]; exact hide (by simp)
  have hrows := alloc2_rows W #[.int .i64 w, .int .i64 h, .int .i64 E] #[.int .i64 0, .int .i64 0, .int .i64 0] 25 25
  rw [← hW0] at hrows
  have hX0 := hide hrows.1
  have hR0 := hide hrows.2
  clear hrows
  obtain ⟨c0, c1, c2, _⟩ := row3 hX0.out
  obtain ⟨r, hr⟩ : ∃ r, r = rfR w h E kind := ⟨_, rfl⟩
  rw [← hr]
  unfold rfR at hr
  cases hb : okBox w h E
  · have HR : Hid (r = (0, 0, 0, 1)) := hide (by rw [hr, hb]; rfl)
    have HB := hide hb
    clear hb hr
    go_enter Try.func35, Try.ntmps35
    go_wp2_with fail
    rw [← hW0]
    clear hW0
    go_wp2_with fail
    refine (implIs_any w h E _).mono ?_
    rw [HB.out]
    rintro e1 w1 ⟨rfl, hb1⟩
    have hB1 := hide (hB0.out.trans (hb1.mono (by rw [hs0.out]; omega)))
    have hr1 := hide (box_keep hR0.out hb1)
    have hx1 := hide (box_keep hX0.out hb1)
    clear hb1 c0 c1 c2
    obtain ⟨d0, d1, d2, f0, f1, f2⟩ := row3 hr1.out
    go_wp2_with fail
    refine bodyPost_ret (v := .tuple #[.agg #[.int .i64 0, .int .i64 0, .int .i64 0], .int .i64 1]) (by simp [results, Try.results35, go_sem, d0, d1, d2]) rfl ?_
    rw [HR.out]
    exact ⟨rfl, below3 _ _ _ hB1.out (by omega)⟩
  · rw [hb, if_pos rfl] at hr
    have HB := hide hb
    clear hb
    cases hin : inn kind 0 2
    · have HR : Hid (r = (0, 0, 0, 2)) := hide (by rw [hr, hin]; rfl)
      have hno : kind < 0 ∨ 2 < kind := by simp [inn] at hin; omega
      clear hin hr
      by_cases hk0 : kind < 0
      · have hd0 : decide (kind < 0) = true := decide_eq_true hk0
        clear hno
        go_enter Try.func35, Try.ntmps35
        go_wp2_with fail
        rw [← hW0]
        clear hW0
        go_wp2_with fail
        refine (implIs_any w h E _).mono ?_
        rw [HB.out]
        rintro e1 w1 ⟨rfl, hb1⟩
        have hB1 := hide (hB0.out.trans (hb1.mono (by rw [hs0.out]; omega)))
        have hr1 := hide (box_keep hR0.out hb1)
        have hx1 := hide (box_keep hX0.out hb1)
        clear hb1 c0 c1 c2
        obtain ⟨d0, d1, d2, f0, f1, f2⟩ := row3 hr1.out
        go_wp2_with fail
        refine bodyPost_ret (v := .tuple #[.agg #[.int .i64 0, .int .i64 0, .int .i64 0], .int .i64 2]) (by simp [results, Try.results35, go_sem, d0, d1, d2]) rfl ?_
        rw [HR.out]
        exact ⟨rfl, below3 _ _ _ hB1.out (by omega)⟩
      · have hd0 : decide (kind < 0) = false := decide_eq_false hk0
        have hk3 : 3 ≤ kind := by omega
        have hd3 : decide (3 ≤ kind) = true := decide_eq_true hk3
        clear hno
        go_enter Try.func35, Try.ntmps35
        go_wp2_with fail
        rw [← hW0]
        clear hW0
        go_wp2_with fail
        refine (implIs_any w h E _).mono ?_
        rw [HB.out]
        rintro e1 w1 ⟨rfl, hb1⟩
        have hB1 := hide (hB0.out.trans (hb1.mono (by rw [hs0.out]; omega)))
        have hr1 := hide (box_keep hR0.out hb1)
        have hx1 := hide (box_keep hX0.out hb1)
        clear hb1 c0 c1 c2
        obtain ⟨d0, d1, d2, f0, f1, f2⟩ := row3 hr1.out
        go_wp2_with fail
        refine bodyPost_ret (v := .tuple #[.agg #[.int .i64 0, .int .i64 0, .int .i64 0], .int .i64 2]) (by simp [results, Try.results35, go_sem, d0, d1, d2]) rfl ?_
        rw [HR.out]
        exact ⟨rfl, below3 _ _ _ hB1.out (by omega)⟩
    · have HR : Hid (r = (mw w h kind, mh w h kind, refl3 w h E kind, 0)) := hide (by rw [hr, hin]; rfl)
      obtain ⟨hk0, hk2⟩ : 0 ≤ kind ∧ kind ≤ 2 := by simp [inn] at hin; omega
      obtain ⟨M, hM⟩ : ∃ M, M = mw w h kind := ⟨_, rfl⟩
      obtain ⟨N, hN⟩ : ∃ N, N = mh w h kind := ⟨_, rfl⟩
      obtain ⟨Q, hQ⟩ : ∃ Q, Q = refl3 w h E kind := ⟨_, rfl⟩
      rw [← hM, ← hN, ← hQ] at HR
      have HM := hide (And.intro hM (And.intro hN hQ))
      have HI := hide hin
      clear hin hr hM hN hQ
      have hn0 : ¬ kind < 0 := by omega
      have hd0 : decide (kind < 0) = false := decide_eq_false hn0
      have hd3 : decide (3 ≤ kind) = false := decide_eq_false (by omega)
      go_enter Try.func35, Try.ntmps35
      go_wp2_with fail
      rw [← hW0]
      clear hW0
      go_wp2_with fail
      refine (implIs_any w h E _).mono ?_
      rw [HB.out]
      rintro e1 w1 ⟨rfl, hb1⟩
      have hB1 := hide (hB0.out.trans (hb1.mono (by rw [hs0.out]; omega)))
      have hr1 := hide (box_keep hR0.out hb1)
      have hx1 := hide (box_keep hX0.out hb1)
      clear hb1 c0 c1 c2
      obtain ⟨c0, c1, c2⟩ := boxIn_of_row hx1.out
      go_wp2_with fail
      refine (reflected_any w h E kind HB.out hk0 hk2 _).mono ?_
      rw [← HM.out.1, ← HM.out.2.1, ← HM.out.2.2]
      rintro e1 w3 ⟨rfl, hb3⟩
      have hB3 := hide (Below.trans' hB1.out hb3)
      have hr3 := hide (box_keep hr1.out hb3)
      clear hb3 c0 c1 c2
      obtain ⟨d0, d1, d2, f0, f1, f2⟩ := row3 hr3.out
      go_wp2_with fail
      refine bodyPost_ret (v := .tuple #[.agg #[.int .i64 M, .int .i64 N, .int .i64 Q], .int .i64 0]) (by simp [results, Try.results35, go_sem, d0, d1, d2]) rfl ?_
      rw [HR.out]
      exact ⟨rfl, below3 _ _ _ hB3.out (by omega)⟩

set_option maxRecDepth 100000 in
set_option maxHeartbeats 2000000 in
theorem specReflect_any (w h E kind : Int) (W : World) : Calls Try.prog 34 #[.agg #[.int .i64 w, .int .i64 h, .int .i64 E], .int .i64 kind] W (RetB (rfV (rfR w h E kind)) W) := by
  obtain ⟨W0, hW0⟩ : ∃ W0, W0 = (W.alloc (.cells #[.int .i64 w, .int .i64 h, .int .i64 E] 25)).alloc (.cells #[.int .i64 0, .int .i64 0, .int .i64 0] 25) := ⟨_, rfl⟩
  have hB0 : Hid (Below W.heap.size W W0) := by rw [hW0]; exact hide ((below_alloc _ _).alloc (by simp) _)
  have hs0 : Hid (W0.heap.size = W.heap.size + 2) := by rw [hW0]; exact hide (by simp)
  have hrows := alloc2_rows W #[.int .i64 w, .int .i64 h, .int .i64 E] #[.int .i64 0, .int .i64 0, .int .i64 0] 25 25
  rw [← hW0] at hrows
  have hX0 := hide hrows.1
  have hR0 := hide hrows.2
  clear hrows
  obtain ⟨c0, c1, c2, _⟩ := row3 hX0.out
  obtain ⟨r, hr⟩ : ∃ r, r = rfR w h E kind := ⟨_, rfl⟩
  rw [← hr]
  unfold rfR at hr
  cases hb : okBox w h E
  · have HR : Hid (r = (0, 0, 0, 1)) := hide (by rw [hr, hb]; rfl)
    have HB := hide hb
    clear hb hr
    go_enter Try.func34, Try.ntmps34
    go_wp2_with fail
    rw [← hW0]
    clear hW0
    go_wp2_with fail
    refine (specIs_any w h E _).mono ?_
    rw [HB.out]
    rintro e1 w1 ⟨rfl, hb1⟩
    have hB1 := hide (hB0.out.trans (hb1.mono (by rw [hs0.out]; omega)))
    have hr1 := hide (box_keep hR0.out hb1)
    have hx1 := hide (box_keep hX0.out hb1)
    clear hb1 c0 c1 c2
    obtain ⟨d0, d1, d2, f0, f1, f2⟩ := row3 hr1.out
    go_wp2_with fail
    refine bodyPost_ret (v := .tuple #[.agg #[.int .i64 0, .int .i64 0, .int .i64 0], .int .i64 1]) (by simp [results, Try.results34, go_sem, d0, d1, d2]) rfl ?_
    rw [HR.out]
    exact ⟨rfl, below3 _ _ _ hB1.out (by omega)⟩
  · rw [hb, if_pos rfl] at hr
    have HB := hide hb
    clear hb
    cases hin : inn kind 0 2
    · have HR : Hid (r = (0, 0, 0, 2)) := hide (by rw [hr, hin]; rfl)
      have HI := hide hin
      clear hin hr
      go_enter Try.func34, Try.ntmps34
      go_wp2_with fail
      rw [← hW0]
      clear hW0
      go_wp2_with fail
      refine (specIs_any w h E _).mono ?_
      rw [HB.out]
      rintro e1 w1 ⟨rfl, hb1⟩
      have hB1 := hide (hB0.out.trans (hb1.mono (by rw [hs0.out]; omega)))
      have hr1 := hide (box_keep hR0.out hb1)
      have hx1 := hide (box_keep hX0.out hb1)
      clear hb1 c0 c1 c2
      go_wp2_with fail
      refine (inn_is _ _ _ HI.out _).mono ?_
      rintro e1 w2 ⟨rfl, hb2⟩
      have hB2 := hide (Below.trans' hB1.out hb2)
      have hr2 := hide (box_keep hr1.out hb2)
      clear hb2
      obtain ⟨d0, d1, d2, f0, f1, f2⟩ := row3 hr2.out
      go_wp2_with fail
      refine bodyPost_ret (v := .tuple #[.agg #[.int .i64 0, .int .i64 0, .int .i64 0], .int .i64 2]) (by simp [results, Try.results34, go_sem, d0, d1, d2]) rfl ?_
      rw [HR.out]
      exact ⟨rfl, below3 _ _ _ hB2.out (by omega)⟩
    · have HR : Hid (r = (mw w h kind, mh w h kind, refl3 w h E kind, 0)) := hide (by rw [hr, hin]; rfl)
      obtain ⟨hk0, hk2⟩ : 0 ≤ kind ∧ kind ≤ 2 := by simp [inn] at hin; omega
      obtain ⟨M, hM⟩ : ∃ M, M = mw w h kind := ⟨_, rfl⟩
      obtain ⟨N, hN⟩ : ∃ N, N = mh w h kind := ⟨_, rfl⟩
      obtain ⟨Q, hQ⟩ : ∃ Q, Q = refl3 w h E kind := ⟨_, rfl⟩
      rw [← hM, ← hN, ← hQ] at HR
      have HM := hide (And.intro hM (And.intro hN hQ))
      have HI := hide hin
      clear hin hr hM hN hQ
      go_enter Try.func34, Try.ntmps34
      go_wp2_with fail
      rw [← hW0]
      clear hW0
      go_wp2_with fail
      refine (specIs_any w h E _).mono ?_
      rw [HB.out]
      rintro e1 w1 ⟨rfl, hb1⟩
      have hB1 := hide (hB0.out.trans (hb1.mono (by rw [hs0.out]; omega)))
      have hr1 := hide (box_keep hR0.out hb1)
      have hx1 := hide (box_keep hX0.out hb1)
      clear hb1 c0 c1 c2
      go_wp2_with fail
      refine (inn_is _ _ _ HI.out _).mono ?_
      rintro e1 w2 ⟨rfl, hb2⟩
      have hB2 := hide (Below.trans' hB1.out hb2)
      have hr2 := hide (box_keep hr1.out hb2)
      have hx2 := hide (box_keep hx1.out hb2)
      clear hb2
      obtain ⟨c0, c1, c2⟩ := boxIn_of_row hx2.out
      go_wp2_with fail
      refine (specReflected_any w h E kind HB.out hk0 hk2 _).mono ?_
      rw [← HM.out.1, ← HM.out.2.1, ← HM.out.2.2]
      rintro e1 w3 ⟨rfl, hb3⟩
      have hB3 := hide (Below.trans' hB2.out hb3)
      have hr3 := hide (box_keep hr2.out hb3)
      clear hb3 c0 c1 c2
      obtain ⟨d0, d1, d2, f0, f1, f2⟩ := row3 hr3.out
      go_wp2_with fail
      refine bodyPost_ret (v := .tuple #[.agg #[.int .i64 M, .int .i64 N, .int .i64 Q], .int .i64 0]) (by simp [results, Try.results34, go_sem, d0, d1, d2]) rfl ?_
      rw [HR.out]
      exact ⟨rfl, below3 _ _ _ hB3.out (by omega)⟩
end Go.Proofs.Ytincdnlinepcgaa
