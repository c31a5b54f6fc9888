/-
  Dots and boxes: reflections, the program's text: a place reflected.
-/
import Derived.Test.YtincdnlinepcgaaBxRi
import Derived.Deep.DeepCutAuto
namespace Go.Proofs.Ytincdnlinepcgaa
open Go.RowKit
set_option linter.unusedVariables false

theorem alloc3_rows (W : World) (a b c : Array Value) (s t u : TypeId) : (((W.alloc (.cells a s)).alloc (.cells b t)).alloc (.cells c u)).heap[W.heap.size]? = some (.cells a s (0, 0)) ∧ (((W.alloc (.cells a s)).alloc (.cells b t)).alloc (.cells c u)).heap[W.heap.size + 1]? = some (.cells b t (0, 0)) ∧ (((W.alloc (.cells a s)).alloc (.cells b t)).alloc (.cells c u)).heap[W.heap.size + 1 + 1]? = some (.cells c u (0, 0)) := by
  obtain ⟨h1, h2⟩ := alloc2_rows W a b s t
  refine ⟨?_, ?_, ?_⟩
  · rw [Below.heap_alloc _ _ _ (by simp; omega)]; exact h1
  · rw [Below.heap_alloc _ _ _ (by simp)]; exact h2
  · have := heap_alloc_new ((W.alloc (.cells a s)).alloc (.cells b t)) (.cells c u (0, 0))
    simpa using this

set_option maxRecDepth 100000 in
set_option maxHeartbeats 4000000 in
theorem reflectedPlace_any (w h E r c kind : Int) (s : Bool) (h1 : 1 ≤ w) (h2 : w ≤ 3) (h3 : 1 ≤ h) (h4 : h ≤ 3) (hr0 : 0 ≤ r) (hr3 : r ≤ 3) (hc0 : 0 ≤ c) (hc3 : c ≤ 3) (hk0 : 0 ≤ kind) (hk2 : kind ≤ 2) (W : World) :
    Calls Try.prog 64 #[.agg #[.int .i64 w, .int .i64 h, .int .i64 E], .agg #[.bool s, .int .i64 r, .int .i64 c], .int .i64 kind] W
      (RetB (.agg #[.bool (rplc w h kind (s, r, c)).1, .int .i64 (rplc w h kind (s, r, c)).2.1, .int .i64 (rplc w h kind (s, r, c)).2.2]) W) := by
  obtain ⟨W0, hW0⟩ : ∃ W0, W0 = ((W.alloc (.cells #[.int .i64 w, .int .i64 h, .int .i64 E] 25)).alloc (.cells #[.bool s, .int .i64 r, .int .i64 c] 64)).alloc (.cells #[.bool false, .int .i64 0, .int .i64 0] 64) := ⟨_, rfl⟩
  have hB0 : Hid (Below W.heap.size W W0) := by rw [hW0]; exact hide (((below_alloc _ _).alloc (by simp) _).alloc (by simp; omega) _)
  have hrows := alloc3_rows W #[.int .i64 w, .int .i64 h, .int .i64 E] #[.bool s, .int .i64 r, .int .i64 c] #[.bool false, .int .i64 0, .int .i64 0] 25 64 64
  rw [← hW0] at hrows
  have hX0 := hide hrows.1
  have hP0 := hide hrows.2.1
  have hR0 := hide hrows.2.2
  clear hrows
  obtain ⟨c0, c1, c2⟩ := (boxIn_of_row hX0.out).past
  rcases (by omega : kind = 0 ∨ kind = 1 ∨ kind = 2) with rfl | rfl | rfl
  · cases s
    · go_enter Try.func64, Try.ntmps64
      go_wp2_with fail
      rw [← hW0]
      clear hW0
      go_wp2_with fail
      refine wp_region_past (by kernel_rfl) (by kernel_rfl) ?_
      repeat (first | go_big_quiet_step (fail) | quiet_step (fail))
      refine wpQuiet_nil ?_
      rintro _ ⟨pq, rfl⟩
      have hP1 := box_keep hP0.out pq.old
      have hB1 := hide (Below.trans' hB0.out pq.old)
      have HR1 := hide (box_keep hR0.out pq.old)
      have HX1 := hide (box_keep hX0.out pq.old)
      have HP1 := hide hP1
      obtain ⟨w1, hw1⟩ : ∃ w1, w1 = pq.to := ⟨_, rfl⟩
      rw [← hw1] at hP1 hB1 HR1 HX1 HP1 ⊢
      clear c0 c1 c2 hw1 hP0 hR0 hX0 hB0
      obtain ⟨p0, p1, p2, g0, g1, g2⟩ := row3 hP1
      obtain ⟨c0, c1, c2⟩ := boxIn_of_row HX1.out
      obtain ⟨d0, d1, d2, f0, f1, f2⟩ := row3 HR1.out
      clear hP1
      go_wp2_with fail
      refine bodyPost_ret (v := .agg #[.bool false, .int .i64 r, .int .i64 (w - 1 - c)]) (by simp [results, Try.results64, go_sem, d0, d1, d2]) rfl ⟨by simp [rplc], ?_⟩
      exact below3 (b := W.heap.size + 1 + 1) (.bool false) (.int .i64 r) (.int .i64 (w - 1 - c)) (hB1.out.setCell (p := ⟨W.heap.size + 1, 2, none⟩) (by simp) (.int .i64 (w - 1 - c))) (by omega)
    · go_enter Try.func64, Try.ntmps64
      go_wp2_with fail
      rw [← hW0]
      clear hW0
      go_wp2_with fail
      refine wp_region_past (by kernel_rfl) (by kernel_rfl) ?_
      repeat (first | go_big_quiet_step (fail) | quiet_step (fail))
      refine wpQuiet_nil ?_
      rintro _ ⟨pq, rfl⟩
      have hP1 := box_keep hP0.out pq.old
      have hB1 := hide (Below.trans' hB0.out pq.old)
      have HR1 := hide (box_keep hR0.out pq.old)
      have HX1 := hide (box_keep hX0.out pq.old)
      have HP1 := hide hP1
      obtain ⟨w1, hw1⟩ : ∃ w1, w1 = pq.to := ⟨_, rfl⟩
      rw [← hw1] at hP1 hB1 HR1 HX1 HP1 ⊢
      clear c0 c1 c2 hw1 hP0 hR0 hX0 hB0
      obtain ⟨p0, p1, p2, g0, g1, g2⟩ := row3 hP1
      obtain ⟨c0, c1, c2⟩ := boxIn_of_row HX1.out
      obtain ⟨d0, d1, d2, f0, f1, f2⟩ := row3 HR1.out
      clear hP1
      go_wp2_with fail
      clear p0 p1 p2 g0 g1 g2 c0 c1 c2 d0 d1 d2 f0 f1 f2
      obtain ⟨c0, c1, c2⟩ := (boxIn_of_row HX1.out).past
      refine wp_region_past (by kernel_rfl) (by kernel_rfl) ?_
      repeat (first | go_big_quiet_step (fail) | quiet_step (fail))
      refine wpQuiet_nil ?_
      rintro _ ⟨pq, rfl⟩
      have hP2 := box_keep HP1.out pq.old
      have hB2 := hide (Below.trans' hB1.out pq.old)
      have HR2 := hide (box_keep HR1.out pq.old)
      have HX2 := hide (box_keep HX1.out pq.old)
      obtain ⟨w2, hw2⟩ : ∃ w2, w2 = pq.to := ⟨_, rfl⟩
      rw [← hw2] at hP2 hB2 HR2 HX2 ⊢
      clear c0 c1 c2 hw2
      obtain ⟨p0, p1, p2, g0, g1, g2⟩ := row3 hP2
      obtain ⟨c0, c1, c2⟩ := boxIn_of_row HX2.out
      obtain ⟨d0, d1, d2, f0, f1, f2⟩ := row3 HR2.out
      clear hP2
      go_wp2_with fail
      refine bodyPost_ret (v := .agg #[.bool true, .int .i64 r, .int .i64 (w - c)]) (by simp [results, Try.results64, go_sem, d0, d1, d2]) rfl ⟨by simp [rplc], ?_⟩
      exact below3 (b := W.heap.size + 1 + 1) (.bool true) (.int .i64 r) (.int .i64 (w - c)) (hB2.out.setCell (p := ⟨W.heap.size + 1, 2, none⟩) (by simp) (.int .i64 (w - c))) (by omega)
  · cases s
    · go_enter Try.func64, Try.ntmps64
      go_wp2_with fail
      rw [← hW0]
      clear hW0
      go_wp2_with fail
      refine wp_region_past (by kernel_rfl) (by kernel_rfl) ?_
      repeat (first | go_big_quiet_step (fail) | quiet_step (fail))
      refine wpQuiet_nil ?_
      rintro _ ⟨pq, rfl⟩
      have hP1 := box_keep hP0.out pq.old
      have hB1 := hide (Below.trans' hB0.out pq.old)
      have HR1 := hide (box_keep hR0.out pq.old)
      have HX1 := hide (box_keep hX0.out pq.old)
      have HP1 := hide hP1
      obtain ⟨w1, hw1⟩ : ∃ w1, w1 = pq.to := ⟨_, rfl⟩
      rw [← hw1] at hP1 hB1 HR1 HX1 HP1 ⊢
      clear c0 c1 c2 hw1 hP0 hR0 hX0 hB0
      obtain ⟨p0, p1, p2, g0, g1, g2⟩ := row3 hP1
      obtain ⟨c0, c1, c2⟩ := boxIn_of_row HX1.out
      obtain ⟨d0, d1, d2, f0, f1, f2⟩ := row3 HR1.out
      clear hP1
      go_wp2_with fail
      refine bodyPost_ret (v := .agg #[.bool false, .int .i64 (h - r), .int .i64 c]) (by simp [results, Try.results64, go_sem, d0, d1, d2]) rfl ⟨by simp [rplc], ?_⟩
      exact below3 (b := W.heap.size + 1 + 1) (.bool false) (.int .i64 (h - r)) (.int .i64 c) (hB1.out.setCell (p := ⟨W.heap.size + 1, 1, none⟩) (by simp) (.int .i64 (h - r))) (by omega)
    · go_enter Try.func64, Try.ntmps64
      go_wp2_with fail
      rw [← hW0]
      clear hW0
      go_wp2_with fail
      refine wp_region_past (by kernel_rfl) (by kernel_rfl) ?_
      repeat (first | go_big_quiet_step (fail) | quiet_step (fail))
      refine wpQuiet_nil ?_
      rintro _ ⟨pq, rfl⟩
      have hP1 := box_keep hP0.out pq.old
      have hB1 := hide (Below.trans' hB0.out pq.old)
      have HR1 := hide (box_keep hR0.out pq.old)
      have HX1 := hide (box_keep hX0.out pq.old)
      have HP1 := hide hP1
      obtain ⟨w1, hw1⟩ : ∃ w1, w1 = pq.to := ⟨_, rfl⟩
      rw [← hw1] at hP1 hB1 HR1 HX1 HP1 ⊢
      clear c0 c1 c2 hw1 hP0 hR0 hX0 hB0
      obtain ⟨p0, p1, p2, g0, g1, g2⟩ := row3 hP1
      obtain ⟨c0, c1, c2⟩ := boxIn_of_row HX1.out
      obtain ⟨d0, d1, d2, f0, f1, f2⟩ := row3 HR1.out
      clear hP1
      go_wp2_with fail
      clear p0 p1 p2 g0 g1 g2 c0 c1 c2 d0 d1 d2 f0 f1 f2
      obtain ⟨c0, c1, c2⟩ := (boxIn_of_row HX1.out).past
      refine wp_region_past (by kernel_rfl) (by kernel_rfl) ?_
      repeat (first | go_big_quiet_step (fail) | quiet_step (fail))
      refine wpQuiet_nil ?_
      rintro _ ⟨pq, rfl⟩
      have hP2 := box_keep HP1.out pq.old
      have hB2 := hide (Below.trans' hB1.out pq.old)
      have HR2 := hide (box_keep HR1.out pq.old)
      have HX2 := hide (box_keep HX1.out pq.old)
      obtain ⟨w2, hw2⟩ : ∃ w2, w2 = pq.to := ⟨_, rfl⟩
      rw [← hw2] at hP2 hB2 HR2 HX2 ⊢
      clear c0 c1 c2 hw2
      obtain ⟨p0, p1, p2, g0, g1, g2⟩ := row3 hP2
      obtain ⟨c0, c1, c2⟩ := boxIn_of_row HX2.out
      obtain ⟨d0, d1, d2, f0, f1, f2⟩ := row3 HR2.out
      clear hP2
      go_wp2_with fail
      refine bodyPost_ret (v := .agg #[.bool true, .int .i64 (h - 1 - r), .int .i64 c]) (by simp [results, Try.results64, go_sem, d0, d1, d2]) rfl ⟨by simp [rplc], ?_⟩
      exact below3 (b := W.heap.size + 1 + 1) (.bool true) (.int .i64 (h - 1 - r)) (.int .i64 c) (hB2.out.setCell (p := ⟨W.heap.size + 1, 1, none⟩) (by simp) (.int .i64 (h - 1 - r))) (by omega)
  · cases s
    · go_enter Try.func64, Try.ntmps64
      go_wp2_with fail
      rw [← hW0]
      clear hW0
      go_wp2_with fail
      refine wp_region_past (by kernel_rfl) (by kernel_rfl) ?_
      repeat (first | go_big_quiet_step (fail) | quiet_step (fail))
      refine wpQuiet_nil ?_
      rintro _ ⟨pq, rfl⟩
      have hP1 := box_keep hP0.out pq.old
      have hB1 := hide (Below.trans' hB0.out pq.old)
      have HR1 := hide (box_keep hR0.out pq.old)
      have HX1 := hide (box_keep hX0.out pq.old)
      have HP1 := hide hP1
      obtain ⟨w1, hw1⟩ : ∃ w1, w1 = pq.to := ⟨_, rfl⟩
      rw [← hw1] at hP1 hB1 HR1 HX1 HP1 ⊢
      clear c0 c1 c2 hw1 hP0 hR0 hX0 hB0
      obtain ⟨p0, p1, p2, g0, g1, g2⟩ := row3 hP1
      obtain ⟨c0, c1, c2⟩ := boxIn_of_row HX1.out
      obtain ⟨d0, d1, d2, f0, f1, f2⟩ := row3 HR1.out
      clear hP1
      go_wp2_with fail
      refine bodyPost_ret (v := .agg #[.bool true, .int .i64 c, .int .i64 r]) (by simp [results, Try.results64, go_sem, d0, d1, d2]) rfl ⟨by simp [rplc], ?_⟩
      exact below3 (b := W.heap.size + 1 + 1) (.bool true) (.int .i64 c) (.int .i64 r) (below3 (b := W.heap.size + 1) (.bool true) (.int .i64 c) (.int .i64 r) hB1.out (by omega)) (by omega)
    · go_enter Try.func64, Try.ntmps64
      go_wp2_with fail
      rw [← hW0]
      clear hW0
      go_wp2_with fail
      refine wp_region_past (by kernel_rfl) (by kernel_rfl) ?_
      repeat (first | go_big_quiet_step (fail) | quiet_step (fail))
      refine wpQuiet_nil ?_
      rintro _ ⟨pq, rfl⟩
      have hP1 := box_keep hP0.out pq.old
      have hB1 := hide (Below.trans' hB0.out pq.old)
      have HR1 := hide (box_keep hR0.out pq.old)
      have HX1 := hide (box_keep hX0.out pq.old)
      have HP1 := hide hP1
      obtain ⟨w1, hw1⟩ : ∃ w1, w1 = pq.to := ⟨_, rfl⟩
      rw [← hw1] at hP1 hB1 HR1 HX1 HP1 ⊢
      clear c0 c1 c2 hw1 hP0 hR0 hX0 hB0
      obtain ⟨p0, p1, p2, g0, g1, g2⟩ := row3 hP1
      obtain ⟨c0, c1, c2⟩ := boxIn_of_row HX1.out
      obtain ⟨d0, d1, d2, f0, f1, f2⟩ := row3 HR1.out
      clear hP1
      go_wp2_with fail
      clear p0 p1 p2 g0 g1 g2 c0 c1 c2 d0 d1 d2 f0 f1 f2
      obtain ⟨c0, c1, c2⟩ := (boxIn_of_row HX1.out).past
      refine wp_region_past (by kernel_rfl) (by kernel_rfl) ?_
      repeat (first | go_big_quiet_step (fail) | quiet_step (fail))
      refine wpQuiet_nil ?_
      rintro _ ⟨pq, rfl⟩
      have hP2 := box_keep HP1.out pq.old
      have hB2 := hide (Below.trans' hB1.out pq.old)
      have HR2 := hide (box_keep HR1.out pq.old)
      have HX2 := hide (box_keep HX1.out pq.old)
      obtain ⟨w2, hw2⟩ : ∃ w2, w2 = pq.to := ⟨_, rfl⟩
      rw [← hw2] at hP2 hB2 HR2 HX2 ⊢
      clear c0 c1 c2 hw2
      obtain ⟨p0, p1, p2, g0, g1, g2⟩ := row3 hP2
      obtain ⟨c0, c1, c2⟩ := boxIn_of_row HX2.out
      obtain ⟨d0, d1, d2, f0, f1, f2⟩ := row3 HR2.out
      clear hP2
      go_wp2_with fail
      refine bodyPost_ret (v := .agg #[.bool false, .int .i64 c, .int .i64 r]) (by simp [results, Try.results64, go_sem, d0, d1, d2]) rfl ⟨by simp [rplc], ?_⟩
      exact below3 (b := W.heap.size + 1 + 1) (.bool false) (.int .i64 c) (.int .i64 r) (below3 (b := W.heap.size + 1) (.bool false) (.int .i64 c) (.int .i64 r) hB2.out (by omega)) (by omega)
end Go.Proofs.Ytincdnlinepcgaa
