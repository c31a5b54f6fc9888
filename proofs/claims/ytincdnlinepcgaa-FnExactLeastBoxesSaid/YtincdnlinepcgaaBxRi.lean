/-
  Dots and boxes: reflections, the program's text.
-/
import Derived.Test.YtincdnlinepcgaaBxR
import Derived.Test.YtincdnlinepcgaaBxZs
import Derived.StillTailTactics
namespace Go.Proofs.Ytincdnlinepcgaa
open Go.RowKit
set_option linter.unusedVariables false

theorem bel_set3 {W w1 : World} {b : Nat} (x y z : Value) (h : Below W.heap.size W w1) (hb : W.heap.size ≤ b) : Below W.heap.size W (((w1.setCell ⟨b, 0, none⟩ x).setCell ⟨b, 1, none⟩ y).setCell ⟨b, 2, none⟩ z) := below3 x y z h hb

set_option maxRecDepth 100000 in
set_option maxHeartbeats 1000000 in
theorem placeOf_any (w h E e : Int) (h1 : 1 ≤ w) (h2 : w ≤ 3) (h3 : 1 ≤ h) (h4 : h ≤ 3) (he0 : 0 ≤ e) (he : e < nEdge w h) (W : World) :
    Calls Try.prog 65 #[.agg #[.int .i64 w, .int .i64 h, .int .i64 E], .int .i64 e] W (RetB (.agg #[.bool (plc w h e).1, .int .i64 (plc w h e).2.1, .int .i64 (plc w h e).2.2]) W) := by
  have hn := grid_nums h1 h2 h3 h4
  have n0 : 0 ≤ nLie w h := by omega
  have n1 : nLie w h ≤ 12 := by omega
  have e24 : e < 24 := by omega
  obtain ⟨N, hN⟩ : ∃ N, N = nLie w h := ⟨_, rfl⟩
  obtain ⟨W0, hW0⟩ : ∃ W0, W0 = (W.alloc (.cells #[.int .i64 w, .int .i64 h, .int .i64 E] 25)).alloc (.cells #[.bool false, .int .i64 0, .int .i64 0] 64) := ⟨_, rfl⟩
  have hB0 : Hid (Below W.heap.size W W0) := by rw [hW0]; exact hide ((below_alloc _ _).alloc (by simp) _)
  have hs0 : Hid (W0.heap.size = W.heap.size + 2) := by rw [hW0]; exact hide (by simp)
  have hrows := alloc2_rows W #[.int .i64 w, .int .i64 h, .int .i64 E] #[.bool false, .int .i64 0, .int .i64 0] 25 64
  rw [← hW0] at hrows
  have hX0 := hide hrows.1
  have hR0 := hide hrows.2
  clear hrows
  obtain ⟨c0, c1, c2, _⟩ := row3 hX0.out
  have HN := hide hN
  rw [← hN] at n0 n1
  by_cases hlt : e < N
  · have hp : plc w h e = (false, e / w, e % w) := by unfold plc; rw [← hN, if_pos hlt]
    have hq0 : 0 ≤ e / w := Int.ediv_nonneg he0 (by omega)
    have hq1 : e / w ≤ e := Int.ediv_le_self _ he0
    have hq : wrap64 (e.tdiv w) = e / w := by rw [Int.tdiv_eq_ediv_of_nonneg he0]; exact wrap64_small hq0 (by omega)
    rw [hp]
    clear hp hN hn
    go_enter Try.func65, Try.ntmps65
    go_wp2_with fail
    rw [← hW0]
    clear hW0
    go_wp2_with fail
    refine (lying_any w h E h1 h2 h3 h4 _).mono ?_
    rw [← HN.out]
    rintro e1 w1 ⟨rfl, hb1⟩
    have hB1 := hide (hB0.out.trans (hb1.mono (by rw [hs0.out]; omega)))
    have hr1 := (hb1.block _ (by rw [hs0.out]; omega)).trans hR0.out
    have hx1 := (hb1.block _ (by rw [hs0.out]; omega)).trans hX0.out
    have HR1 := hide hr1
    clear c0 c1 c2
    obtain ⟨c0, c1, c2⟩ := (boxIn_of_row hx1).past
    clear hr1 hx1 hb1
    go_wp2_with fail
    refine wp_region_past_tail 9 (by kernel_rfl) (by kernel_rfl) ?_
    simp only [List.take_succ_cons, List.take_zero, List.drop_succ_cons, List.drop_zero]
    repeat (first | go_big_quiet_step (fail) | quiet_step (fail))
    refine wpQuiet_nil ?_
    rintro _ ⟨pq, rfl⟩
    obtain ⟨d0, d1, d2, f0, f1, f2⟩ := row3 (box_keep HR1.out pq.old)
    have hb3 := below3 (b := W.heap.size + 1) (.bool false) (.int .i64 (e / w)) (.int .i64 (e % w)) (Below.trans' hB1.out pq.old) (by omega)
    go_wp2_with fail
    exact bodyPost_ret (v := .agg #[.bool false, .int .i64 (e / w), .int .i64 (e % w)]) (by simp [results, Try.results65, go_sem, d0, d1, d2]) rfl ⟨rfl, hb3⟩
  · have hp : plc w h e = (true, (e - N) / (w + 1), (e - N) % (w + 1)) := by unfold plc; rw [← hN, if_neg hlt]
    have hq0 : 0 ≤ (e - N) / (w + 1) := Int.ediv_nonneg (by omega) (by omega)
    have hq1 : (e - N) / (w + 1) ≤ e - N := Int.ediv_le_self _ (by omega)
    have hen : 0 ≤ e - N := by omega
    have hq : wrap64 ((e - N).tdiv (w + 1)) = (e - N) / (w + 1) := by rw [Int.tdiv_eq_ediv_of_nonneg hen]; exact wrap64_small hq0 (by omega)
    have hw1 : IntKind.i64.wrap (w + 1) = w + 1 := IntWalk.i64_in _ (by omega)
    rw [hp]
    clear hp hN hn
    go_enter Try.func65, Try.ntmps65
    go_wp2_with fail
    rw [← hW0]
    clear hW0
    go_wp2_with fail
    refine (lying_any w h E h1 h2 h3 h4 _).mono ?_
    rw [← HN.out]
    rintro e1 w1 ⟨rfl, hb1⟩
    have hB1 := hide (hB0.out.trans (hb1.mono (by rw [hs0.out]; omega)))
    have hs1 : Hid (W.heap.size + 2 ≤ w1.heap.size) := hide (by have := hb1.size; rw [hs0.out] at this; exact this)
    have hr1 := hide ((hb1.block _ (by rw [hs0.out]; omega)).trans hR0.out)
    have hx1 := hide ((hb1.block _ (by rw [hs0.out]; omega)).trans hX0.out)
    clear c0 c1 c2 hb1
    obtain ⟨c0, c1, c2, _⟩ := row3 hx1.out
    go_wp2_with fail
    refine (lying_any w h E h1 h2 h3 h4 _).mono ?_
    rw [← HN.out]
    rintro e1 w2 ⟨rfl, hb2⟩
    have hB2 := hide (Below.trans' hB1.out hb2)
    have hr2 := hide (box_keep hr1.out hb2)
    have hx2 := box_keep hx1.out hb2
    clear c0 c1 c2 hb2
    obtain ⟨c0, c1, c2⟩ := (boxIn_of_row hx2).past
    clear hx2
    go_wp2_with fail
    refine wp_region_past_tail 11 (by kernel_rfl) (by kernel_rfl) ?_
    simp only [List.take_succ_cons, List.take_zero, List.drop_succ_cons, List.drop_zero]
    repeat (first | go_big_quiet_step (fail) | quiet_step (fail))
    refine wpQuiet_nil ?_
    rintro _ ⟨pq, rfl⟩
    obtain ⟨d0, d1, d2, f0, f1, f2⟩ := row3 (box_keep hr2.out pq.old)
    have hb3 := below3 (b := W.heap.size + 1) (.bool true) (.int .i64 ((e - N) / (w + 1))) (.int .i64 ((e - N) % (w + 1))) (Below.trans' hB2.out pq.old) (by omega)
    go_wp2_with fail
    exact bodyPost_ret (v := .agg #[.bool true, .int .i64 ((e - N) / (w + 1)), .int .i64 ((e - N) % (w + 1))]) (by simp [results, Try.results65, go_sem, d0, d1, d2]) rfl ⟨rfl, hb3⟩
end Go.Proofs.Ytincdnlinepcgaa
