/-
  Dots and boxes: the model's CountEdges, FreeEdges, BoxesWith, TakenBoxes.
-/
import Derived.Test.YtincdnlinepcgaaBxV
namespace Go.Proofs.Ytincdnlinepcgaa
open Go.RowKit
set_option linter.unusedVariables false

set_option maxRecDepth 100000 in
set_option maxHeartbeats 1000000 in
theorem specCountE_any (w h E : Int) (W : World) : Calls Try.prog 16 #[.agg #[.int .i64 w, .int .i64 h, .int .i64 E]] W (RetB (.tuple #[.int .i64 (countR w h E).1, .int .i64 (countR w h E).2]) W) := by
  have hB0 := hide (below_alloc W (.cells #[.int .i64 w, .int .i64 h, .int .i64 E] 25))
  have hX0 := hide (boxIn_new W w h E 25)
  obtain ⟨q, hq⟩ : ∃ q, q = countR w h E := ⟨_, rfl⟩
  rw [← hq]
  unfold countR at hq
  cases hb : okBox w h E
  · have HQ : Hid (q = (0, 1)) := hide (by rw [hq, hb]; rfl)
    have HB := hide hb
    clear hb hq
    go_enter Try.func16, Try.ntmps16
    go_wp2_with fail
    refine (specIs_any w h E _).mono ?_
    rw [HB.out]
    rintro e w1 ⟨rfl, hb1⟩
    have hB1 := hide (Below.trans' hB0.out hb1)
    clear hb1
    go_wp2_with fail
    go_ret2
    rw [HQ.out]
    exact ⟨rfl, hB1.out⟩
  · obtain ⟨h1, h2, h3, h4, _, _⟩ := okBox_parts hb
    have HQ : Hid (q = (nEdge w h, 0)) := hide (by rw [hq, hb]; rfl)
    have HB := hide hb
    clear hb hq
    go_enter Try.func16, Try.ntmps16
    go_wp2_with fail
    refine (specIs_any w h E _).mono ?_
    rw [HB.out]
    rintro e w1 ⟨rfl, hb1⟩
    obtain ⟨c0, c1, c2⟩ := hX0.out.keep hb1
    have hB1 := hide (Below.trans' hB0.out hb1)
    clear hb1
    go_wp2_with fail
    refine (specCount_any w h E h1 h2 h3 h4 _).mono ?_
    rintro e w2 ⟨rfl, hb2⟩
    have hB2 := hide (Below.trans' hB1.out hb2)
    clear hb2 c0 c1 c2
    go_wp2_with fail
    go_ret2
    rw [HQ.out]
    exact ⟨rfl, hB2.out⟩

set_option maxRecDepth 100000 in
set_option maxHeartbeats 1000000 in
theorem specFreeE_any (w h E : Int) (W : World) : Calls Try.prog 27 #[.agg #[.int .i64 w, .int .i64 h, .int .i64 E]] W (NewList (freeR w h E) W) := by
  have hB0 := hide (below_alloc W (.cells #[.int .i64 w, .int .i64 h, .int .i64 E] 25))
  have hX0 := hide (boxIn_new W w h E 25)
  obtain ⟨q, hq⟩ : ∃ q, q = freeR w h E := ⟨_, rfl⟩
  rw [← hq]
  unfold freeR at hq
  cases hb : okBox w h E
  · have HQ : Hid (q = ([], 1)) := hide (by rw [hq, hb]; rfl)
    have HB := hide hb
    clear hb hq
    go_enter Try.func27, Try.ntmps27
    go_wp2_with fail
    refine (specIs_any w h E _).mono ?_
    rw [HB.out]
    rintro e w1 ⟨rfl, hb1⟩
    have hB1 := hide (Below.trans' hB0.out hb1)
    clear hb1
    go_wp2_with fail
    go_ret2
    rw [HQ.out]
    exact newList_nil hB1.out
  · skip
    obtain ⟨r, hr⟩ : ∃ r, r = freeE w h E := ⟨_, rfl⟩
    have HR := hide hr
    have HB := hide hb
    have HQ : Hid (q = (r, 0)) := hide (by rw [hq, hb, if_pos rfl, hr])
    clear hb hq hr
    go_enter Try.func27, Try.ntmps27
    go_wp2_with fail
    refine (specIs_any w h E _).mono ?_
    rw [HB.out]
    rintro e w1 ⟨rfl, hb1⟩
    obtain ⟨c0, c1, c2⟩ := hX0.out.keep hb1
    have hB1 := hide (Below.trans' hB0.out hb1)
    clear hb1
    go_wp2_with fail
    refine (specFree_any w h E HB.out _).mono ?_
    rw [← HR.out]
    rintro e w2 ⟨a, c, rfl, ho, hb2⟩
    have hfin : Hid (NewList (r, 0) W (.returned (.tuple #[.slice a r.length c, .int .i64 0])) w2) := hide ⟨a, c, rfl, ownsRow_base ho hB1.out.size, Below.trans' hB1.out hb2⟩
    clear ho hb2 c0 c1 c2
    go_wp2_with fail
    go_ret2
    rw [HQ.out]
    exact hfin.out

set_option maxRecDepth 100000 in
set_option maxHeartbeats 1000000 in
theorem specTaken_any (w h E : Int) (W : World) : Calls Try.prog 23 #[.agg #[.int .i64 w, .int .i64 h, .int .i64 E]] W (NewList (withR w h E 4) W) := by
  have hB0 := hide (below_alloc W (.cells #[.int .i64 w, .int .i64 h, .int .i64 E] 25))
  have hX0 := hide (boxIn_new W w h E 25)
  obtain ⟨q, hq⟩ : ∃ q, q = withR w h E 4 := ⟨_, rfl⟩
  rw [← hq]
  unfold withR at hq
  cases hb : okBox w h E
  · have HQ : Hid (q = ([], 1)) := hide (by rw [hq, hb]; rfl)
    have HB := hide hb
    clear hb hq
    go_enter Try.func23, Try.ntmps23
    go_wp2_with fail
    refine (specIs_any w h E _).mono ?_
    rw [HB.out]
    rintro e w1 ⟨rfl, hb1⟩
    have hB1 := hide (Below.trans' hB0.out hb1)
    clear hb1
    go_wp2_with fail
    go_ret2
    rw [HQ.out]
    exact newList_nil hB1.out
  · have hin : inn 4 0 4 = true := by decide
    obtain ⟨r, hr⟩ : ∃ r, r = withB w h E 4 := ⟨_, rfl⟩
    have HR := hide hr
    have HB := hide hb
    have HQ : Hid (q = (r, 0)) := hide (by rw [hq, hb, if_pos rfl, hin, if_pos rfl, hr])
    clear hb hq hr
    go_enter Try.func23, Try.ntmps23
    go_wp2_with fail
    refine (specIs_any w h E _).mono ?_
    rw [HB.out]
    rintro e w1 ⟨rfl, hb1⟩
    obtain ⟨c0, c1, c2⟩ := hX0.out.keep hb1
    have hB1 := hide (Below.trans' hB0.out hb1)
    clear hb1
    go_wp2_with fail
    refine (specWith_any w h E 4 HB.out _).mono ?_
    rw [← HR.out]
    rintro e w2 ⟨a, c, rfl, ho, hb2⟩
    have hfin : Hid (NewList (r, 0) W (.returned (.tuple #[.slice a r.length c, .int .i64 0])) w2) := hide ⟨a, c, rfl, ownsRow_base ho hB1.out.size, Below.trans' hB1.out hb2⟩
    clear ho hb2 c0 c1 c2
    go_wp2_with fail
    go_ret2
    rw [HQ.out]
    exact hfin.out

set_option maxRecDepth 100000 in
set_option maxHeartbeats 1000000 in
theorem specWithE_any (w h E n : Int) (W : World) : Calls Try.prog 25 #[.agg #[.int .i64 w, .int .i64 h, .int .i64 E], .int .i64 n] W (NewList (withR w h E n) W) := by
  have hB0 := hide (below_alloc W (.cells #[.int .i64 w, .int .i64 h, .int .i64 E] 25))
  have hX0 := hide (boxIn_new W w h E 25)
  obtain ⟨q, hq⟩ : ∃ q, q = withR w h E n := ⟨_, rfl⟩
  rw [← hq]
  unfold withR at hq
  cases hb : okBox w h E
  · have HQ : Hid (q = ([], 1)) := hide (by rw [hq, hb]; rfl)
    have HB := hide hb
    clear hb hq
    go_enter Try.func25, Try.ntmps25
    go_wp2_with fail
    refine (specIs_any w h E _).mono ?_
    rw [HB.out]
    rintro e w1 ⟨rfl, hb1⟩
    have hB1 := hide (Below.trans' hB0.out hb1)
    clear hb1
    go_wp2_with fail
    go_ret2
    rw [HQ.out]
    exact newList_nil hB1.out
  · cases hin : inn n 0 4
    · have HQ : Hid (q = ([], 2)) := hide (by rw [hq, hb, hin]; rfl)
      have HB := hide hb
      have HI := hide hin
      clear hb hq hin
      go_enter Try.func25, Try.ntmps25
      go_wp2_with fail
      refine (specIs_any w h E _).mono ?_
      rw [HB.out]
      rintro e w1 ⟨rfl, hb1⟩
      have hB1 := hide (Below.trans' hB0.out hb1)
      clear hb1
      go_wp2_with fail
      refine (inn_is _ _ _ HI.out _).mono ?_
      rintro e w2 ⟨rfl, hb2⟩
      have hB2 := hide (Below.trans' hB1.out hb2)
      clear hb2
      go_wp2_with fail
      go_ret2
      rw [HQ.out]
      exact newList_nil hB2.out
    · obtain ⟨r, hr⟩ : ∃ r, r = withB w h E n := ⟨_, rfl⟩
      have HR := hide hr
      have HQ : Hid (q = (r, 0)) := hide (by rw [hq, hb, if_pos rfl, hin, if_pos rfl, hr])
      have HB := hide hb
      have HI := hide hin
      clear hb hq hin hr
      go_enter Try.func25, Try.ntmps25
      go_wp2_with fail
      refine (specIs_any w h E _).mono ?_
      rw [HB.out]
      rintro e w1 ⟨rfl, hb1⟩
      have hX1 := hide (hX0.out.keep hb1)
      have hB1 := hide (Below.trans' hB0.out hb1)
      clear hb1
      go_wp2_with fail
      refine (inn_is _ _ _ HI.out _).mono ?_
      rintro e w1b ⟨rfl, hb1b⟩
      obtain ⟨c0, c1, c2⟩ := hX1.out.keep hb1b
      have hB2 := hide (Below.trans' hB1.out hb1b)
      clear hb1b
      go_wp2_with fail
      refine (specWith_any w h E n HB.out _).mono ?_
      rw [← HR.out]
      rintro e w2 ⟨a, c, rfl, ho, hb2⟩
      have hfin : Hid (NewList (r, 0) W (.returned (.tuple #[.slice a r.length c, .int .i64 0])) w2) := hide ⟨a, c, rfl, ownsRow_base ho hB2.out.size, Below.trans' hB2.out hb2⟩
      clear ho hb2 c0 c1 c2
      go_wp2_with fail
      go_ret2
      rw [HQ.out]
      exact hfin.out
end Go.Proofs.Ytincdnlinepcgaa
