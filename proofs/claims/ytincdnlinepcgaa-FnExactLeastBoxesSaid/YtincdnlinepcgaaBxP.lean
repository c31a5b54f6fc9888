/-
  Dots and boxes: takenBy, and the program's CountEdges, EdgesOfBox, BoxesWith, TakenBoxes, FreeEdges.
-/
import Derived.Test.YtincdnlinepcgaaBxK
namespace Go.Proofs.Ytincdnlinepcgaa
open Go.RowKit
set_option linter.unusedVariables false

theorem boxes_nat {w h E : Int} (hb : okBox w h E = true) : ∃ m : Nat, w * h = (m : Int) ∧ m ≤ 9 := by
  obtain ⟨h1, h2, h3, h4, _, _⟩ := okBox_parts hb
  have := grid_nums h1 h2 h3 h4
  exact ⟨(w * h).toNat, by omega, by omega⟩

set_option maxRecDepth 100000 in
set_option maxHeartbeats 1000000 in
theorem takenBy_any (w h E F : Int) (hb : okBox w h E = true) (hf : okBox w h F = true) (W : World) :
    Calls Try.prog 54 #[.agg #[.int .i64 w, .int .i64 h, .int .i64 E], .agg #[.int .i64 w, .int .i64 h, .int .i64 F]] W (RetB (.int .i64 (takenBy w h E F)) W) := by
  obtain ⟨h1, h2, h3, h4, _, _⟩ := okBox_parts hb
  obtain ⟨m, hm, hm9⟩ := boxes_nat hb
  have ht : takenBy w h E F = takenTo w h E F m := by unfold takenBy; rw [hm]; rfl
  obtain ⟨W0, hW0⟩ : ∃ W0, W0 = (W.alloc (.cells #[.int .i64 w, .int .i64 h, .int .i64 E] 25)).alloc (.cells #[.int .i64 w, .int .i64 h, .int .i64 F] 25) := ⟨_, rfl⟩
  have hB0 : Below W.heap.size W W0 := by rw [hW0]; exact (below_alloc _ _).alloc (by simp) _
  have hx0 : BoxIn W0 W.heap.size w h E := by rw [hW0]; exact (boxIn_new _ _ _ _ _).keep (below_alloc _ _)
  have hy0 : BoxIn W0 (W.heap.size + 1) w h F := by
    have := boxIn_new (W.alloc (.cells #[.int .i64 w, .int .i64 h, .int .i64 E] 25)) w h F 25
    rw [hW0]
    simpa using this
  have HT := hide ht
  have HM := hide hm
  have HB0 := hide hB0
  have HX0 := hide hx0
  have HY0 := hide hy0
  clear ht hm hB0 hx0 hy0
  go_enter Try.func54, Try.ntmps54
  go_wp2_with fail
  rw [← hW0]
  clear hW0
  obtain ⟨c0, c1, c2⟩ := HX0.out
  go_wp2_with fail
  refine (boxes_any w h E h1 h2 h3 h4 _).mono ?_
  rw [HM.out]
  rintro e w1 ⟨rfl, hb1⟩
  have hO := hide hb1
  clear hb1 c0 c1 c2
  go_wp2_with fail
  go_loopw [5, 9] (fun t i wr => ∃ k : Nat, k ≤ m ∧ i = .int .i64 k ∧ t = .int .i64 (takenTo w h E F k) ∧ Below W0.heap.size W0 wr) (fun _ i _ => m - (intOf i).toNat)
  case atStart => exact ⟨0, Nat.zero_le _, rfl, rfl, hO.out⟩
  case round =>
    clear hO
    obtain ⟨k, hk, rfl, rfl, hO⟩ := hrel
    have htr := takenTo_range w h E F k
    by_cases hlt : k < m
    · obtain ⟨c0, c1, c2⟩ := HX0.out.keep hO
      obtain ⟨d0, d1, d2⟩ := HY0.out.keep hO
      have hki : (k : Int) < w * h := by rw [HM.out]; omega
      obtain ⟨x, hx⟩ : ∃ x, x = cnt4 w h E k := ⟨_, rfl⟩
      obtain ⟨y, hy⟩ : ∃ y, y = cnt4 w h F k := ⟨_, rfl⟩
      have HX := hide hx
      have HY := hide hy
      have HKI := hide hki
      clear hki
      by_cases hx4 : x < 4
      · have hxd : decide (x < 4) = true := decide_eq_true hx4
        by_cases hy4 : y = 4
        · have HQ := hide (takenTo_yes (w := w) (h := h) (E := E) (F := F) (k := k) (by rw [← hx]; exact hx4) (by rw [← hy]; exact hy4))
          have hyd : (y == 4) = true := by simp [hy4]
          have HY4 := hide hy4
          clear hx hy hx4 hy4
          go_wp2_with fail
          refine (drawnAround_any w h E k hb (by omega) HKI.out _).mono ?_
          rw [← HX.out]
          rintro e w2 ⟨rfl, hb2⟩
          have hO2 := Below.trans' hO hb2
          obtain ⟨d0, d1, d2⟩ := HY0.out.keep hO2
          clear c0 c1 c2 hO
          go_wp2_with fail
          refine (drawnAround_any w h F k hf (by omega) HKI.out _).mono ?_
          rw [← HY.out]
          rintro e w3 ⟨rfl, hb3⟩
          have hO3 := hide (Below.trans' hO2 hb3)
          clear d0 d1 d2 hO2 hb2 hb3
          go_wp2_with fail
          go_roundw
          case rel => exact ⟨k + 1, by omega, by go_num, by rw [HQ.out], hO3.out⟩
          case measure => simp [intOf]; omega
        · have HQ := hide (takenTo_no (w := w) (h := h) (E := E) (F := F) (k := k) (by rw [← hy]; omega))
          have hyd : (y == 4) = false := by simp [hy4]
          clear hx hy hx4 hy4
          go_wp2_with fail
          refine (drawnAround_any w h E k hb (by omega) HKI.out _).mono ?_
          rw [← HX.out]
          rintro e w2 ⟨rfl, hb2⟩
          have hO2 := Below.trans' hO hb2
          obtain ⟨d0, d1, d2⟩ := HY0.out.keep hO2
          clear c0 c1 c2 hO
          go_wp2_with fail
          refine (drawnAround_any w h F k hf (by omega) HKI.out _).mono ?_
          rw [← HY.out]
          rintro e w3 ⟨rfl, hb3⟩
          have hO3 := hide (Below.trans' hO2 hb3)
          clear d0 d1 d2 hO2 hb2 hb3
          go_wp2_with fail
          go_roundw
          case rel => exact ⟨k + 1, by omega, by go_num, by rw [HQ.out], hO3.out⟩
          case measure => simp [intOf]; omega
      · have hxd : decide (x < 4) = false := decide_eq_false hx4
        have HQ := hide (takenTo_no (w := w) (h := h) (E := E) (F := F) (k := k) (by rw [← hx]; omega))
        clear hx hy hx4
        go_wp2_with fail
        refine (drawnAround_any w h E k hb (by omega) HKI.out _).mono ?_
        rw [← HX.out]
        rintro e w2 ⟨rfl, hb2⟩
        have hO2 := hide (Below.trans' hO hb2)
        clear c0 c1 c2 d0 d1 d2 hO hb2
        go_wp2_with fail
        go_roundw
        case rel => exact ⟨k + 1, by omega, by go_num, by rw [HQ.out], hO2.out⟩
        case measure => simp [intOf]; omega
    · obtain rfl : k = m := by omega
      have hfin := hide (HB0.out.trans (hO.mono HB0.out.size))
      clear hO
      go_wp2_with fail
      go_ret
      exact ⟨ret_int HT.out.symm, hfin.out⟩
end Go.Proofs.Ytincdnlinepcgaa
