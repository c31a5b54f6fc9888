/-
  Dots and boxes: SafeEdges, the model's text.
-/
import Derived.Test.YtincdnlinepcgaaBxZ
import Derived.Deep.DeepCutAuto
namespace Go.Proofs.Ytincdnlinepcgaa
open Go.RowKit
set_option linter.unusedVariables false

theorem box_keep {w w' : World} {b : Nat} {o : Obj} (h : w.heap[b]? = some o) (hB : Below w.heap.size w w') : w'.heap[b]? = some o := (hB.block b (block_lt h)).trans h
theorem boxIn_of_row {W : World} {b : Nat} {w h E : Int} {t : TypeId} (hr : W.heap[b]? = some (.cells #[.int .i64 w, .int .i64 h, .int .i64 E] t (0, 0))) : BoxIn W b w h E :=
  ⟨(cell_of_row _ _ 0 _ _ (0, 0) hr).trans rfl, (cell_of_row _ _ 1 _ _ (0, 0) hr).trans rfl, (cell_of_row _ _ 2 _ _ (0, 0) hr).trans rfl⟩
theorem box_set3 {w : World} {b : Nat} {x y z x' y' z' : Value} {t : TypeId} (h : w.heap[b]? = some (.cells #[x, y, z] t (0, 0))) :
    (((w.setCell ⟨b, 0, none⟩ x').setCell ⟨b, 1, none⟩ y').setCell ⟨b, 2, none⟩ z').heap[b]? = some (.cells #[x', y', z'] t (0, 0)) :=
  heap_setCell_same _ b 2 _ t z' (heap_setCell_same _ b 1 _ t y' (heap_setCell_same _ b 0 _ t x' h))

set_option maxRecDepth 100000 in
set_option maxHeartbeats 4000000 in
theorem specSafe_any (w h E : Int) (W : World) : Calls Try.prog 32 #[.agg #[.int .i64 w, .int .i64 h, .int .i64 E]] W (NewList (safeR w h E) W) := by
  obtain ⟨i0, hi0, hz0, hz1, hz2⟩ := info_parts Try.info2
  obtain ⟨W0, hW0⟩ : ∃ W0, W0 = W.alloc (.cells #[.int .i64 w, .int .i64 h, .int .i64 E] 25) := ⟨_, rfl⟩
  have hB0 : Hid (Below W.heap.size W W0) := by rw [hW0]; exact hide (below_alloc _ _)
  have hX0 : Hid (BoxIn W0 W.heap.size w h E) := by rw [hW0]; exact hide (boxIn_new _ _ _ _ _)
  have hs0 : Hid (W0.heap.size = W.heap.size + 1) := by rw [hW0]; exact hide (by simp)
  obtain ⟨c0, c1, c2⟩ := hX0.out
  obtain ⟨r, hr⟩ : ∃ r, r = safeR w h E := ⟨_, rfl⟩
  rw [← hr]
  unfold safeR at hr
  cases hb : okBox w h E
  · have HR : Hid (r = ([], 1)) := hide (by rw [hr, hb]; rfl)
    have HB := hide hb
    clear hb hr
    go_enter Try.func32, Try.ntmps32
    go_wp2_with fail
    rw [← hW0]
    clear hW0
    go_wp2_with fail
    refine (specIs_any w h E _).mono ?_
    rw [HB.out]
    rintro e w1 ⟨rfl, hb1⟩
    have hB1 := hide (Below.trans' hB0.out hb1)
    clear hb1
    go_wp2_with fail
    go_ret2
    rw [HR.out]
    exact newList_nil hB1.out
  · have HR : Hid (r = (safeL w h E, 0)) := hide (by rw [hr, hb]; rfl)
    have HB := hide hb
    obtain ⟨h1, h2, h3, h4, _, _⟩ := okBox_parts hb
    obtain ⟨E1, E2⟩ := okBox_E hb
    obtain ⟨m, hm, hm9⟩ := boxes_nat hb
    have hfl := freeE_le hb
    obtain ⟨fr, hfr⟩ : ∃ fr, fr = freeE w h E := ⟨_, rfl⟩
    obtain ⟨n, hn⟩ : ∃ n, n = fr.length := ⟨_, rfl⟩
    obtain ⟨L, hL⟩ : ∃ L, L = safeK w h E := ⟨_, rfl⟩
    rw [← hfr, ← hn] at hfl
    have HL : Hid (L = safeK w h E) := hide hL
    have HFR := hide hfr
    have HN := hide hn
    have HM := hide hm
    have m0 : 0 ≤ w * h := by omega
    have m9 : w * h ≤ 9 := by omega
    clear hb hr hm hfr hn hL
    go_enter Try.func32, Try.ntmps32
    go_wp2_with fail
    rw [← hW0]
    clear hW0
    go_wp2_with fail
    refine (specIs_any w h E _).mono ?_
    rw [HB.out]
    rintro e w1 ⟨rfl, hb1⟩
    have hB1 := hide (Below.trans' hB0.out hb1)
    have hX1 := hide (hX0.out.keep hb1)
    have hs1 : Hid (W.heap.size + 1 ≤ w1.heap.size) := hide (by have := hb1.size; rw [hs0.out] at this; exact this)
    clear c0 c1 c2 hb1
    obtain ⟨c0, c1, c2⟩ := hX1.out
    go_wp2_with fail
    refine (specFree_any w h E HB.out _).mono ?_
    rw [← HFR.out]
    rintro e w2 ⟨al, cl, rfl, hol, hb2⟩
    rw [← HN.out]
    have hB2 := hide (Below.trans' hB1.out hb2)
    have hX2 := hide (hX1.out.keep hb2)
    have hs2 := hide (Nat.le_trans hs1.out hb2.size)
    have hl2 := hide (intsAt_of_ownsRow hol)
    clear c0 c1 c2 hb2 hol
    have hO2 : Hid (Owns w2.heap.size w2 (w2.alloc (.cells #[] 2)) (.slice (some ⟨w2.heap.size, 0, none⟩) 0 0) (L 0)) := hide (by rw [HL.out]; exact Owns.made (Below.refl _ _) (Nat.le_refl _))
    go_wp2_with fail
    go_loopg [5, 6] n (fun g v i wr => ∃ (k : Nat) (v0 : Value), v0 = v ∧ k + g = n ∧ i = .int .i64 k ∧ Owns w2.heap.size w2 wr v (L k))
    case atStart => exact ⟨0, _, rfl, by omega, rfl, hO2.out⟩
    case round =>
      clear hO2
      obtain ⟨k, v, rfl, hkg, rfl, hO⟩ := hrel
      have hbw : Below w2.heap.size w2 wr := hO.old
      cases gk with
      | zero =>
        obtain rfl : k = n := by omega
        obtain ⟨a, c, hv, ho, hbf⟩ := hO.list hB2.out hB2.out.size
        obtain rfl : v = .slice a (L k).length c := by simpa using hv
        have hfin : Hid (NewList (L k, 0) W (.returned (.tuple #[.slice a (L k).length c, .int .i64 0])) wr) := hide ⟨a, c, rfl, ho, hbf⟩
        have hLk : Hid (L k = safeL w h E) := hide (by rw [HL.out, HN.out, HFR.out]; exact safeK_all w h E)
        clear hO ho hbf hv hbw
        go_wp2_with fail
        go_ret2
        rw [HR.out, ← hLk.out]
        exact hfin.out
      | succ g =>
        have hkn : k < n := by omega
        obtain ⟨b, off, e, rfl, hce, he⟩ := (hl2.out.keep hbw).one (k := k) (by rw [← HN.out]; exact hkn)
        have heF : (freeE w h E)[k]? = some e := by rw [← HFR.out]; exact he.out
        obtain ⟨e0, en, hdr⟩ := freeE_get HB.out heF
        obtain ⟨F, hF⟩ : ∃ F, F = withE E e := ⟨_, rfl⟩
        obtain ⟨tk, htk⟩ : ∃ tk, tk = takenBy w h E (withE E e) := ⟨_, rfl⟩
        have hbF : Hid (okBox w h F = true) := hide (by rw [hF]; exact okBox_with HB.out e0 en)
        have hmono : Hid (∀ i : Int, 0 ≤ i → i < w * h → cnt4 w h E i ≤ cnt4 w h F i) := hide (fun i i0 i1 => by rw [hF]; exact cnt4_mono h1 h2 h3 h4 i0 i1 E1 e0)
        have hyes : Hid (safeTo w h E F m = true → L (k + 1) = L k ++ [e]) := hide (fun hs => by
          rw [HL.out]
          refine safeK_yes heF ?_
          unfold safeE
          rw [HM.out, ← hF]
          exact hs)
        have hnot : Hid (safeTo w h E F m = false → L (k + 1) = L k) := hide (fun hs => by
          rw [HL.out]
          refine safeK_no heF ?_
          unfold safeE
          rw [HM.out, ← hF]
          exact hs)
        have hLle : (L k).length ≤ 24 := by rw [HL.out]; exact Nat.le_trans (safeK_le _ _ _ _) (by omega)
        have HF := hide hF
        have HT := hide htk
        have HEN := hide en
        have HO := hide hO
        obtain ⟨c0, c1, c2⟩ := hX2.out.below hbw (by have := hs2.out; omega)
        have hd : Below wr.heap.size wr wr.drew := Below.drew (Below.refl _ _)
        have hik0 : (0 : Int) ≤ (k : Int) := by omega
        have hkn' : (k : Int) < (n : Int) := by omega
        clear heF en hdr hF htk hO
        go_upto_region 7 with fail
        go_cut [7, 8] (fun s7 s8 wx => ∃ nb : Nat, s7 = .pointer (some ⟨nb, 0, none⟩) ∧ s8 = .int .i64 tk ∧ BoxIn wx nb w h F ∧ Below wr.heap.size wr wx)
        case first =>
          go_region_held3 (fun W' => W'.cell? ⟨b, off + k, none⟩ = some (.int .i64 e) ∧ W'.cell? ⟨W.heap.size, 0, none⟩ = some (.int .i64 w) ∧ W'.cell? ⟨W.heap.size, 1, none⟩ = some (.int .i64 h) ∧ W'.cell? ⟨W.heap.size, 2, none⟩ = some (.int .i64 E))
            (first | (have BB : Below wr.heap.size wr wr.drew := hd; exact ⟨cell_keep BB hce, cell_keep BB c0, cell_keep BB c1, cell_keep BB c2⟩) | (refine ⟨cell_keep ?_ hce, cell_keep ?_ c0, cell_keep ?_ c1, cell_keep ?_ c2⟩ <;> (repeat (first | exact hd | exact Below.refl _ _ | refine Below.drew ?_ | refine Below.alloc' ?_ _ | (refine Below.trans' ?_ hb3) | (refine Below.setCell ?_ (by first | exact Nat.le_refl _ | (simp; omega)) _)))))
            ((go_at_call 51; (with_reducible refine (specMove_any w h E e HB.out e0 HEN.out _).mono ?_); rw [← HT.out, ← HF.out]; rintro e1 w3 ⟨rfl, hb3⟩; (have hz3 : wr.heap.size ≤ w3.heap.size := by (have hq := hb3.size); (try simp at hq); omega); (try have hb4 : Hid (w3.heap[wr.heap.size]? = some (.cells #[.int .i64 0, .int .i64 0, .int .i64 0] 25 (0, 0))) := hide (box_keep (w := (wr.alloc (.cells #[.int .i64 0, .int .i64 0, .int .i64 0] 25)).drew) (heap_alloc_new wr _) hb3)); (try have q0 := (row3 hb4.out).1); (try have q1 := (row3 hb4.out).2.1); (try have q2 := (row3 hb4.out).2.2.1); (try have f0 := (row3 hb4.out).2.2.2.1); (try have f1 := (row3 hb4.out).2.2.2.2.1); (try have f2 := (row3 hb4.out).2.2.2.2.2)))
          all_goals (go_wp2_with fail; go_meet; first | exact ⟨_, rfl, rfl, boxIn_of_row (heap_alloc_new w3 _), (by repeat (first | exact hd | exact Below.refl _ _ | refine Below.drew ?_ | refine Below.alloc' ?_ _ | (refine Below.trans' ?_ hb3)))⟩ | exact ⟨_, rfl, rfl, boxIn_of_row (box_set3 hb4.out), (by repeat (first | exact hd | exact Below.refl _ _ | refine Below.drew ?_ | refine Below.alloc' ?_ _ | (refine Below.trans' ?_ hb3) | (refine Below.setCell ?_ (by first | exact Nat.le_refl _ | (simp; omega)) _)))⟩)
        case rest =>
          obtain ⟨nb, rfl, rfl, hYc, hBc⟩ := hcut
          have HOc := hide (HO.out.keep hBc)
          have hXc := hide ((hX2.out.below hbw (by have := hs2.out; omega)).keep hBc)
          have HYc := hide hYc
          have HCE := hide (cell_keep hBc hce)
          clear c0 c1 c2 hd hYc hBc hbw hce
          obtain ⟨wo, hwo⟩ : ∃ wo : World, wo = wc := ⟨_, rfl⟩
          go_wp2_with fail
          go_loopg [9, 10] m (fun g2 gd i wi => ∃ k2 : Nat, k2 + g2 = m ∧ i = .int .i64 k2 ∧ gd = .bool (safeTo w h E F k2) ∧ Below wc.heap.size wc wi)
          case atStart => exact ⟨0, by omega, rfl, rfl, Below.refl _ _⟩
          case round =>
            obtain ⟨k2, hk2, rfl, rfl, hB5⟩ := hrel
            have HOw := hide (HOc.out.keep hB5)
            obtain ⟨c0, c1, c2⟩ := hXc.out.keep hB5
            cases gk with
            | zero =>
              obtain rfl : k2 = m := by omega
              have hki : ¬ (k2 : Int) < w * h := by rw [HM.out]; omega
              cases hsf : safeTo w h E F k2
              · have HLL := hide (hnot.out hsf)
                clear hsf hB5
                go_wp2_with fail
                go_roundg g
                case rel => exact ⟨k + 1, _, rfl, by omega, by go_num, by rw [HLL.out]; exact HOw.out⟩
                case measure => omega
              · have HLL := hide (hyes.out hsf)
                have hce := cell_keep hB5 HCE.out
                have hown6 := HOw.out.own
                have hsz6 := HOw.out.size
                clear hsf
                go_wp2_with (at_builtin; refine wpList_append_own _ rfl _ _ 30 rfl (w2.heap.size) 2 i0 (.int .i64 0) 1 8 Try.underlying30 hi0 hz0 hz1 hz2 rfl (by decide) _ _ _ rfl (hown6.alloc _) ⟨wr.heap.size, 0, none⟩ 1 1 [.int .i64 e] rfl rfl (cell_one_new _ _ _) (by simp [Value.oneCell']) (by unfold maxLen; omega) (by omega) (by simp; omega) ?_)
                intro v' w7 hown' hgrow _
                have hO7 := hide (HOw.out.snoc (by simpa using hown') hgrow)
                clear hown' hgrow hown6
                go_wp2_with fail
                go_roundg g
                case rel => exact ⟨k + 1, _, rfl, by omega, by go_num, by rw [HLL.out]; exact hO7.out⟩
                case measure => omega
            | succ g2 =>
              have hk2m : k2 < m := by omega
              have hki : (k2 : Int) < w * h := by rw [HM.out]; omega
              have HKI := hide hki
              obtain ⟨d0, d1, d2⟩ := HYc.out.keep hB5
              obtain ⟨y, hy⟩ : ∃ y, y = cnt4 w h F k2 := ⟨_, rfl⟩
              obtain ⟨x, hx⟩ : ∃ x, x = cnt4 w h E k2 := ⟨_, rfl⟩
              have HY := hide hy
              have HX := hide hx
              have hxy : x ≤ y := by rw [hx, hy]; exact hmono.out _ (by omega) hki
              have hsucc := safeTo_succ w h E F k2
              have hth : third w h E F (k2 : Int) = (decide (y = 3) && decide (x < 3)) := by rw [hy, hx]; rfl
              cases hsf : safeTo w h E F k2
              · have hsn : Hid (safeTo w h E F (k2 + 1) = false) := hide (by rw [hsucc, hsf]; rfl)
                clear hy hx hsucc hth hsf
                go_wp2_with fail
                go_roundg g2
                case rel => exact ⟨k2 + 1, by omega, by go_num, by rw [hsn.out], hB5⟩
                case measure => omega
              · by_cases hy3 : y = 3
                · have hyd : (y != 3) = false := by simp [hy3]
                  by_cases hx3 : x = 3
                  · have hxd : (x == 3) = true := by simp [hx3]
                    have hsn : Hid (safeTo w h E F (k2 + 1) = true) := hide (by rw [hsucc, hsf, hth]; simp; omega)
                    clear hy hx hsucc hth hsf hy3 hx3
                    go_wp2_with fail
                    refine (specDrawn_any w h F k2 hbF.out (by omega) HKI.out _).mono ?_
                    rw [← HY.out]
                    rintro e1 w8 ⟨rfl, hb8⟩
                    have hB8 := Below.trans' hB5 hb8
                    obtain ⟨c0, c1, c2⟩ := hXc.out.keep hB8
                    have HB8 := hide hB8
                    clear hb8 d0 d1 d2 hB5 hB8
                    go_wp2_with fail
                    refine (specDrawn_any w h E k2 HB.out (by omega) HKI.out _).mono ?_
                    rw [← HX.out]
                    rintro e1 w9 ⟨rfl, hb9⟩
                    have hB9 := hide (Below.trans' HB8.out hb9)
                    clear hb9 c0 c1 c2
                    go_wp2_with fail
                    go_roundg g2
                    case rel => exact ⟨k2 + 1, by omega, by go_num, by rw [hsn.out], hB9.out⟩
                    case measure => omega
                  · have hxd : (x == 3) = false := by simp [hx3]
                    have hsn : Hid (safeTo w h E F (k2 + 1) = false) := hide (by rw [hsucc, hsf, hth]; simp; omega)
                    clear hy hx hsucc hth hsf hy3 hx3
                    go_wp2_with fail
                    refine (specDrawn_any w h F k2 hbF.out (by omega) HKI.out _).mono ?_
                    rw [← HY.out]
                    rintro e1 w8 ⟨rfl, hb8⟩
                    have hB8 := Below.trans' hB5 hb8
                    obtain ⟨c0, c1, c2⟩ := hXc.out.keep hB8
                    have HB8 := hide hB8
                    clear hb8 d0 d1 d2 hB5 hB8
                    go_wp2_with fail
                    refine (specDrawn_any w h E k2 HB.out (by omega) HKI.out _).mono ?_
                    rw [← HX.out]
                    rintro e1 w9 ⟨rfl, hb9⟩
                    have hB9 := hide (Below.trans' HB8.out hb9)
                    clear hb9 c0 c1 c2
                    go_wp2_with fail
                    go_roundg g2
                    case rel => exact ⟨k2 + 1, by omega, by go_num, by rw [hsn.out], hB9.out⟩
                    case measure => omega
                · have hyd : (y != 3) = true := by simp [hy3]
                  have hsn : Hid (safeTo w h E F (k2 + 1) = true) := hide (by rw [hsucc, hsf, hth]; simp [hy3])
                  clear hy hx hsucc hth hsf hy3
                  go_wp2_with fail
                  refine (specDrawn_any w h F k2 hbF.out (by omega) HKI.out _).mono ?_
                  rw [← HY.out]
                  rintro e1 w8 ⟨rfl, hb8⟩
                  have hB8 := hide (Below.trans' hB5 hb8)
                  clear hb8 d0 d1 d2 hB5
                  go_wp2_with fail
                  go_roundg g2
                  case rel => exact ⟨k2 + 1, by omega, by go_num, by rw [hsn.out], hB8.out⟩
                  case measure => omega

theorem safeR_le (w h E : Int) : (safeR w h E).1.length ≤ 1048576 := by
  unfold safeR
  split
  · rename_i hb
    exact Nat.le_trans (List.length_filter_le _ _) (Nat.le_trans (freeE_le hb) (by omega))
  · simp
end Go.Proofs.Ytincdnlinepcgaa
