/-
  Dots and boxes: reflections, the program's text.
-/
import Derived.Test.YtincdnlinepcgaaBxRp
namespace Go.Proofs.Ytincdnlinepcgaa
open Go.RowKit
set_option linter.unusedVariables false

theorem placeOf_is (w h E e : Int) (s : Bool) (r c : Int) (h1 : 1 ≤ w) (h2 : w ≤ 3) (h3 : 1 ≤ h) (h4 : h ≤ 3) (he0 : 0 ≤ e) (he : e < nEdge w h) (hp : plc w h e = (s, r, c)) (W : World) :
    Calls Try.prog 65 #[.agg #[.int .i64 w, .int .i64 h, .int .i64 E], .int .i64 e] W (RetB (.agg #[.bool s, .int .i64 r, .int .i64 c]) W) := by
  have := placeOf_any w h E e h1 h2 h3 h4 he0 he W
  rw [hp] at this
  exact this
theorem reflectedPlace_is (w h E r c kind : Int) (s s' : Bool) (r' c' : Int) (h1 : 1 ≤ w) (h2 : w ≤ 3) (h3 : 1 ≤ h) (h4 : h ≤ 3) (hr0 : 0 ≤ r) (hr3 : r ≤ 3) (hc0 : 0 ≤ c) (hc3 : c ≤ 3) (hk0 : 0 ≤ kind) (hk2 : kind ≤ 2) (hp : rplc w h kind (s, r, c) = (s', r', c')) (W : World) :
    Calls Try.prog 64 #[.agg #[.int .i64 w, .int .i64 h, .int .i64 E], .agg #[.bool s, .int .i64 r, .int .i64 c], .int .i64 kind] W (RetB (.agg #[.bool s', .int .i64 r', .int .i64 c']) W) := by
  have := reflectedPlace_any w h E r c kind s h1 h2 h3 h4 hr0 hr3 hc0 hc3 hk0 hk2 W
  rw [hp] at this
  exact this
theorem edgeAt_is (w h E r c : Int) (s : Bool) (j : Int) (h1 : 1 ≤ w) (h2 : w ≤ 3) (h3 : 1 ≤ h) (h4 : h ≤ 3) (hr0 : 0 ≤ r) (hr : r ≤ 3) (hc0 : 0 ≤ c) (hc : c ≤ 3) (hj : edgeNo w h s r c = j) (W : World) :
    Calls Try.prog 63 #[.agg #[.int .i64 w, .int .i64 h, .int .i64 E], .agg #[.bool s, .int .i64 r, .int .i64 c]] W (RetB (.int .i64 j) W) := by
  rw [← hj]
  exact edgeAt_any w h E r c s h1 h2 h3 h4 hr0 hr hc0 hc W

set_option maxRecDepth 100000 in
set_option maxHeartbeats 4000000 in
theorem reflected_01 (w h E kind : Int) (hb : okBox w h E = true) (hk0 : 0 ≤ kind) (hk1 : kind ≤ 1) (W : World) :
    Calls Try.prog 57 #[.agg #[.int .i64 w, .int .i64 h, .int .i64 E], .int .i64 kind] W (RetB (.agg #[.int .i64 w, .int .i64 h, .int .i64 (refl3 w h E kind)]) W) := by
  obtain ⟨h1, h2, h3, h4, _, _⟩ := okBox_parts hb
  obtain ⟨E1, E2⟩ := okBox_E hb
  obtain ⟨n, hn, hn24⟩ := edges_nat hb
  have hM : mw w h kind = w := by unfold mw; simp <;> omega
  have hN : mh w h kind = h := by unfold mh; simp <;> omega
  obtain ⟨R, hR⟩ : ∃ R, R = rflTo w h E kind := ⟨_, rfl⟩
  have hRok : Hid (∀ k : Nat, k ≤ n → okBox w h (R k) = true) := hide (fun k hk => by
    have := rflTo_range (E := E) (kind := kind) (k := k) h1 h2 h3 h4 (by omega) (by omega) (by rw [hn]; omega)
    rw [hM, hN] at this
    rw [hR]
    exact this)
  have hRyes : Hid (∀ k : Nat, drawn E (k : Int) = true → R (k + 1) = withE (R k) (rfE w h kind (k : Int))) := hide (fun k hd => by rw [hR, rflTo_succ, if_pos hd])
  have hRno : Hid (∀ k : Nat, drawn E (k : Int) = false → R (k + 1) = R k) := hide (fun k hd => by rw [hR, rflTo_succ, hd]; rfl)
  have hRfin : Hid (R n = refl3 w h E kind) := hide (by rw [hR]; unfold rflTo refl3; rw [hn]; rfl)
  have hR0 : Hid (R 0 = 0) := hide (by rw [hR]; rfl)
  have hpl : Hid (∀ k : Nat, k < n → _) := hide (fun k hk => plc_range (w := w) (h := h) (kind := kind) (e := k) h1 h2 h3 h4 (by omega) (by omega) (by rw [hn]; omega))
  have HM := hide (And.intro hM hN)
  have HNN := hide hn
  obtain ⟨W0, hW0⟩ : ∃ W0, W0 = ((W.alloc (.cells #[.int .i64 w, .int .i64 h, .int .i64 E] 25)).alloc (.cells #[.int .i64 0, .int .i64 0, .int .i64 0] 25)).alloc (.cells #[.int .i64 w, .int .i64 h, .int .i64 0] 25) := ⟨_, rfl⟩
  have hB0 : Hid (Below W.heap.size W W0) := by rw [hW0]; exact hide (((below_alloc _ _).alloc (by simp) _).alloc (by simp; omega) _)
  have hs0 : Hid (W0.heap.size = W.heap.size + 3) := by rw [hW0]; exact hide (by simp)
  have hrows := alloc3_rows W #[.int .i64 w, .int .i64 h, .int .i64 E] #[.int .i64 0, .int .i64 0, .int .i64 0] #[.int .i64 w, .int .i64 h, .int .i64 0] 25 25 25
  rw [← hW0] at hrows
  have hX0 := hide hrows.1
  have hT0 := hide hrows.2.1
  have hM0 := hide hrows.2.2
  clear hrows hR hM hN hn
  obtain ⟨c0, c1, c2⟩ := boxIn_of_row hX0.out
  go_enter Try.func57, Try.ntmps57
  go_wp2_with fail
  rw [← hW0]
  clear hW0
  go_wp2_with fail
  refine (edges_any w h E h1 h2 h3 h4 _).mono ?_
  rw [HNN.out]
  rintro e w1 ⟨rfl, hb1⟩
  have hm1 : Hid (w1.heap[W.heap.size + 1 + 1]? = some (.cells #[.int .i64 w, .int .i64 h, .int .i64 (R 0)] 25 (0, 0))) := hide (by rw [hR0.out]; exact box_keep hM0.out hb1)
  have hB1 : Hid (Below (W.heap.size + 1 + 1) W0 w1) := hide (hb1.mono (by rw [hs0.out]; omega))
  clear c0 c1 c2 hb1
  go_wp2_with fail
  go_loopw [22] (fun i wr => ∃ k : Nat, k ≤ n ∧ i = .int .i64 k ∧ wr.heap[W.heap.size + 1 + 1]? = some (.cells #[.int .i64 w, .int .i64 h, .int .i64 (R k)] 25 (0, 0)) ∧ Below (W.heap.size + 1 + 1) W0 wr) (fun i _ => n - (intOf i).toNat)
  case atStart => exact ⟨0, Nat.zero_le _, rfl, hm1.out, hB1.out⟩
  case round =>
    clear hm1 hB1
    obtain ⟨k, hk, rfl, hmr, hBr⟩ := hrel
    have hxr := (hBr.block W.heap.size (by omega)).trans hX0.out
    have HMR := hide hmr
    have hsr : W.heap.size + 1 + 1 < wr.heap.size := block_lt hmr
    obtain ⟨c0, c1, c2⟩ := boxIn_of_row hxr
    by_cases hlt : k < n
    · cases hdr : drawn E (k : Int)
      · have HQ := hide (hRno.out k hdr)
        have HD := hide hdr
        clear hdr hmr hxr
        go_wp2_with fail
        refine (isDrawn_any w h E k E1 E2 (by omega) (by omega) _).mono ?_
        rw [HD.out]
        rintro e w2 ⟨rfl, hb2⟩
        have hm2 := hide (box_keep HMR.out hb2)
        have hB2 := hide (hBr.trans (hb2.mono (by omega)))
        clear hb2 hBr c0 c1 c2
        go_wp2_with fail
        go_roundw
        case rel => exact ⟨k + 1, by omega, by go_num, by rw [HQ.out]; exact hm2.out, hB2.out⟩
        case measure => simp [intOf]; omega
      · obtain ⟨⟨q1, q2, q3, q4, q5, q6, q7, q8⟩, q9, q10⟩ := hpl.out k hlt
        obtain ⟨s, r, c, hp⟩ : ∃ s r c, plc w h (k : Int) = (s, r, c) := ⟨_, _, _, rfl⟩
        obtain ⟨s', r', c', hp'⟩ : ∃ s' r' c', rplc w h kind (s, r, c) = (s', r', c') := ⟨_, _, _, rfl⟩
        obtain ⟨j, hj⟩ : ∃ j, j = rfE w h kind (k : Int) := ⟨_, rfl⟩
        have hje : edgeNo w h s' r' c' = j := by rw [hj]; unfold rfE; rw [HM.out.1, HM.out.2, hp, hp']
        have hok := hRok.out k (by omega)
        obtain ⟨o1, o2⟩ := okBox_E hok
        have hnj := edges_nat hok
        rw [HM.out.1, HM.out.2, ← hj] at q10
        rw [← hj] at q9
        rw [hp, hp'] at q5 q6 q7 q8
        rw [hp] at q1 q2 q3 q4
        simp only at q1 q2 q3 q4 q5 q6 q7 q8
        have j24 : j < 24 := by obtain ⟨nj, hnj1, hnj2⟩ := hnj; omega
        have HQ := hide (hRyes.out k hdr)
        rw [← hj] at HQ
        obtain ⟨O, hO⟩ : ∃ O, O = R k := ⟨_, rfl⟩
        rw [← hO] at HQ HMR o1 o2
        have HD := hide hdr
        have HP := hide hp
        have HP' := hide hp'
        have HJE := hide hje
        clear hdr hmr hxr hp hp' hj hje hok hnj hO q10
        go_wp2_with fail
        refine (isDrawn_any w h E k E1 E2 (by omega) (by omega) _).mono ?_
        rw [HD.out]
        rintro e w2 ⟨rfl, hb2⟩
        have hm2 := hide (box_keep HMR.out hb2)
        have hB2 := hide (hBr.trans (hb2.mono (by omega)))
        have hs2 : W.heap.size + 1 + 1 < w2.heap.size := Nat.lt_of_lt_of_le hsr hb2.size
        have hX2 := BoxIn.keep ⟨c0, c1, c2⟩ hb2
        clear hb2 hBr c0 c1 c2 hsr
        obtain ⟨c0, c1, c2⟩ := hX2
        have hd2 : Below w2.heap.size w2 w2.drew := Below.drew (Below.refl _ _)
        go_upto_region 8 with fail
        go_cut [7] (fun s7 wx => ∃ nb : Nat, s7 = .pointer (some ⟨nb, 0, none⟩) ∧ wx.heap[nb]? = some (.cells #[.bool s', .int .i64 r', .int .i64 c'] 64 (0, 0)) ∧ Below w2.heap.size w2 wx)
        case first =>
          go_region_held3 (fun W' => W'.cell? ⟨W.heap.size, 0, none⟩ = some (.int .i64 w) ∧ W'.cell? ⟨W.heap.size, 1, none⟩ = some (.int .i64 h) ∧ W'.cell? ⟨W.heap.size, 2, none⟩ = some (.int .i64 E))
            ((refine ⟨cell_keep ?_ c0, cell_keep ?_ c1, cell_keep ?_ c2⟩ <;> (repeat (first | exact hd2 | exact Below.refl _ _ | refine Below.drew ?_ | refine Below.alloc' ?_ _ | (refine Below.trans' ?_ hb5) | (refine Below.trans' ?_ hb4) | (refine Below.setCell ?_ (by first | exact Nat.le_refl _ | (simp; omega)) _)))))
            (first | (go_at_call 65; (with_reducible refine (placeOf_is w h E k s r c h1 h2 h3 h4 (by omega) (by rw [HNN.out]; omega) HP.out _).mono ?_); rintro e1 w4 ⟨rfl, hb4⟩; (have hz4 : w2.heap.size ≤ w4.heap.size := by (have hq := hb4.size); (try simp at hq); omega); (try have hr4 : Hid (w4.heap[w2.heap.size]? = some (.cells #[.bool false, .int .i64 0, .int .i64 0] 64 (0, 0))) := hide (box_keep (w := (w2.alloc (.cells #[.bool false, .int .i64 0, .int .i64 0] 64)).drew) (heap_alloc_new w2 _) hb4))) | (go_at_call 64; (with_reducible refine (reflectedPlace_is w h E r c kind s s' r' c' h1 h2 h3 h4 q1 q2 q3 q4 (by omega) (by omega) HP'.out _).mono ?_); rintro e1 w5 ⟨rfl, hb5⟩; (have hz5 : w2.heap.size ≤ w5.heap.size := by (have hq := hb5.size); (try simp at hq); omega); (first | have hr5 : Hid (w5.heap[w2.heap.size]? = some (.cells #[.bool false, .int .i64 0, .int .i64 0] 64 (0, 0))) := hide (box_keep hr4.out hb5) | have hr5 : Hid (w5.heap[w4.heap.size]? = some (.cells #[.bool false, .int .i64 0, .int .i64 0] 64 (0, 0))) := hide (box_keep (w := w4.alloc (.cells #[.bool false, .int .i64 0, .int .i64 0] 64)) (heap_alloc_new w4 _) hb5) | skip); (try have z0 := (row3 hr5.out).1); (try have z1 := (row3 hr5.out).2.1); (try have z2 := (row3 hr5.out).2.2.1); (try have f0 := (row3 hr5.out).2.2.2.1); (try have f1 := (row3 hr5.out).2.2.2.2.1); (try have f2 := (row3 hr5.out).2.2.2.2.2)))
          all_goals (go_wp2_with fail; go_meet; first | exact ⟨_, rfl, heap_alloc_new w5 _, (by repeat (first | exact hd2 | exact Below.refl _ _ | refine Below.drew ?_ | refine Below.alloc' ?_ _ | (refine Below.trans' ?_ hb5) | (refine Below.trans' ?_ hb4) | (refine Below.setCell ?_ (by first | exact Nat.le_refl _ | (simp; omega)) _)))⟩ | exact ⟨_, rfl, box_set3 hr5.out, (by repeat (first | exact hd2 | exact Below.refl _ _ | refine Below.drew ?_ | refine Below.alloc' ?_ _ | (refine Below.trans' ?_ hb5) | (refine Below.trans' ?_ hb4) | (refine Below.setCell ?_ (by first | exact Nat.le_refl _ | (simp; omega)) _)))⟩)
        case rest =>
          obtain ⟨nb, rfl, hpb, hBc⟩ := hcut
          have hmc := box_keep hm2.out hBc
          have hB3 := hide (hB2.out.trans (hBc.mono (by omega)))
          have hMC := hide hmc
          have hsc : W.heap.size + 1 + 1 < wc.heap.size := block_lt hmc
          clear c0 c1 c2 hd2
          obtain ⟨c0, c1, c2⟩ := (boxIn_of_row hmc).past
          obtain ⟨y0, y1, y2, _⟩ := row3 hpb
          have p0 : ∀ p : Past wc, p.to.cell? ⟨nb, 0, none⟩ = some (.bool s') := fun p => p.cell y0
          have p1 : ∀ p : Past wc, p.to.cell? ⟨nb, 1, none⟩ = some (.int .i64 r') := fun p => p.cell y1
          have p2 : ∀ p : Past wc, p.to.cell? ⟨nb, 2, none⟩ = some (.int .i64 c') := fun p => p.cell y2
          clear hmc hpb y0 y1 y2 hBc
          go_wp2_with fail
          refine wp_region_past_tail 5 (by kernel_rfl) (by kernel_rfl) ?_
          simp only [List.take_succ_cons, List.take_zero, List.drop_succ_cons, List.drop_zero]
          repeat (first | go_big_quiet_step ((first | (go_at_call 63; (with_reducible exact ret_past (edgeAt_is _ _ _ _ _ _ _ h1 h2 h3 h4 q5 q6 q7 q8 HJE.out _))) | (go_at_call 53; (with_reducible exact ret_past (withEdge_any _ _ _ _ o1 o2 q9 j24 _))))) | quiet_step ((first | (go_at_call 63; (with_reducible exact ret_past (edgeAt_is _ _ _ _ _ _ _ h1 h2 h3 h4 q5 q6 q7 q8 HJE.out _))) | (go_at_call 53; (with_reducible exact ret_past (withEdge_any _ _ _ _ o1 o2 q9 j24 _))))))
          refine wpQuiet_nil ?_
          rintro _ ⟨pq, rfl⟩
          have hmq := box_keep hMC.out pq.old
          obtain ⟨d0, d1, d2, f0, f1, f2⟩ := row3 hmq
          have hm6 := hide (box_set3 (x' := .int .i64 w) (y' := .int .i64 h) (z' := .int .i64 (withE O j)) hmq)
          have hB6 := hide ((((hB3.out.trans (pq.old.mono (by omega))).setCell (p := ⟨W.heap.size + 1 + 1, 0, none⟩) (Nat.le_refl _) (.int .i64 w)).setCell (p := ⟨W.heap.size + 1 + 1, 1, none⟩) (Nat.le_refl _) (.int .i64 h)).setCell (p := ⟨W.heap.size + 1 + 1, 2, none⟩) (Nat.le_refl _) (.int .i64 (withE O j)))
          clear hmq c0 c1 c2 p0 p1 p2
          go_wp2_with fail
          go_roundw
          case rel => exact ⟨k + 1, by omega, by go_num, by rw [HQ.out]; exact hm6.out, hB6.out⟩
          case measure => simp [intOf]; omega
    · obtain rfl : k = n := by omega
      have ht := (hBr.block (W.heap.size + 1) (by omega)).trans hT0.out
      obtain ⟨d0, d1, d2, f0, f1, f2⟩ := row3 ht
      clear c0 c1 c2
      obtain ⟨c0, c1, c2⟩ := boxIn_of_row hmr
      have hfin := hide (below3 (b := W.heap.size + 1) (.int .i64 w) (.int .i64 h) (.int .i64 (R k)) (hB0.out.trans (hBr.mono (by omega))) (by omega))
      clear hmr hxr ht hBr
      go_wp2_with fail
      refine bodyPost_ret (v := .agg #[.int .i64 w, .int .i64 h, .int .i64 (R k)]) (by simp [results, Try.results57, go_sem, d0, d1, d2]) rfl ⟨by rw [hRfin.out], hfin.out⟩

set_option maxRecDepth 100000 in
set_option maxHeartbeats 4000000 in
theorem reflected_2 (w h E : Int) (hb : okBox w h E = true) (W : World) :
    Calls Try.prog 57 #[.agg #[.int .i64 w, .int .i64 h, .int .i64 E], .int .i64 2] W (RetB (.agg #[.int .i64 h, .int .i64 w, .int .i64 (refl3 w h E 2)]) W) := by
  obtain ⟨h1, h2, h3, h4, _, _⟩ := okBox_parts hb
  obtain ⟨E1, E2⟩ := okBox_E hb
  obtain ⟨n, hn, hn24⟩ := edges_nat hb
  have hM : mw w h 2 = h := by unfold mw; simp <;> omega
  have hN : mh w h 2 = w := by unfold mh; simp <;> omega
  obtain ⟨R, hR⟩ : ∃ R, R = rflTo w h E 2 := ⟨_, rfl⟩
  have hRok : Hid (∀ k : Nat, k ≤ n → okBox h w (R k) = true) := hide (fun k hk => by
    have := rflTo_range (E := E) (kind := 2) (k := k) h1 h2 h3 h4 (by omega) (by omega) (by rw [hn]; omega)
    rw [hM, hN] at this
    rw [hR]
    exact this)
  have hRyes : Hid (∀ k : Nat, drawn E (k : Int) = true → R (k + 1) = withE (R k) (rfE w h 2 (k : Int))) := hide (fun k hd => by rw [hR, rflTo_succ, if_pos hd])
  have hRno : Hid (∀ k : Nat, drawn E (k : Int) = false → R (k + 1) = R k) := hide (fun k hd => by rw [hR, rflTo_succ, hd]; rfl)
  have hRfin : Hid (R n = refl3 w h E 2) := hide (by rw [hR]; unfold rflTo refl3; rw [hn]; rfl)
  have hR0 : Hid (R 0 = 0) := hide (by rw [hR]; rfl)
  have hpl : Hid (∀ k : Nat, k < n → _) := hide (fun k hk => plc_range (w := w) (h := h) (kind := 2) (e := k) h1 h2 h3 h4 (by omega) (by omega) (by rw [hn]; omega))
  have HM := hide (And.intro hM hN)
  have HNN := hide hn
  obtain ⟨W0, hW0⟩ : ∃ W0, W0 = ((W.alloc (.cells #[.int .i64 w, .int .i64 h, .int .i64 E] 25)).alloc (.cells #[.int .i64 0, .int .i64 0, .int .i64 0] 25)).alloc (.cells #[.int .i64 h, .int .i64 w, .int .i64 0] 25) := ⟨_, rfl⟩
  have hB0 : Hid (Below W.heap.size W W0) := by rw [hW0]; exact hide (((below_alloc _ _).alloc (by simp) _).alloc (by simp; omega) _)
  have hs0 : Hid (W0.heap.size = W.heap.size + 3) := by rw [hW0]; exact hide (by simp)
  have hrows := alloc3_rows W #[.int .i64 w, .int .i64 h, .int .i64 E] #[.int .i64 0, .int .i64 0, .int .i64 0] #[.int .i64 h, .int .i64 w, .int .i64 0] 25 25 25
  rw [← hW0] at hrows
  have hX0 := hide hrows.1
  have hT0 := hide hrows.2.1
  have hM0 := hide hrows.2.2
  clear hrows hR hM hN hn
  obtain ⟨c0, c1, c2⟩ := boxIn_of_row hX0.out
  go_enter Try.func57, Try.ntmps57
  go_wp2_with fail
  rw [← hW0]
  clear hW0
  go_wp2_with fail
  refine (edges_any w h E h1 h2 h3 h4 _).mono ?_
  rw [HNN.out]
  rintro e w1 ⟨rfl, hb1⟩
  have hm1 : Hid (w1.heap[W.heap.size + 1 + 1]? = some (.cells #[.int .i64 h, .int .i64 w, .int .i64 (R 0)] 25 (0, 0))) := hide (by rw [hR0.out]; exact box_keep hM0.out hb1)
  have hB1 : Hid (Below (W.heap.size + 1 + 1) W0 w1) := hide (hb1.mono (by rw [hs0.out]; omega))
  clear c0 c1 c2 hb1
  go_wp2_with fail
  go_loopw [22] (fun i wr => ∃ k : Nat, k ≤ n ∧ i = .int .i64 k ∧ wr.heap[W.heap.size + 1 + 1]? = some (.cells #[.int .i64 h, .int .i64 w, .int .i64 (R k)] 25 (0, 0)) ∧ Below (W.heap.size + 1 + 1) W0 wr) (fun i _ => n - (intOf i).toNat)
  case atStart => exact ⟨0, Nat.zero_le _, rfl, hm1.out, hB1.out⟩
  case round =>
    clear hm1 hB1
    obtain ⟨k, hk, rfl, hmr, hBr⟩ := hrel
    have hxr := (hBr.block W.heap.size (by omega)).trans hX0.out
    have HMR := hide hmr
    have hsr : W.heap.size + 1 + 1 < wr.heap.size := block_lt hmr
    obtain ⟨c0, c1, c2⟩ := boxIn_of_row hxr
    by_cases hlt : k < n
    · cases hdr : drawn E (k : Int)
      · have HQ := hide (hRno.out k hdr)
        have HD := hide hdr
        clear hdr hmr hxr
        go_wp2_with fail
        refine (isDrawn_any w h E k E1 E2 (by omega) (by omega) _).mono ?_
        rw [HD.out]
        rintro e w2 ⟨rfl, hb2⟩
        have hm2 := hide (box_keep HMR.out hb2)
        have hB2 := hide (hBr.trans (hb2.mono (by omega)))
        clear hb2 hBr c0 c1 c2
        go_wp2_with fail
        go_roundw
        case rel => exact ⟨k + 1, by omega, by go_num, by rw [HQ.out]; exact hm2.out, hB2.out⟩
        case measure => simp [intOf]; omega
      · obtain ⟨⟨q1, q2, q3, q4, q5, q6, q7, q8⟩, q9, q10⟩ := hpl.out k hlt
        obtain ⟨s, r, c, hp⟩ : ∃ s r c, plc w h (k : Int) = (s, r, c) := ⟨_, _, _, rfl⟩
        obtain ⟨s', r', c', hp'⟩ : ∃ s' r' c', rplc w h 2 (s, r, c) = (s', r', c') := ⟨_, _, _, rfl⟩
        obtain ⟨j, hj⟩ : ∃ j, j = rfE w h 2 (k : Int) := ⟨_, rfl⟩
        have hje : edgeNo h w s' r' c' = j := by rw [hj]; unfold rfE; rw [HM.out.1, HM.out.2, hp, hp']
        have hok := hRok.out k (by omega)
        obtain ⟨o1, o2⟩ := okBox_E hok
        have hnj := edges_nat hok
        rw [HM.out.1, HM.out.2, ← hj] at q10
        rw [← hj] at q9
        rw [hp, hp'] at q5 q6 q7 q8
        rw [hp] at q1 q2 q3 q4
        simp only at q1 q2 q3 q4 q5 q6 q7 q8
        have j24 : j < 24 := by obtain ⟨nj, hnj1, hnj2⟩ := hnj; omega
        have HQ := hide (hRyes.out k hdr)
        rw [← hj] at HQ
        obtain ⟨O, hO⟩ : ∃ O, O = R k := ⟨_, rfl⟩
        rw [← hO] at HQ HMR o1 o2
        have HD := hide hdr
        have HP := hide hp
        have HP' := hide hp'
        have HJE := hide hje
        clear hdr hmr hxr hp hp' hj hje hok hnj hO q10
        go_wp2_with fail
        refine (isDrawn_any w h E k E1 E2 (by omega) (by omega) _).mono ?_
        rw [HD.out]
        rintro e w2 ⟨rfl, hb2⟩
        have hm2 := hide (box_keep HMR.out hb2)
        have hB2 := hide (hBr.trans (hb2.mono (by omega)))
        have hs2 : W.heap.size + 1 + 1 < w2.heap.size := Nat.lt_of_lt_of_le hsr hb2.size
        have hX2 := BoxIn.keep ⟨c0, c1, c2⟩ hb2
        clear hb2 hBr c0 c1 c2 hsr
        obtain ⟨c0, c1, c2⟩ := hX2
        have hd2 : Below w2.heap.size w2 w2.drew := Below.drew (Below.refl _ _)
        go_upto_region 8 with fail
        go_cut [7] (fun s7 wx => ∃ nb : Nat, s7 = .pointer (some ⟨nb, 0, none⟩) ∧ wx.heap[nb]? = some (.cells #[.bool s', .int .i64 r', .int .i64 c'] 64 (0, 0)) ∧ Below w2.heap.size w2 wx)
        case first =>
          go_region_held3 (fun W' => W'.cell? ⟨W.heap.size, 0, none⟩ = some (.int .i64 w) ∧ W'.cell? ⟨W.heap.size, 1, none⟩ = some (.int .i64 h) ∧ W'.cell? ⟨W.heap.size, 2, none⟩ = some (.int .i64 E))
            ((refine ⟨cell_keep ?_ c0, cell_keep ?_ c1, cell_keep ?_ c2⟩ <;> (repeat (first | exact hd2 | exact Below.refl _ _ | refine Below.drew ?_ | refine Below.alloc' ?_ _ | (refine Below.trans' ?_ hb5) | (refine Below.trans' ?_ hb4) | (refine Below.setCell ?_ (by first | exact Nat.le_refl _ | (simp; omega)) _)))))
            (first | (go_at_call 65; (with_reducible refine (placeOf_is w h E k s r c h1 h2 h3 h4 (by omega) (by rw [HNN.out]; omega) HP.out _).mono ?_); rintro e1 w4 ⟨rfl, hb4⟩; (have hz4 : w2.heap.size ≤ w4.heap.size := by (have hq := hb4.size); (try simp at hq); omega); (try have hr4 : Hid (w4.heap[w2.heap.size]? = some (.cells #[.bool false, .int .i64 0, .int .i64 0] 64 (0, 0))) := hide (box_keep (w := (w2.alloc (.cells #[.bool false, .int .i64 0, .int .i64 0] 64)).drew) (heap_alloc_new w2 _) hb4))) | (go_at_call 64; (with_reducible refine (reflectedPlace_is w h E r c 2 s s' r' c' h1 h2 h3 h4 q1 q2 q3 q4 (by omega) (by omega) HP'.out _).mono ?_); rintro e1 w5 ⟨rfl, hb5⟩; (have hz5 : w2.heap.size ≤ w5.heap.size := by (have hq := hb5.size); (try simp at hq); omega); (first | have hr5 : Hid (w5.heap[w2.heap.size]? = some (.cells #[.bool false, .int .i64 0, .int .i64 0] 64 (0, 0))) := hide (box_keep hr4.out hb5) | have hr5 : Hid (w5.heap[w4.heap.size]? = some (.cells #[.bool false, .int .i64 0, .int .i64 0] 64 (0, 0))) := hide (box_keep (w := w4.alloc (.cells #[.bool false, .int .i64 0, .int .i64 0] 64)) (heap_alloc_new w4 _) hb5) | skip); (try have z0 := (row3 hr5.out).1); (try have z1 := (row3 hr5.out).2.1); (try have z2 := (row3 hr5.out).2.2.1); (try have f0 := (row3 hr5.out).2.2.2.1); (try have f1 := (row3 hr5.out).2.2.2.2.1); (try have f2 := (row3 hr5.out).2.2.2.2.2)))
          all_goals (go_wp2_with fail; go_meet; first | exact ⟨_, rfl, heap_alloc_new w5 _, (by repeat (first | exact hd2 | exact Below.refl _ _ | refine Below.drew ?_ | refine Below.alloc' ?_ _ | (refine Below.trans' ?_ hb5) | (refine Below.trans' ?_ hb4) | (refine Below.setCell ?_ (by first | exact Nat.le_refl _ | (simp; omega)) _)))⟩ | exact ⟨_, rfl, box_set3 hr5.out, (by repeat (first | exact hd2 | exact Below.refl _ _ | refine Below.drew ?_ | refine Below.alloc' ?_ _ | (refine Below.trans' ?_ hb5) | (refine Below.trans' ?_ hb4) | (refine Below.setCell ?_ (by first | exact Nat.le_refl _ | (simp; omega)) _)))⟩)
        case rest =>
          obtain ⟨nb, rfl, hpb, hBc⟩ := hcut
          have hmc := box_keep hm2.out hBc
          have hB3 := hide (hB2.out.trans (hBc.mono (by omega)))
          have hMC := hide hmc
          have hsc : W.heap.size + 1 + 1 < wc.heap.size := block_lt hmc
          clear c0 c1 c2 hd2
          obtain ⟨c0, c1, c2⟩ := (boxIn_of_row hmc).past
          obtain ⟨y0, y1, y2, _⟩ := row3 hpb
          have p0 : ∀ p : Past wc, p.to.cell? ⟨nb, 0, none⟩ = some (.bool s') := fun p => p.cell y0
          have p1 : ∀ p : Past wc, p.to.cell? ⟨nb, 1, none⟩ = some (.int .i64 r') := fun p => p.cell y1
          have p2 : ∀ p : Past wc, p.to.cell? ⟨nb, 2, none⟩ = some (.int .i64 c') := fun p => p.cell y2
          clear hmc hpb y0 y1 y2 hBc
          go_wp2_with fail
          refine wp_region_past_tail 5 (by kernel_rfl) (by kernel_rfl) ?_
          simp only [List.take_succ_cons, List.take_zero, List.drop_succ_cons, List.drop_zero]
          repeat (first | go_big_quiet_step ((first | (go_at_call 63; (with_reducible exact ret_past (edgeAt_is _ _ _ _ _ _ _ h3 h4 h1 h2 q5 q6 q7 q8 HJE.out _))) | (go_at_call 53; (with_reducible exact ret_past (withEdge_any _ _ _ _ o1 o2 q9 j24 _))))) | quiet_step ((first | (go_at_call 63; (with_reducible exact ret_past (edgeAt_is _ _ _ _ _ _ _ h3 h4 h1 h2 q5 q6 q7 q8 HJE.out _))) | (go_at_call 53; (with_reducible exact ret_past (withEdge_any _ _ _ _ o1 o2 q9 j24 _))))))
          refine wpQuiet_nil ?_
          rintro _ ⟨pq, rfl⟩
          have hmq := box_keep hMC.out pq.old
          obtain ⟨d0, d1, d2, f0, f1, f2⟩ := row3 hmq
          have hm6 := hide (box_set3 (x' := .int .i64 h) (y' := .int .i64 w) (z' := .int .i64 (withE O j)) hmq)
          have hB6 := hide ((((hB3.out.trans (pq.old.mono (by omega))).setCell (p := ⟨W.heap.size + 1 + 1, 0, none⟩) (Nat.le_refl _) (.int .i64 h)).setCell (p := ⟨W.heap.size + 1 + 1, 1, none⟩) (Nat.le_refl _) (.int .i64 w)).setCell (p := ⟨W.heap.size + 1 + 1, 2, none⟩) (Nat.le_refl _) (.int .i64 (withE O j)))
          clear hmq c0 c1 c2 p0 p1 p2
          go_wp2_with fail
          go_roundw
          case rel => exact ⟨k + 1, by omega, by go_num, by rw [HQ.out]; exact hm6.out, hB6.out⟩
          case measure => simp [intOf]; omega
    · obtain rfl : k = n := by omega
      have ht := (hBr.block (W.heap.size + 1) (by omega)).trans hT0.out
      obtain ⟨d0, d1, d2, f0, f1, f2⟩ := row3 ht
      clear c0 c1 c2
      obtain ⟨c0, c1, c2⟩ := boxIn_of_row hmr
      have hfin := hide (below3 (b := W.heap.size + 1) (.int .i64 h) (.int .i64 w) (.int .i64 (R k)) (hB0.out.trans (hBr.mono (by omega))) (by omega))
      clear hmr hxr ht hBr
      go_wp2_with fail
      refine bodyPost_ret (v := .agg #[.int .i64 h, .int .i64 w, .int .i64 (R k)]) (by simp [results, Try.results57, go_sem, d0, d1, d2]) rfl ⟨by rw [hRfin.out], hfin.out⟩

theorem reflected_any (w h E kind : Int) (hb : okBox w h E = true) (hk0 : 0 ≤ kind) (hk2 : kind ≤ 2) (W : World) :
    Calls Try.prog 57 #[.agg #[.int .i64 w, .int .i64 h, .int .i64 E], .int .i64 kind] W (RetB (.agg #[.int .i64 (mw w h kind), .int .i64 (mh w h kind), .int .i64 (refl3 w h E kind)]) W) := by
  by_cases e : kind = 2
  · subst e
    exact reflected_2 w h E hb W
  · have := reflected_01 w h E kind hb hk0 (by omega) W
    unfold mw mh
    rw [if_neg e, if_neg e]
    exact this
end Go.Proofs.Ytincdnlinepcgaa
