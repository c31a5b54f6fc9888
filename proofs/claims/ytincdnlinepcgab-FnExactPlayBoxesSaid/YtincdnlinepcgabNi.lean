/-
  Dots and boxes: net scores, the program's text.
-/
import Derived.Test.YtincdnlinepcgabKy
namespace Go.Proofs.Ytincdnlinepcgab
open Go.RowKit Go.Maps
set_option linter.unusedVariables false

theorem alloc2_boxes (W : World) (b : Nat) (w h E : Int) (s t : TypeId) : ((W.alloc (.cells #[.map (some b)] s)).alloc (.cells #[.int .i64 w, .int .i64 h, .int .i64 E] t)).heap[W.heap.size]? = some (.cells #[.map (some b)] s (0, 0)) ∧ ((W.alloc (.cells #[.map (some b)] s)).alloc (.cells #[.int .i64 w, .int .i64 h, .int .i64 E] t)).heap[W.heap.size + 1]? = some (.cells #[.int .i64 w, .int .i64 h, .int .i64 E] t (0, 0)) := by
  refine ⟨?_, ?_⟩
  · rw [Below.heap_alloc _ _ _ (by simp)]
    exact heap_alloc_new W _
  · have := heap_alloc_new (W.alloc (.cells #[.map (some b)] s)) (.cells #[.int .i64 w, .int .i64 h, .int .i64 E] t (0, 0))
    simpa using this
theorem boxIn_of_row {W : World} {b : Nat} {w h E : Int} {t : TypeId} (hr : W.heap[b]? = some (.cells #[.int .i64 w, .int .i64 h, .int .i64 E] t (0, 0))) : BoxIn W b w h E :=
  ⟨(cell_of_row _ _ 0 _ _ (0, 0) hr).trans rfl, (cell_of_row _ _ 1 _ _ (0, 0) hr).trans rfl, (cell_of_row _ _ 2 _ _ (0, 0) hr).trans rfl⟩
theorem box_keep {w w' : World} {b : Nat} {o : Obj} (h : w.heap[b]? = some o) (hB : Below w.heap.size w w') : w'.heap[b]? = some o := (hB.block b (block_lt h)).trans h

set_option maxRecDepth 100000 in
set_option maxHeartbeats 4000000 in
theorem net_walk (c : Nat) (w h E : Int) (b N : Nat) (W : World) (hb : okBox w h E = true) (hK : Knows W b N) (hN : N + 1 + nfree w h E * c ≤ 1000000000000)
    (hG : ∀ (e : Int) (N' : Nat) (W' : World), e ∈ freeE w h E → Knows W' b N' → N' + c ≤ 1000000000000 → Calls Try.prog 56 #[.agg #[.map (some b)], .agg #[.int .i64 w, .int .i64 h, .int .i64 E], .int .i64 e] W' (NetPost b (N' + c) (gainW (net w h) w h E e) W')) :
    Calls Try.prog 33 #[.agg #[.map (some b)], .agg #[.int .i64 w, .int .i64 h, .int .i64 E]] W (NetPost b (N + 1 + nfree w h E * c) (net w h E) W) := by
  obtain ⟨h1, h2, h3, h4, _, _⟩ := okBox_parts hb
  obtain ⟨f1, f2, f3⟩ := okBox_wf hb
  obtain ⟨kl, hkl⟩ := box_key w h E f1 f2 f3
  obtain ⟨W0, hW0⟩ : ∃ W0, W0 = (W.alloc (.cells #[.map (some b)] 57)).alloc (.cells #[.int .i64 w, .int .i64 h, .int .i64 E] 26) := ⟨_, rfl⟩
  have hbel : Below W.heap.size W W0 := by rw [hW0]; exact (below_alloc _ _).alloc (by simp) _
  have hs0 : Hid (W0.heap.size = W.heap.size + 2) := by rw [hW0]; exact hide (by simp)
  have hrows := alloc2_boxes W b w h E 57 26
  rw [← hW0] at hrows
  have hS0 := hide hrows.1
  have hX0 := hide hrows.2
  have hblt : b < W.heap.size := hK.lt
  obtain ⟨D, hown, hD⟩ := hK.keep hbel
  have HD := hide hD
  have HKL := hide hkl
  have hB0 := hide hbel
  have HG := hide hG
  have HB := hide hb
  have HN := hide hN
  have howl := hown
  rw [hW0] at howl
  obtain ⟨c0, c1, c2⟩ := boxIn_of_row hX0.out
  have s0 : W0.cell? ⟨W.heap.size, 0, none⟩ = some (.map (some b)) := (cell_of_row _ _ 0 _ _ (0, 0) hS0.out).trans rfl
  clear hrows hD hbel hG hb hN hK hkl
  cases hh : has D kl
  · have HH := hide hh
    clear hh
    go_enter Try.func33, Try.ntmps33
    go_wp2_with (at_lookup; refine wpList_lookup_own_ok_int _ rfl _ _ 55 rfl 26 2 .i64 boxKeyed Try.underlying55 Try.underlying2 (zeroE _) b N D rfl howl _ kl rfl HKL.out ?_; intro cc hat hwc; rw [HH.out])
    rw [← hW0]
    clear hW0 howl
    clear hat hwc
    have K0 : Hid (Knows W0 b N) := hide ⟨D, hown, HD.out⟩
    obtain ⟨n, hn⟩ : ∃ n, n = nfree w h E := ⟨_, rfl⟩
    obtain ⟨fr, hfr⟩ : ∃ fr, fr = freeE w h E := ⟨_, rfl⟩
    have hnl : Hid (n = fr.length) := hide (by rw [hn, hfr]; rfl)
    have hn24 : n ≤ 24 := by rw [hn]; exact freeE_le HB.out
    obtain ⟨S, hS⟩ : ∃ S, S = scTo w h E := ⟨_, rfl⟩
    have HSb : Hid (∀ j, -9 ≤ S j ∧ S j ≤ 9) := hide (by rw [hS]; exact scTo_bd HB.out)
    have HSs : Hid (∀ (j : Nat) (e : Int), fr[j]? = some e → S (j + 1) = if j = 0 then gainW (net w h) w h E e else max (S j) (gainW (net w h) w h E e)) := hide (by rw [hS, hfr]; exact fun j e he => scTo_succ he)
    have HSa : Hid (S n = net w h E) := hide (by rw [hS, hn]; exact scTo_all HB.out)
    have HS0 : Hid (S 0 = 0) := hide (by rw [hS]; rfl)
    have HFR := hide hfr
    have HNN := hide hn
    clear hn hfr hS hown
    refine (freeEdges_any w h E HB.out _).mono ?_
    rw [← HFR.out]
    rintro e w1 ⟨al, cl, rfl, hol, hb1⟩
    rw [← hnl.out]
    have hl1 := hide (intsAt_of_ownsRow hol)
    have hfar := hide (own_far hol (show b < W0.heap.size by rw [hs0.out]; omega))
    have K1 := hide (K0.out.keep hb1)
    have hS1 := hide (box_keep hS0.out hb1)
    have hX1 := hide (box_keep hX0.out hb1)
    have hB1 := hide (Below.trans' hB0.out hb1)
    clear hol hb1 c0 c1 c2 s0
    go_wp2_with fail
    go_loopw [7, 23] (fun s i wr => ∃ j : Nat, j ≤ n ∧ i = .int .i64 j ∧ s = .int .i64 (S j) ∧ Knows wr b (N + j * c) ∧ But b w1 wr) (fun _ i _ => n - (intOf i).toNat)
    case atStart => exact ⟨0, Nat.zero_le _, rfl, by rw [HS0.out], by rw [Nat.zero_mul]; exact K1.out, But.refl _ _⟩
    case round =>
      obtain ⟨j, hj, rfl, rfl, hKr, hBr⟩ := hrel
      have hxr := hBr.row hX1.out (by omega)
      have hsr := hBr.row hS1.out (by omega)
      obtain ⟨c0, c1, c2⟩ := boxIn_of_row hxr
      have s0 : wr.cell? ⟨W.heap.size, 0, none⟩ = some (.map (some b)) := (cell_of_row _ _ 0 _ _ (0, 0) hsr).trans rfl
      obtain ⟨sb1, sb2⟩ := HSb.out j
      have HKR := hide hKr
      have HBR := hide hBr
      clear hxr hsr
      by_cases hlt : j < n
      · obtain ⟨bl, off, e, rfl, hce, he⟩ := (hBr.ints hl1.out hfar.out).one (k := j) (by rw [← hnl.out]; exact hlt)
        have heF : e ∈ freeE w h E := by rw [← HFR.out]; exact List.mem_of_getElem? he.out
        obtain ⟨g, hg⟩ : ∃ g, g = gainW (net w h) w h E e := ⟨_, rfl⟩
        obtain ⟨gb1, gb2⟩ := gain_bd9 HB.out heF
        rw [← hg] at gb1 gb2
        have hst := HSs.out j e he.out
        rw [← hg] at hst
        have hcalc : Hid (N + j * c + c ≤ 1000000000000 ∧ N + j * c + c = N + (j + 1) * c) := hide (by
          have h1 : (j + 1) * c = j * c + c := by rw [Nat.add_mul, Nat.one_mul]
          have h2 : (j + 1) * c ≤ n * c := Nat.mul_le_mul_right _ hlt
          have h3 := HN.out
          rw [← HNN.out] at h3
          omega)
        have HGG := hide hg
        have HST := hide hst
        have HEF := hide heF
        clear hg hst heF hKr hBr
        by_cases hj0 : j = 0
        · have hj1 : ((j : Int) == 0) = true := by simp [hj0]
          have hnew : Hid (S (j + 1) = g) := hide (by rw [HST.out, if_pos hj0])
          have HJ := hide hj0
          clear hj0
          go_wp2_with fail
          refine (HG.out e _ _ HEF.out HKR.out hcalc.out.1).mono ?_
          rw [← HGG.out]
          rintro e1 w2 ⟨rfl, hb2, hk2⟩
          have hB2 := hide (HBR.out.trans hb2)
          have hK2 := hide hk2
          clear hb2 hk2 c0 c1 c2 s0 hce
          go_wp2_with fail
          go_roundw
          case rel => exact ⟨j + 1, by omega, by go_num, by rw [hnew.out], by rw [← hcalc.out.2]; exact hK2.out, hB2.out⟩
          case measure => simp [intOf]; omega
        · have hj1 : ((j : Int) == 0) = false := by simp; omega
          by_cases hgs : S j < g
          · have hgd : decide (S j < g) = true := decide_eq_true hgs
            have hnew : Hid (S (j + 1) = g) := hide (by rw [HST.out, if_neg hj0]; omega)
            have HJ := hide hj0
            clear hj0
            go_wp2_with fail
            refine (HG.out e _ _ HEF.out HKR.out hcalc.out.1).mono ?_
            rw [← HGG.out]
            rintro e1 w2 ⟨rfl, hb2, hk2⟩
            have hB2 := hide (HBR.out.trans hb2)
            have hK2 := hide hk2
            clear hb2 hk2 c0 c1 c2 s0 hce
            go_wp2_with fail
            go_roundw
            case rel => exact ⟨j + 1, by omega, by go_num, by rw [hnew.out], by rw [← hcalc.out.2]; exact hK2.out, hB2.out⟩
            case measure => simp [intOf]; omega
          · have hgd : decide (S j < g) = false := decide_eq_false hgs
            have hnew : Hid (S (j + 1) = S j) := hide (by rw [HST.out, if_neg hj0]; omega)
            have HJ := hide hj0
            clear hj0
            go_wp2_with fail
            refine (HG.out e _ _ HEF.out HKR.out hcalc.out.1).mono ?_
            rw [← HGG.out]
            rintro e1 w2 ⟨rfl, hb2, hk2⟩
            have hB2 := hide (HBR.out.trans hb2)
            have hK2 := hide hk2
            clear hb2 hk2 c0 c1 c2 s0 hce
            go_wp2_with fail
            go_roundw
            case rel => exact ⟨j + 1, by omega, by go_num, by rw [hnew.out], by rw [← hcalc.out.2]; exact hK2.out, hB2.out⟩
            case measure => simp [intOf]; omega
      · obtain rfl : j = n := by omega
        obtain ⟨D', hown', hD'⟩ := HKR.out
        have hmap : IsMap D' := by obtain ⟨es, _, _, _, _, hd⟩ := hown'; exact ⟨_, hd⟩
        have HD' := hide hD'
        have HMAP := hide hmap
        have hwf : (Lit.int .i64 (S j)).wf = true := WalkArith.wf_i64 (by omega)
        have hnm : N + j * c < maxLen := by have := HN.out; rw [← HNN.out] at this; unfold maxLen; omega
        have HT : Hid (N + j * c + 1 ≤ N + 1 + nfree w h E * c) := hide (by rw [← HNN.out]; omega)
        clear hKr hBr hD' hmap
        go_wp2_with (at_mapUpdate; refine wpList_mapUpdate_own _ rfl _ _ _ 55 rfl 26 2 boxKeyed Try.underlying55 (plainElem Try.prog 2) b (N + j * c) D' rfl hown' hnm _ _ kl rfl rfl HKL.out (.lit (.int .i64 (S j))) [] (plainElem_int Try.underlying2 hwf) ?_; intro w2 hown2 hgrow2)
        have hfin : Hid (NetPost b (N + 1 + nfree w h E * c) (net w h E) W (.returned (.int .i64 (S j))) w2) := hide ⟨by rw [HSa.out], ((But.of_below hB1.out).trans HBR.out).trans (But.of_grown hgrow2), by rw [HSa.out] at hown2; exact Knows.put HD'.out HMAP.out HKL.out hown2 HT.out⟩
        clear hown2 hgrow2 c0 c1 c2 s0
        go_wp2_with fail
        go_ret
        exact hfin.out
  · have HH := hide hh
    clear hh
    go_enter Try.func33, Try.ntmps33
    go_wp2_with (at_lookup; refine wpList_lookup_own_ok_int _ rfl _ _ 55 rfl 26 2 .i64 boxKeyed Try.underlying55 Try.underlying2 (zeroE _) b N D rfl howl _ kl rfl HKL.out ?_; intro cc hat hwc; rw [HH.out])
    rw [← hW0]
    clear hW0 howl
    have hcc : Hid (cc = net w h E) := hide (by
      have h1 := HD.out w h E kl HB.out HKL.out HH.out (.lit (.int .i64 0))
      rw [hat] at h1
      simpa using h1)
    have hfin : Hid (NetPost b (N + 1 + nfree w h E * c) (net w h E) W (.returned (.int .i64 cc)) W0) := hide ⟨by rw [hcc.out], But.of_below hB0.out, (show Knows W0 b N from ⟨D, hown, HD.out⟩).mono (by omega)⟩
    clear hat hwc hown
    go_wp2_with fail
    go_ret
    exact hfin.out
end Go.Proofs.Ytincdnlinepcgab
