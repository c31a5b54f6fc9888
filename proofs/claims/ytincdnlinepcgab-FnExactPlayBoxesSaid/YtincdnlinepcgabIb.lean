/-
  Dots and boxes: best edges, the program's text.
-/
import Derived.Test.YtincdnlinepcgabOb
import Derived.Deep.DeepCutAuto
namespace Go.Proofs.Ytincdnlinepcgab
open Go.RowKit Go.Maps
set_option linter.unusedVariables false

set_option maxRecDepth 100000 in
set_option maxHeartbeats 8000000 in
theorem implBest_any (w h E : Int) (b N : Nat) (W : World) (hb : okBox w h E = true) (hn12 : nfree w h E ≤ 12) (hK : Knows W b N) (hN : N + nfree w h E * (2 * calls (nfree w h E)) ≤ 1000000000000) :
    Calls Try.prog 35 #[.agg #[.map (some b)], .agg #[.int .i64 w, .int .i64 h, .int .i64 E]] W fun e W' => NewLB b (bestL w h E) W e W' ∧ Knows W' b (N + nfree w h E * (2 * calls (nfree w h E))) := by
  obtain ⟨i0, hi0, hz0, hz1, hz2⟩ := info_parts Try.info2
  obtain ⟨W0, hW0⟩ : ∃ W0, W0 = (W.alloc (.cells #[.map (some b)] 57)).alloc (.cells #[.int .i64 w, .int .i64 h, .int .i64 E] 26) := ⟨_, rfl⟩
  have hbel : Below W.heap.size W W0 := by rw [hW0]; exact (below_alloc _ _).alloc (by simp) _
  have hs0 : Hid (W0.heap.size = W.heap.size + 2) := by rw [hW0]; exact hide (by simp)
  have hrows := alloc2_boxes W b w h E 57 26
  rw [← hW0] at hrows
  have hS0 := hide hrows.1
  have hX0 := hide hrows.2
  have hblt : b < W.heap.size := hK.lt
  have K0 := hide (hK.keep hbel)
  have hB0 := hide hbel
  have HB := hide hb
  obtain ⟨C, hC⟩ : ∃ C, C = calls (nfree w h E) := ⟨_, rfl⟩
  obtain ⟨n, hn⟩ : ∃ n, n = nfree w h E := ⟨_, rfl⟩
  obtain ⟨fr, hfr⟩ : ∃ fr, fr = freeE w h E := ⟨_, rfl⟩
  have hnl : Hid (n = fr.length) := hide (by rw [hn, hfr]; rfl)
  obtain ⟨L, hL⟩ : ∃ L, L = bestK w h E := ⟨_, rfl⟩
  rw [← hC, ← hn] at hN ⊢
  rw [← hn] at hn12
  have HC := hide hC
  have HNN := hide hn
  have HFR := hide hfr
  have HL := hide hL
  have HN := hide hN
  obtain ⟨c0, c1, c2⟩ := boxIn_of_row hX0.out
  have s0 : W0.cell? ⟨W.heap.size, 0, none⟩ = some (.map (some b)) := (cell_of_row _ _ 0 _ _ (0, 0) hS0.out).trans rfl
  clear hrows hbel hK hb hC hn hfr hL hN
  go_enter Try.func35, Try.ntmps35
  go_wp2_with fail
  rw [← hW0]
  clear hW0
  go_wp2_with fail
  refine (freeEdges_any w h E HB.out _).mono ?_
  rw [← HFR.out]
  rintro e w1 ⟨al, cl, rfl, hol, hb1⟩
  rw [← hnl.out]
  have hl1 := hide (intsAt_of_ownsRow hol)
  have hfar := hide (own_far hol (show b < W0.heap.size by rw [hs0.out]; omega))
  have hlt1 := hide (own_lt hol)
  have K1 := hide (K0.out.keep hb1)
  have hS1 := hide (box_keep hS0.out hb1)
  have hX1 := hide (box_keep hX0.out hb1)
  have hB1 := hide (Below.trans' hB0.out hb1)
  have hs1 : Hid (W.heap.size + 2 ≤ w1.heap.size) := hide (by have := hb1.size; have := hs0.out; omega)
  have hO1 : Hid (OwnB w1.heap.size b w1 w1 (.slice none 0 0) (L 0)) := hide (by rw [HL.out]; exact OwnB.nil (ButB.refl _ _ _) (Nat.le_refl _))
  clear hol hb1 c0 c1 c2 s0
  go_wp2_with fail
  go_loopg [5, 11] n (fun g v i wr => ∃ (j : Nat) (v0 : Value), v0 = v ∧ j + g = n ∧ i = .int .i64 j ∧ OwnB w1.heap.size b w1 wr v (L j) ∧ Knows wr b (N + j * (2 * C)))
  case atStart => exact ⟨0, _, rfl, by omega, rfl, hO1.out, by rw [Nat.zero_mul]; exact K1.out⟩
  case round =>
    clear hO1
    obtain ⟨j, v, rfl, hjg, rfl, hO, hKr⟩ := hrel
    have HO := hide hO
    have HKR := hide hKr
    cases gk with
    | zero =>
      obtain rfl : j = n := by omega
      have hfin := hide (hO.list (But.of_below hB1.out) hB1.out.size)
      have hLn : Hid (L j = bestL w h E) := hide (by rw [HL.out, HNN.out]; exact bestK_all w h E)
      clear hO hKr
      go_wp2_with fail
      go_ret
      rw [← hLn.out]
      exact ⟨hfin.out, HKR.out⟩
    | succ g =>
      have hjn : j < n := by omega
      obtain ⟨bl, off, e, rfl, hce, he⟩ := (hO.old.ints hl1.out (fun g off ha => ⟨hlt1.out g off ha, hfar.out g off ha⟩)).one (k := j) (by rw [← hnl.out]; exact hjn)
      have heF : e ∈ freeE w h E := by rw [← HFR.out]; exact List.mem_of_getElem? he.out
      have heG : (freeE w h E)[j]? = some e := by rw [← HFR.out]; exact he.out
      obtain ⟨gn, hg⟩ : ∃ gn, gn = gainW (net w h) w h E e := ⟨_, rfl⟩
      obtain ⟨nt, hnt⟩ : ∃ nt, nt = net w h E := ⟨_, rfl⟩
      have hyes : Hid ((gn == nt) = true → L (j + 1) = L j ++ [e]) := hide (fun hs => by rw [HL.out]; exact bestK_yes heG (by rw [← hg, ← hnt]; exact hs))
      have hnot : Hid ((gn == nt) = false → L (j + 1) = L j) := hide (fun hs => by rw [HL.out]; exact bestK_no heG (by rw [← hg, ← hnt]; exact hs))
      have hLle : (L j).length ≤ 24 := by rw [HL.out]; exact Nat.le_trans (bestK_le _ _ _ _) (by omega)
      have hcalc : Hid (N + j * (2 * C) + C + C ≤ 1000000000000 ∧ N + j * (2 * C) + C + C = N + (j + 1) * (2 * C)) := hide (by
        have h1 : (j + 1) * (2 * C) = j * (2 * C) + 2 * C := by rw [Nat.add_mul, Nat.one_mul]
        have h2 : (j + 1) * (2 * C) ≤ n * (2 * C) := Nat.mul_le_mul_right _ hjn
        have h3 := HN.out
        omega)
      obtain ⟨N', hN'⟩ : ∃ N', N' = N + j * (2 * C) := ⟨_, rfl⟩
      rw [← hN'] at hcalc HKR hKr
      have HN' := hide hN'
      have hbd := hO.old
      have hxr := hide (hO.old.row hX1.out (by have := hs1.out; omega) (by omega))
      have hsr := hide (hO.old.row hS1.out (by have := hs1.out; omega) (by omega))
      have hd6 : Below wr.heap.size wr wr.drew := Below.drew (Below.refl _ _)
      obtain ⟨c0, c1, c2⟩ := boxIn_of_row (box_keep hxr.out hd6)
      have s0 : wr.drew.cell? ⟨W.heap.size, 0, none⟩ = some (.map (some b)) := (cell_of_row _ _ 0 _ _ (0, 0) (box_keep hsr.out hd6)).trans rfl
      have KD := hide (hKr.keep hd6)
      have HBD : Hid (But b wr wr.drew) := hide (But.of_below hd6)
      have HGG := hide hg
      have HNT := hide hnt
      have HEF := hide heF
      have HCE := hide hce
      clear hg hnt heF heG he hO hKr hd6 hN' hbd
      go_upto_region 5 with fail
      clear hce
      go_cut [22] (fun s22 wx => s22 = .bool (gn == nt) ∧ Knows wx b (N' + C + C) ∧ But b wr wx)
      case first =>
        go_region_held3 (fun W' => W'.cell? ⟨W.heap.size, 0, none⟩ = some (.map (some b)) ∧ W'.cell? ⟨W.heap.size + 1, 0, none⟩ = some (.int .i64 w) ∧ W'.cell? ⟨W.heap.size + 1, 1, none⟩ = some (.int .i64 h) ∧ W'.cell? ⟨W.heap.size + 1, 2, none⟩ = some (.int .i64 E))
          (first | exact ⟨q3, q0, q1, q2⟩ | exact ⟨p3, p0, p1, p2⟩ | exact ⟨s0, c0, c1, c2⟩)
          (first | (go_at_call 56; refine (gainOf_any n w h E e b (N' + C) _ HB.out HEF.out (by rw [HNN.out]; omega) KP.out (by rw [HNN.out, ← HC.out]; exact hcalc.out.1)).mono ?_; rw [← HGG.out]; rintro e1 w4 ⟨rfl, hb4, hk4⟩; have q0 := hb4.cell p0 (show W.heap.size + 1 ≠ b by omega); have q1 := hb4.cell p1 (show W.heap.size + 1 ≠ b by omega); have q2 := hb4.cell p2 (show W.heap.size + 1 ≠ b by omega); have q3 := hb4.cell p3 (show W.heap.size ≠ b by omega); have HB4 := hide hb4; have KQ := hide hk4; clear hb4 hk4) | (go_at_call 56; refine (gainOf_any n w h E e b N' _ HB.out HEF.out (by rw [HNN.out]; omega) KD.out (by rw [HNN.out, ← HC.out]; have := hcalc.out.1; omega)).mono ?_; rw [← HGG.out]; rintro e1 w3 ⟨rfl, hb3, hk3⟩; have p0 := hb3.cell c0 (show W.heap.size + 1 ≠ b by omega); have p1 := hb3.cell c1 (show W.heap.size + 1 ≠ b by omega); have p2 := hb3.cell c2 (show W.heap.size + 1 ≠ b by omega); have p3 := hb3.cell s0 (show W.heap.size ≠ b by omega); have HB3 := hide hb3; rw [HNN.out, ← HC.out] at hk3; have KP := hide hk3; clear hb3 hk3) | (go_at_call 33; refine (netScore_any n w h E b (N' + C) _ HB.out (by rw [HNN.out]; omega) KP.out (by rw [HNN.out, ← HC.out]; exact hcalc.out.1)).mono ?_; rw [← HNT.out]; rintro e1 w4 ⟨rfl, hb4, hk4⟩; have q0 := hb4.cell p0 (show W.heap.size + 1 ≠ b by omega); have q1 := hb4.cell p1 (show W.heap.size + 1 ≠ b by omega); have q2 := hb4.cell p2 (show W.heap.size + 1 ≠ b by omega); have q3 := hb4.cell p3 (show W.heap.size ≠ b by omega); have HB4 := hide hb4; have KQ := hide hk4; clear hb4 hk4) | (go_at_call 33; refine (netScore_any n w h E b N' _ HB.out (by rw [HNN.out]; omega) KD.out (by rw [HNN.out, ← HC.out]; have := hcalc.out.1; omega)).mono ?_; rw [← HNT.out]; rintro e1 w3 ⟨rfl, hb3, hk3⟩; have p0 := hb3.cell c0 (show W.heap.size + 1 ≠ b by omega); have p1 := hb3.cell c1 (show W.heap.size + 1 ≠ b by omega); have p2 := hb3.cell c2 (show W.heap.size + 1 ≠ b by omega); have p3 := hb3.cell s0 (show W.heap.size ≠ b by omega); have HB3 := hide hb3; rw [HNN.out, ← HC.out] at hk3; have KP := hide hk3; clear hb3 hk3))
        all_goals (go_wp2_with fail; go_meet; exact ⟨rfl, by have := KQ.out; rw [HNN.out, ← HC.out] at this; exact this, (HBD.out.trans HB3.out).trans HB4.out⟩)
      case rest =>
        obtain ⟨rfl, hkc, hbc⟩ := hcut
        have hO2 := HO.out.keep (n := b) (by have := hs1.out; omega) hbc
        have hown2 := hO2.own
        have hsz2 := hO2.size
        have HO2 := hide hO2
        have HKC := hide hkc
        clear hO2 hkc hbc c0 c1 c2 s0
        cases hgn : gn == nt
        · have HLL := hide (hnot.out hgn)
          clear hgn hown2
          go_wp2_with fail
          go_roundg g
          case rel => exact ⟨j + 1, _, rfl, by omega, by go_num, by rw [HLL.out]; exact HO2.out, by rw [← hcalc.out.2]; exact HKC.out⟩
          case measure => omega
        · have HLL := hide (hyes.out hgn)
          clear hgn
          go_wp2_with (at_builtin; refine wpList_append_own _ rfl _ _ 29 rfl (w1.heap.size) 2 i0 (.int .i64 0) 1 8 Try.underlying29 hi0 hz0 hz1 hz2 rfl (by decide) _ _ _ rfl (hown2.alloc _) ⟨wc.heap.size, 0, none⟩ 1 1 [.int .i64 e] rfl rfl (cell_one_new _ _ _) (by simp [Value.oneCell']) (by unfold maxLen; omega) (by omega) (by simp; omega) ?_)
          intro v' w7 hown' hgrow _
          have hO7 := hide (HO2.out.snoc (by simpa using hown') hgrow)
          have hK7 := hide ((HKC.out.keep (below_alloc wc (.cells #[.int .i64 e] 2))).block (hgrow.block b (by have := HKC.out.lt; simp; omega) (by
            intro hbe
            rcases hown2.2 with ⟨hv, _⟩ | ⟨g', cap, cur, hv, hgg, _⟩
            · rw [hv] at hbe; simp [Value.ownBlock] at hbe
            · rw [hv] at hbe; simp [Value.ownBlock] at hbe; have := hs1.out; omega)))
          clear hown' hgrow hown2
          go_wp2_with fail
          go_roundg g
          case rel => exact ⟨j + 1, _, rfl, by omega, by go_num, by rw [HLL.out]; exact hO7.out, by rw [← hcalc.out.2]; exact hK7.out⟩
          case measure => omega
end Go.Proofs.Ytincdnlinepcgab
