/-
  l01Sum: the model's text against the plain function.
-/
import Derived.Test.YtlgogpphlnogoaaSumI
import Derived.Test.YtlgogpphlnogoaaPut
namespace Go.Proofs.Ytlgogpphlnogoaa
open Go.RowKit

theorem game_row_asc {xss : List (List Int)} (h : isGameB xss = true) {i : Nat} {zs : List Int} (hi : xss[i]? = some zs) : zs.Pairwise (· < ·) := by
  have hl := game_len h
  rw [isGameB_in hl.1 hl.2] at h
  exact ascB_pairwise (rowsB_get h hi)
theorem Under.keep {w w' : World} {lo Ob n : Nat} {xss : List (List Int)} (h : Under w lo Ob xss n) (hb : Below w.heap.size w w') : Under w' lo Ob xss n := by
  obtain ⟨a, c, vs, h1, h2, h3, h4⟩ := h
  exact ⟨a, c, vs, (hb.block Ob (block_lt h1)).trans h1, h2, ownsRow_keep h3 hb, h4.keep hb⟩

set_option maxRecDepth 100000 in
set_option maxHeartbeats 4000000 in
theorem l01Sum_any (a b : Option Addr) (c d : Nat) (xss yss : List (List Int)) (w : World) (ha : RowsAt w a xss) (_hs : Small xss) (hb : RowsAt w b yss) (_ht : Small yss) (hgx0 : isGameB xss = true) (hgy0 : isGameB yss = true) (hbig : xss.length * yss.length ≤ 40) :
    Calls Try.prog 61 #[.agg #[.slice a xss.length c], .agg #[.slice b yss.length d]] w (NewRows (sumRows xss yss (yss.length * xss.length)) w) := by
  obtain ⟨i0, hi0, hz0, hz1, hz2⟩ := info_parts Try.info2
  obtain ⟨i1, hi1, hy0, hy1, hy2⟩ := info_parts Try.info26
  have HG := hide hgx0
  have HH := hide hgy0
  have HBIG := hide hbig
  have hnl := game_len hgx0
  have hml := game_len hgy0
  obtain ⟨W0, hW0⟩ : ∃ W0, W0 = ((w.alloc (.cells #[.slice a xss.length c] 29)).alloc (.cells #[.slice b yss.length d] 29)).alloc (.cells #[.slice none 0 0] 29) := ⟨_, rfl⟩
  have hB0 : Below w.heap.size w W0 := by rw [hW0]; exact (((Below.refl _ _).alloc (Nat.le_refl _) _).alloc (by simp) _).alloc (by simp; omega) _
  have hX0 : W0.heap[w.heap.size]? = some (.cells #[.slice a xss.length c] 29 (0, 0)) := by
    rw [hW0, Below.heap_alloc _ _ _ (by simp; omega), Below.heap_alloc _ _ _ (by simp)]
    exact heap_alloc_new w _
  have hY0 : W0.heap[w.heap.size + 1]? = some (.cells #[.slice b yss.length d] 29 (0, 0)) := by
    rw [hW0, Below.heap_alloc _ _ _ (by simp)]
    have := heap_alloc_new (w.alloc (.cells #[.slice a xss.length c] 29)) (.cells #[.slice b yss.length d] 29 (0, 0))
    simpa using this
  have hR0 : W0.heap[w.heap.size + 1 + 1]? = some (.cells #[.slice none 0 0] 29 (0, 0)) := by
    rw [hW0]
    have := heap_alloc_new ((w.alloc (.cells #[.slice a xss.length c] 29)).alloc (.cells #[.slice b yss.length d] 29)) (.cells #[.slice none 0 0] 29 (0, 0))
    simpa using this
  have hcx0 : W0.cell? ⟨w.heap.size, 0, none⟩ = some (.slice a xss.length c) := (cell_of_row W0 w.heap.size 0 _ _ (0, 0) hX0).trans rfl
  have hcy0 : W0.cell? ⟨w.heap.size + 1, 0, none⟩ = some (.slice b yss.length d) := (cell_of_row W0 (w.heap.size + 1) 0 _ _ (0, 0) hY0).trans rfl
  have hsz0 : w.heap.size + 1 + 1 < W0.heap.size := block_lt hR0
  have HR0 := hide hR0
  clear hX0 hY0 hR0 hgx0 hgy0 hbig
  go_enter Try.func61, Try.ntmps61
  rw [hW0] at hcx0 hcy0
  go_wp2_with fail
  rw [← hW0] at hcx0 hcy0 ⊢
  clear hW0
  refine (l01N_any _ _ _ _).mono ?_
  rintro e w1 ⟨rfl, hB1⟩
  have hBw1 := Below.trans' hB0 hB1
  have hs1 : w.heap.size + 1 + 1 < w1.heap.size := Nat.lt_of_lt_of_le hsz0 hB1.size
  have hcx1 := cell_keep hB1 hcx0
  have hcy1 := cell_keep hB1 hcy0
  have hR1 := hide ((hB1.block _ hsz0).trans HR0.out)
  clear hcx0 hcy0 hB0 hB1
  go_wp2_with fail
  have hBl : Below w1.heap.size w1 ((w1.alloc (.cells #[] 26)).alloc (.cells #[.slice (some ⟨w1.heap.size, 0, none⟩) 0 0] 29)) := ((Below.refl _ _).alloc (Nat.le_refl _) _).alloc (by simp) _
  have hE3 : ((w1.alloc (.cells #[] 26)).alloc (.cells #[.slice (some ⟨w1.heap.size, 0, none⟩) 0 0] 29)).heap[w1.heap.size]? = some (.cells #[] 26 (0, 0)) := by
    rw [Below.heap_alloc _ _ _ (by simp)]
    exact heap_alloc_new w1 _
  have hO3 : ((w1.alloc (.cells #[] 26)).alloc (.cells #[.slice (some ⟨w1.heap.size, 0, none⟩) 0 0] 29)).heap[w1.heap.size + 1]? = some (.cells #[.slice (some ⟨w1.heap.size, 0, none⟩) 0 0] 29 (0, 0)) := by
    have := heap_alloc_new (w1.alloc (.cells #[] 26)) (.cells #[.slice (some ⟨w1.heap.size, 0, none⟩) 0 0] 29 (0, 0))
    simpa using this
  obtain ⟨W3, hW3⟩ : ∃ W3, W3 = (w1.alloc (.cells #[] 26)).alloc (.cells #[.slice (some ⟨w1.heap.size, 0, none⟩) 0 0] 29) := ⟨_, rfl⟩
  rw [← hW3] at hBl hE3 hO3 ⊢
  obtain ⟨rows, hrows⟩ : ∃ rows, rows = sumRows xss yss (yss.length * xss.length) := ⟨_, rfl⟩
  have HROWS := hide hrows
  have hU3 : Hid (Under W3 w1.heap.size (w1.heap.size + 1) rows (yss.length * 0)) := hide ⟨_, 0, [], hO3, rfl, ⟨rfl, .inr ⟨w1.heap.size, 0, #[], rfl, Nat.le_refl _, hE3, Nat.le_refl _, Nat.zero_le _, rfl, rfl⟩⟩, fun _ _ h => absurd h (by omega)⟩
  have hD3 := hide (Below.refl w1.heap.size W3)
  have hs3 : w1.heap.size + 1 < W3.heap.size := block_lt hO3
  have hcx3 := cell_keep hBl hcx1
  have hcy3 := cell_keep hBl hcy1
  have hR3 := hide ((hBl.block _ hs1).trans hR1.out)
  have hBw3 := Below.trans' hBw1 hBl
  rw [← hrows]
  clear hW3 hE3 hO3 hcx1 hcy1 hR1 hBw1 hBl hrows
  go_loopw [7] (fun x wr => ∃ i : Nat, i ≤ xss.length ∧ x = .int .i64 i ∧ Under wr w1.heap.size (w1.heap.size + 1) rows (yss.length * i) ∧ Below w1.heap.size W3 wr) (fun x _ => xss.length - (intOf x).toNat)
  case atStart => exact ⟨0, Nat.zero_le _, rfl, hU3.out, hD3.out⟩
  case round =>
    clear hU3 hD3
    obtain ⟨i, hi, rfl, hU, hD⟩ := hrel
    obtain ⟨wo, rfl⟩ : ∃ wo : World, wo = wr := ⟨_, rfl⟩
    have hcxo := (hD.cell (p := ⟨w.heap.size, 0, none⟩) (by show w.heap.size < w1.heap.size; omega)).trans hcx3
    have hcyo := (hD.cell (p := ⟨w.heap.size + 1, 0, none⟩) (by show w.heap.size + 1 < w1.heap.size; omega)).trans hcy3
    have hU' := hide hU
    have hD' := hide hD
    clear hU hD
    go_wp2_with fail
    refine (l01N_any _ _ _ _).mono ?_
    rintro e w4 ⟨rfl, hB4⟩
    have hU4 := hU'.out.keep hB4
    have hsz34 : w1.heap.size ≤ wo.heap.size := Nat.le_trans (by omega) hD'.out.size
    have hD4 := hD'.out.trans (hB4.mono hsz34)
    have hcx4 := cell_keep hB4 hcxo
    have hcy4 := cell_keep hB4 hcyo
    clear hcxo hcyo hU' hD' hB4
    by_cases hilt : i < xss.length
    · have hltn : decide (i < xss.length) = true := decide_eq_true hilt
      obtain ⟨hmi1, hmi0⟩ := mulm (m := yss.length) (i := i) hml.2 (by omega)
      obtain ⟨bx, ox, ai, ci, gi, rfl, hcellx0, hzx, hgx⟩ := ha.one hilt
      have hgA := hide (show rowA xss i = gi by unfold rowA; rw [hgx.out]; rfl)
      have hgl := game_row_len HG.out hgx.out
      have hgr := hide (game_row HG.out hgx.out)
      have hga := hide (game_row_asc HG.out hgx.out)
      have hU4' := hide hU4
      have hD4' := hide hD4
      clear hU4 hD4
      go_wp2_with fail
      go_loopw [8] (fun x wr => ∃ j : Nat, j ≤ yss.length ∧ x = .int .i64 j ∧ Under wr w1.heap.size (w1.heap.size + 1) rows (yss.length * i + j) ∧ Below w1.heap.size W3 wr) (fun x _ => yss.length - (intOf x).toNat)
      case atStart => exact ⟨0, Nat.zero_le _, rfl, hU4'.out, hD4'.out⟩
      case round =>
        clear hU4' hD4' hcx4 hcy4
        obtain ⟨j, hj, rfl, hU, hD⟩ := hrel
        obtain ⟨wp, rfl⟩ : ∃ wp : World, wp = wr := ⟨_, rfl⟩
        by_cases hjlt : j < yss.length
        · have hltm : decide (j < yss.length) = true := decide_eq_true hjlt
          have hBp := hBw3.trans (hD.mono (by omega))
          obtain ⟨by', oy, aj, cj, hjr, rfl, hcelly0, hzy, hgy⟩ := hb.one hjlt
          have hgB := hide (show rowA yss j = hjr by unfold rowA; rw [hgy.out]; rfl)
          have hjl := game_row_len HH.out hgy.out
          have hjg := hide (game_row HH.out hgy.out)
          have hja := hide (game_row_asc HH.out hgy.out)
          have hcxp := (hD.cell (p := ⟨w.heap.size, 0, none⟩) (by show w.heap.size < w1.heap.size; omega)).trans hcx3
          have hcyp := (hD.cell (p := ⟨w.heap.size + 1, 0, none⟩) (by show w.heap.size + 1 < w1.heap.size; omega)).trans hcy3
          have hcellyp := cell_keep hBp hcelly0
          have hcellxp := cell_keep hBp hcellx0
          have hszp : w1.heap.size + 1 < wp.heap.size := Nat.lt_of_lt_of_le hs3 hD.size
          have hOWN0 : Hid ((wp.alloc (.cells #[] 2)).ownsRow wp.heap.size 2 1 (.slice (some ⟨wp.heap.size, 0, none⟩) 0 0) 0 []) := hide ⟨rfl, .inr ⟨wp.heap.size, 0, #[], rfl, Nat.le_refl _, heap_alloc_new wp _, Nat.le_refl _, Nat.zero_le _, rfl, rfl⟩⟩
          have hBL0 : Hid (Below wp.heap.size wp (wp.alloc (.cells #[] 2))) := hide ((Below.refl _ _).alloc (Nat.le_refl _) _)
          have hcxl := cell_keep hBL0.out hcxp
          have hcyl := cell_keep hBL0.out hcyp
          have hcellyl := cell_keep hBL0.out hcellyp
          have hUP := hide hU
          have hDP := hide hD
          clear hU hD
          go_wp2_with fail
          go_loopw [9, 10] (fun v x wr => ∃ (p g c : Nat), p ≤ hjr.length ∧ x = .int .i64 p ∧ v = .slice (some ⟨g, 0, none⟩) ((hjr.take p).map fun t => (yss.length : Int) * (i : Int) + t).length c ∧ wr.ownsRow wp.heap.size 2 1 (.slice (some ⟨g, 0, none⟩) ((hjr.take p).map fun t => (yss.length : Int) * (i : Int) + t).length c) ((hjr.take p).map fun t => (yss.length : Int) * (i : Int) + t).length (((hjr.take p).map fun t => (yss.length : Int) * (i : Int) + t).map intV) ∧ Below wp.heap.size wp wr) (fun _ x _ => hjr.length - (intOf x).toNat)
          case atStart => exact ⟨0, wp.heap.size, 0, Nat.zero_le _, rfl, by simp, by simpa using hOWN0.out, hBL0.out⟩
          case round =>
            clear hOWN0 hBL0 hcxl hcyl hcellyl
            obtain ⟨p, g, c9, hp, rfl, rfl, hown, hBq⟩ := hrel
            have hcxr := cell_keep hBq hcxp
            have hcyr := cell_keep hBq hcyp
            have hcellyr := cell_keep hBq hcellyp
            have hBr := Below.trans' hBp hBq
            obtain ⟨hcap, hcapm⟩ := own_cap hown
            obtain ⟨zl, hzl⟩ : ∃ zl, zl = (hjr.take p).map fun t => (yss.length : Int) * (i : Int) + t := ⟨_, rfl⟩
            have hzll : zl.length ≤ 40 := by rw [hzl, List.length_map, List.length_take]; omega
            rw [← hzl] at hown hcap ⊢
            have HZL := hide hzl
            clear hzl
            by_cases hplt : p < hjr.length
            · obtain ⟨bz, oz, t, rfl, hct, htj⟩ := (hzy.keep hBr).one hplt
              have htr := hjg.out t (mem_of_get htj.out)
              have hE : Hid ((hjr.take (p + 1)).map (fun t => (yss.length : Int) * (i : Int) + t) = zl ++ [(yss.length : Int) * (i : Int) + t]) := by
                refine hide ?_
                rw [List.take_add_one, htj.out, HZL.out]
                simp
              have hlt : ∀ z ∈ zl, z < (yss.length : Int) * (i : Int) + t := by
                intro z hz
                rw [HZL.out] at hz
                simp only [List.mem_map] at hz
                obtain ⟨t', ht', rfl⟩ := hz
                have := take_lt hja.out htj.out t' ht'
                omega
              have hcall := hide (l01Put_any g c9 zl ((yss.length : Int) * (i : Int) + t) wr (intsAt_of_ownsRow hown) hcap hcapm (by omega) hlt)
              have hBQ := hide hBq
              have hszq := hBq.size
              clear hown hBq hlt hcapm
              go_wp2_with fail
              refine hcall.out.mono ?_
              rintro e w5 ⟨g5, c5, rfl, ho5, hB5⟩
              have hN : Hid (w5.ownsRow wp.heap.size 2 1 (.slice (some ⟨g5, 0, none⟩) (zl ++ [(yss.length : Int) * (i : Int) + t]).length c5) (zl ++ [(yss.length : Int) * (i : Int) + t]).length ((zl ++ [(yss.length : Int) * (i : Int) + t]).map intV) ∧ Below wp.heap.size wp w5) := hide ⟨ownsRow_base ho5 hszq, hBQ.out.trans (hB5.mono hszq)⟩
              clear ho5 hB5 hcall
              go_wp2_with fail
              go_roundw
              case rel => exact ⟨p + 1, g5, c5, by omega, by go_num, by rw [hE.out]; first | rfl | (simp; done), by rw [hE.out]; exact hN.out.1, hN.out.2⟩
              case measure => simp [intOf]; omega
            · obtain rfl : p = hjr.length := by omega
              have hzf : Hid (zl = hjr.map fun t => (yss.length : Int) * (i : Int) + t) := by
                refine hide ?_
                rw [HZL.out, List.take_length]
              obtain ⟨wq, rfl⟩ : ∃ wq : World, wq = wr := ⟨_, rfl⟩
              have hOWN := hide hown
              have hBQ := hide hBq
              have hcellxr := cell_keep hBq hcellxp
              clear hown hBq hcap hcapm
              go_wp2_with fail
              go_loopw [9, 11] (fun v x wr => ∃ (q g c : Nat), q ≤ gi.length ∧ x = .int .i64 q ∧ v = .slice (some ⟨g, 0, none⟩) (zl ++ (gi.take q).map fun t => (yss.length : Int) * t + (j : Int)).length c ∧ wr.ownsRow wp.heap.size 2 1 (.slice (some ⟨g, 0, none⟩) (zl ++ (gi.take q).map fun t => (yss.length : Int) * t + (j : Int)).length c) (zl ++ (gi.take q).map fun t => (yss.length : Int) * t + (j : Int)).length ((zl ++ (gi.take q).map fun t => (yss.length : Int) * t + (j : Int)).map intV) ∧ Below wp.heap.size wp wr) (fun _ x _ => gi.length - (intOf x).toNat)
              case atStart => exact ⟨0, g, c9, Nat.zero_le _, rfl, by simp, by simpa using hOWN.out, hBQ.out⟩
              case round =>
                clear hOWN hBQ hcxr hcyr hcellyr hcellxr
                obtain ⟨q, g2, c2, hq, rfl, rfl, hown, hBs⟩ := hrel
                have hcxs := cell_keep hBs hcxp
                have hcys := cell_keep hBs hcyp
                have hcellxs := cell_keep hBs hcellxp
                have hBt := Below.trans' hBp hBs
                obtain ⟨hcap, hcapm⟩ := own_cap hown
                obtain ⟨zm, hzm⟩ : ∃ zm, zm = zl ++ (gi.take q).map fun t => (yss.length : Int) * t + (j : Int) := ⟨_, rfl⟩
                have hzml : zm.length ≤ 80 := by rw [hzm, List.length_append, List.length_map, List.length_take]; omega
                rw [← hzm] at hown hcap ⊢
                have HZM := hide hzm
                clear hzm
                by_cases hqlt : q < gi.length
                · obtain ⟨bz, oz, t, rfl, hct, htj⟩ := (hzx.keep hBt).one hqlt
                  have htr := hgr.out t (mem_of_get htj.out)
                  obtain ⟨tn, rfl⟩ := Int.eq_ofNat_of_zero_le (show 0 ≤ t by omega)
                  obtain ⟨hmt1, hmt0⟩ := mulm (m := yss.length) (i := tn) hml.2 (by omega)
                  have hE : Hid (zl ++ (gi.take (q + 1)).map (fun t => (yss.length : Int) * t + (j : Int)) = zm ++ [(yss.length : Int) * (tn : Int) + (j : Int)]) := by
                    refine hide ?_
                    rw [List.take_add_one, htj.out, HZM.out]
                    simp
                  have hlt : ∀ z ∈ zm, z < (yss.length : Int) * (tn : Int) + (j : Int) := by
                    intro z hz
                    rw [HZM.out, hzf.out] at hz
                    rcases List.mem_append.1 hz with h1 | h1
                    · simp only [List.mem_map] at h1
                      obtain ⟨t', ht', rfl⟩ := h1
                      have h2 := hjg.out t' ht'
                      have h3 : (yss.length : Int) * ((i : Int) + 1) ≤ (yss.length : Int) * (tn : Int) := Int.mul_le_mul_of_nonneg_left (by omega) (by omega)
                      rw [Int.mul_add, Int.mul_one] at h3
                      omega
                    · simp only [List.mem_map] at h1
                      obtain ⟨t', ht', rfl⟩ := h1
                      have h2 := take_lt hga.out htj.out t' ht'
                      have h3 : (yss.length : Int) * t' < (yss.length : Int) * (tn : Int) := Int.mul_lt_mul_of_pos_left h2 (by omega)
                      omega
                  have hcall := hide (l01Put_any g2 c2 zm ((yss.length : Int) * (tn : Int) + (j : Int)) wr (intsAt_of_ownsRow hown) hcap hcapm (by omega) hlt)
                  have hBS := hide hBs
                  have hszq := hBs.size
                  clear hown hBs hlt hcapm
                  go_wp2_with fail
                  refine hcall.out.mono ?_
                  rintro e w5 ⟨g5, c5, rfl, ho5, hB5⟩
                  have hN : Hid (w5.ownsRow wp.heap.size 2 1 (.slice (some ⟨g5, 0, none⟩) (zm ++ [(yss.length : Int) * (tn : Int) + (j : Int)]).length c5) (zm ++ [(yss.length : Int) * (tn : Int) + (j : Int)]).length ((zm ++ [(yss.length : Int) * (tn : Int) + (j : Int)]).map intV) ∧ Below wp.heap.size wp w5) := hide ⟨ownsRow_base ho5 hszq, hBS.out.trans (hB5.mono hszq)⟩
                  clear ho5 hB5 hcall
                  go_wp2_with fail
                  go_roundw
                  case rel => exact ⟨q + 1, g5, c5, by omega, by go_num, by rw [hE.out]; first | rfl | (simp; done), by rw [hE.out]; exact hN.out.1, hN.out.2⟩
                  case measure => simp [intOf]; omega
                · obtain rfl : q = gi.length := by omega
                  have hzf2 : Hid (zm = sumRow yss.length gi hjr i j) := by
                    refine hide ?_
                    rw [HZM.out, hzf.out, List.take_length]
                    rfl
                  obtain ⟨K, hK⟩ : ∃ K, K = yss.length * i + j := ⟨_, rfl⟩
                  have hU0 := hUP.out
                  rw [← hK] at hU0
                  obtain ⟨a1, c1, vs, hbx, hvl, hout, hrq⟩ := hU0
                  have hkb : yss.length * i + j < yss.length * xss.length := by
                    have h1 := Nat.mul_le_mul_left yss.length (show i + 1 ≤ xss.length by omega)
                    rw [Nat.mul_add, Nat.mul_one] at h1
                    omega
                  have hk40 : yss.length * xss.length ≤ 40 := by rw [Nat.mul_comm]; exact HBIG.out
                  have hK40 : K < 40 := by omega
                  have hbj : wr.heap[w1.heap.size + 1]? = some (.cells #[.slice a1 K c1] 29 (0, 0)) := (hBs.block _ hszp).trans hbx
                  have hcj : wr.cell? ⟨w1.heap.size + 1, 0, none⟩ = some (.slice a1 K c1) := (cell_of_row wr (w1.heap.size + 1) 0 _ _ (0, 0) hbj).trans rfl
                  have hoj := ownsRow_keep hout hBs
                  have hlj : w1.heap.size + 1 < wr.heap.size := block_lt hbj
                  have hzg : rows[vs.length]? = some zm := by
                    have hS := sumRows_succ xss yss (i := i) hjlt
                    rw [hvl, HROWS.out, hK, hzf2.out]
                    have e1 : (yss.length * i + j) / yss.length = i := by
                      rw [Nat.mul_add_div (by omega), Nat.div_eq_of_lt hjlt]
                      rfl
                    have e2 : (yss.length * i + j) % yss.length = j := by
                      rw [Nat.mul_add_mod, Nat.mod_eq_of_lt hjlt]
                    unfold sumRows
                    rw [List.getElem?_map, List.getElem?_range hkb]
                    simp only [Option.map_some, e1, e2, hgA.out, hgB.out]
                  have HOWN := hide hown
                  have HRQ := hide (hrq.keep hBs)
                  have HBJ := hide hbj
                  have HDJ := hide (hDP.out.trans (hBs.mono (by omega)))
                  have HZG := hide hzg
                  have HVL := hide hvl
                  have HKK := hide hK
                  clear hown hrq hbj hbx hout hzg hBs hcap hcapm hvl hkb hk40 hK
                  go_wp2_with (at_builtin; refine wpList_append_own _ rfl _ _ 22 rfl w1.heap.size 26 i1 (.slice none 0 0) 1 24 Try.underlying22 hi1 hy0 hy1 hy2 rfl (by decide) _ _ _ rfl (hoj.alloc _) ⟨wr.heap.size, 0, none⟩ 1 1 [.slice (some ⟨g2, 0, none⟩) zm.length c2] rfl rfl (cell_one_new _ _ _) (by simp [Value.oneCell']) (by unfold maxLen; omega) (by omega) (by simp; omega) ?_)
                  intro v' w5 hown' hgrow _
                  have hal : Below wr.heap.size wr (wr.alloc (.cells #[.slice (some ⟨g2, 0, none⟩) zm.length c2] 26)) := (Below.refl _ _).alloc (Nat.le_refl _) _
                  have hoa := hoj.alloc (.cells #[.slice (some ⟨g2, 0, none⟩) zm.length c2] 26)
                  have hba := (hal.block _ hlj).trans HBJ.out
                  have hb5 : w5.heap[w1.heap.size + 1]? = some (.cells #[.slice a1 K c1] 29 (0, 0)) := (hgrow.block _ (by simp; omega) (box_far hba hoa (by decide))).trans hba
                  have hc5 : w5.cell? ⟨w1.heap.size + 1, 0, none⟩ = some (.slice a1 K c1) := (cell_of_row w5 (w1.heap.size + 1) 0 _ _ (0, 0) hb5).trans rfl
                  have hf5 : w5.frozen? ⟨w1.heap.size + 1, 0, none⟩ = false := frozen_of_row w5 (w1.heap.size + 1) 0 _ _ hb5
                  obtain ⟨a6, c6, rfl⟩ := own_form hown'
                  have hr5 := (HRQ.out.keep hal).grown hoa hgrow
                  have hz5 : w5.ownsRow w1.heap.size 2 1 (.slice (some ⟨g2, 0, none⟩) zm.length c2) zm.length (zm.map intV) := (ownsRow_base (ownsRow_keep HOWN.out hal) (by omega)).kept hgrow (own_apart (HOWN.out.alloc _) hoa (by decide))
                  have hp5 := RowsQ.push (by rw [HVL.out]; exact hr5) HZG.out hz5
                  have hset := heap_setCell_same w5 (w1.heap.size + 1) 0 _ _ (.slice a6 (K + 1) c6) hb5
                  have hown6 : (w5.setCell ⟨w1.heap.size + 1, 0, none⟩ (.slice a6 (K + 1) c6)).ownsRow w1.heap.size 26 1 (.slice a6 (K + 1) c6) (K + 1) (vs ++ [.slice (some ⟨g2, 0, none⟩) zm.length c2]) := by
                    refine ⟨hown'.1, ?_⟩
                    rcases hown'.2 with h2 | ⟨g', cap, cur, hv', hlo, hg, r⟩
                    · exact .inl h2
                    · refine .inr ⟨g', cap, cur, hv', hlo, ?_, r⟩
                      rw [Below.heap_setCell _ _ _ _ (fun e => by subst e; rw [hb5] at hg; simp at hg)]
                      exact hg
                  have hDN : Below w1.heap.size W3 (w5.setCell ⟨w1.heap.size + 1, 0, none⟩ (.slice a6 (K + 1) c6)) :=
                    ((HDJ.out.trans (hal.mono (by omega))).grown hgrow (by simp; omega) (fun j hj => (hoa.lt j hj).1)).setCell (p := ⟨w1.heap.size + 1, 0, none⟩) (by simp) _
                  have hN : Hid (Under (w5.setCell ⟨w1.heap.size + 1, 0, none⟩ (.slice a6 (K + 1) c6)) w1.heap.size (w1.heap.size + 1) rows (yss.length * i + (j + 1)) ∧ Below w1.heap.size W3 (w5.setCell ⟨w1.heap.size + 1, 0, none⟩ (.slice a6 (K + 1) c6))) := by
                    refine hide ⟨?_, hDN⟩
                    rw [← Nat.add_assoc, ← HKK.out]
                    exact ⟨a6, c6, vs ++ [.slice (some ⟨g2, 0, none⟩) zm.length c2], by simpa using hset, by simp [HVL.out], hown6, by have := hp5; rw [HVL.out] at this; exact this.store hb5 (by decide)⟩
                  clear hDN hown6 hset hp5 hz5 hr5 hb5 hba hoa hal hgrow hown' hoj
                  go_wp2_with fail
                  go_roundw
                  case rel => exact ⟨j + 1, by omega, by go_num, hN.out.1, hN.out.2⟩
                  case measure => simp [intOf]; omega
        · obtain rfl : j = yss.length := by omega
          have hN : Hid (Under wp w1.heap.size (w1.heap.size + 1) rows (yss.length * (i + 1)) ∧ Below w1.heap.size W3 wp) := by
            refine hide ⟨?_, hD⟩
            rw [Nat.mul_add, Nat.mul_one]
            exact hU
          clear hU hD
          go_wp2_with fail
          go_roundw
          case rel => exact ⟨i + 1, by omega, by go_num, hN.out.1, hN.out.2⟩
          case measure => simp [intOf]; omega
    · obtain rfl : i = xss.length := by omega
      have hlen : rows.length = yss.length * xss.length := by rw [HROWS.out, sumRows_length]
      obtain ⟨a1, c1, vs, hbx, hvl, hout, hrq⟩ := hU4
      have hRr := (hD4.block _ hs1).trans hR3.out
      have hc1 : w4.cell? ⟨w1.heap.size + 1, 0, none⟩ = some (.slice a1 (yss.length * xss.length) c1) := (cell_of_row w4 (w1.heap.size + 1) 0 _ _ (0, 0) hbx).trans rfl
      have hcR : w4.cell? ⟨w.heap.size + 1 + 1, 0, none⟩ = some (.slice none 0 0) := (cell_of_row w4 (w.heap.size + 1 + 1) 0 _ _ (0, 0) hRr).trans rfl
      have hfR : w4.frozen? ⟨w.heap.size + 1 + 1, 0, none⟩ = false := frozen_of_row w4 (w.heap.size + 1 + 1) 0 _ _ hRr
      have hBr := hBw3.trans (hD4.mono (by omega))
      obtain ⟨K, hK⟩ : ∃ K, K = yss.length * xss.length := ⟨_, rfl⟩
      rw [← hK] at hc1 hlen hout hrq hvl
      have hfin : Hid (NewRows rows w (.returned (.agg #[.slice a1 K c1])) (w4.setCell ⟨w.heap.size + 1 + 1, 0, none⟩ (.slice a1 K c1))) := by
        refine hide ⟨a1, c1, by rw [hlen], ?_, hBr.setCell (p := ⟨w.heap.size + 1 + 1, 0, none⟩) (by simp; omega) _⟩
        intro W hW
        have hag : ∀ b, w1.heap.size ≤ b → W.heap[b]? = w4.heap[b]? := fun b hb => (hW b (by omega)).trans (Below.heap_setCell _ _ _ _ (by simp; omega))
        exact rows_read (by rw [hlen]; exact ownsRow_agree hout hag) (by rw [hlen]; exact hrq.agree hag)
      clear hD4 hbx hout hrq hvl hRr hBr hK hlen
      go_wp2_with fail
      exact bodyPost_ret (v := .agg #[.slice a1 K c1]) (by simp [results, Try.results61, go_sem, hcR]) rfl (by rw [← HROWS.out]; exact hfin.out)

/-- What a call hands back that has made rows of its own, and a code: the rows stay while the blocks from the call's on stay. -/
def NewRowsD (r : List (List Int) × Int) (w : World) (e : Ending) (w' : World) : Prop :=
  ∃ a c, e = .returned (.tuple #[.agg #[.slice a r.1.length c], .int .i64 r.2]) ∧ RowsFrom w' w.heap.size a r.1 ∧ Below w.heap.size w w'

set_option maxRecDepth 100000 in
set_option maxHeartbeats 4000000 in
theorem specSum_any (a b : Option Addr) (c d : Nat) (xss yss : List (List Int)) (w : World) (ha : RowsAt w a xss) (hs : Small xss) (hb : RowsAt w b yss) (ht : Small yss) :
    Calls Try.prog 23 #[.agg #[.slice a xss.length c], .agg #[.slice b yss.length d]] w (NewRowsD (sumR xss yss) w) := by
  obtain ⟨W0, hW0⟩ : ∃ W0, W0 = ((w.alloc (.cells #[.slice a xss.length c] 29)).alloc (.cells #[.slice b yss.length d] 29)).alloc (.cells #[.slice none 0 0] 29) := ⟨_, rfl⟩
  have hB0 : Below w.heap.size w W0 := by rw [hW0]; exact (((Below.refl _ _).alloc (Nat.le_refl _) _).alloc (by simp) _).alloc (by simp; omega) _
  have hX0 : W0.heap[w.heap.size]? = some (.cells #[.slice a xss.length c] 29 (0, 0)) := by
    rw [hW0, Below.heap_alloc _ _ _ (by simp; omega), Below.heap_alloc _ _ _ (by simp)]
    exact heap_alloc_new w _
  have hY0 : W0.heap[w.heap.size + 1]? = some (.cells #[.slice b yss.length d] 29 (0, 0)) := by
    rw [hW0, Below.heap_alloc _ _ _ (by simp)]
    have := heap_alloc_new (w.alloc (.cells #[.slice a xss.length c] 29)) (.cells #[.slice b yss.length d] 29 (0, 0))
    simpa using this
  have hR0 : W0.heap[w.heap.size + 1 + 1]? = some (.cells #[.slice none 0 0] 29 (0, 0)) := by
    rw [hW0]
    have := heap_alloc_new ((w.alloc (.cells #[.slice a xss.length c] 29)).alloc (.cells #[.slice b yss.length d] 29)) (.cells #[.slice none 0 0] 29 (0, 0))
    simpa using this
  have hcx0 : W0.cell? ⟨w.heap.size, 0, none⟩ = some (.slice a xss.length c) := (cell_of_row W0 w.heap.size 0 _ _ (0, 0) hX0).trans rfl
  have hcy0 : W0.cell? ⟨w.heap.size + 1, 0, none⟩ = some (.slice b yss.length d) := (cell_of_row W0 (w.heap.size + 1) 0 _ _ (0, 0) hY0).trans rfl
  have hno : ∀ (k : Int) w', Below w.heap.size w w' → NewRowsD ([], k) w (.returned (.tuple #[.agg #[.slice none 0 0], .int .i64 k])) w' := fun k w' h => ⟨none, 0, rfl, fun _ _ => RowsAt.nil _ _, h⟩
  have HNO := hide hno
  have hc0l : W0.cell? ⟨w.heap.size + 1 + 1, 0, none⟩ = some (.slice none 0 0) := (cell_of_row W0 (w.heap.size + 1 + 1) 0 _ _ (0, 0) hR0).trans rfl
  have hf0l : W0.frozen? ⟨w.heap.size + 1 + 1, 0, none⟩ = false := frozen_of_row W0 (w.heap.size + 1 + 1) 0 _ _ hR0
  have hsz0 : w.heap.size + 1 + 1 < W0.heap.size := block_lt hR0
  obtain ⟨r, hr⟩ : ∃ r, r = sumR xss yss := ⟨_, rfl⟩
  rw [← hr]
  unfold sumR at hr
  have HR0 := hide hR0
  have HRR := hide hr
  clear hno hX0 hY0 hR0 hr
  go_enter Try.func23, Try.ntmps23
  rw [hW0] at hcx0 hcy0
  go_wp2_with fail
  rw [← hW0] at hcx0 hcy0 ⊢
  clear hW0
  refine (l01Is_any _ _ xss _ (ha.keep hB0) hs).mono ?_
  rintro e w1 ⟨rfl, hB1⟩
  have hBw1 := Below.trans' hB0 hB1
  have hcx1 := cell_keep hB1 hcx0
  have hcy1 := cell_keep hB1 hcy0
  have hc1l := cell_keep hB1 hc0l
  have hf1l : w1.frozen? ⟨w.heap.size + 1 + 1, 0, none⟩ = false := frozen_of_row w1 (w.heap.size + 1 + 1) 0 _ _ ((hB1.block _ hsz0).trans HR0.out)
  clear hcx0 hcy0 hc0l hf0l
  cases hg : isGameB xss
  · have hr := HRR.out
    rw [hg] at hr
    obtain rfl : r = ([], 1) := by simpa using hr
    clear hr hg HRR
    go_wp2_with fail
    exact bodyPost_ret (v := .tuple #[.agg #[.slice none 0 0], .int .i64 1]) (by simp [results, Try.results23, go_sem, hc1l]) rfl (HNO.out _ _ (by first | exact hBw1 | exact (hBw1.setCell (p := ⟨w.heap.size + 1 + 1, 0, none⟩) (by simp; omega) _)))
  · have HG := hide hg
    clear hg
    go_wp2_with fail
    refine (l01Is_any _ _ yss _ (hb.keep hBw1) ht).mono ?_
    rintro e w2 ⟨rfl, hB2⟩
    have hBw2 := Below.trans' hBw1 hB2
    have hcx2 := cell_keep hB2 hcx1
    have hcy2 := cell_keep hB2 hcy1
    have hc2l := cell_keep hB2 hc1l
    have hR2 := ((Below.trans' hB1 hB2).block _ hsz0).trans HR0.out
    have hf2l : w2.frozen? ⟨w.heap.size + 1 + 1, 0, none⟩ = false := frozen_of_row w2 (w.heap.size + 1 + 1) 0 _ _ hR2
    have HR2 := hide hR2
    clear hcx1 hcy1 hc1l hf1l hR2
    cases hh : isGameB yss
    · have hr := HRR.out
      rw [HG.out, hh] at hr
      obtain rfl : r = ([], 1) := by simpa using hr
      clear hr hh HRR
      go_wp2_with fail
      exact bodyPost_ret (v := .tuple #[.agg #[.slice none 0 0], .int .i64 1]) (by simp [results, Try.results23, go_sem, hc2l]) rfl (HNO.out _ _ (by first | exact hBw2 | exact (hBw2.setCell (p := ⟨w.heap.size + 1 + 1, 0, none⟩) (by simp; omega) _)))
    · have HH := hide hh
      have hnl := game_len HG.out
      have hml := game_len HH.out
      have hpr := mulm hnl.2 hml.2
      have hcast : (xss.length : Int) * (yss.length : Int) = ((xss.length * yss.length : Nat) : Int) := by push_cast; rfl
      have HCAST := hide hcast
      clear hh hcast
      by_cases hbig : xss.length * yss.length ≤ 40
      · have hd40 : decide ((40 : Int) < IntKind.i64.wrap ((xss.length : Int) * (yss.length : Int))) = false := by rw [IntWalk.i64_in _ (by omega), HCAST.out]; exact decide_eq_false (by omega)
        go_wp2_with fail
        have hd2 : Below w2.heap.size w2 w2.drew := Below.drew (Below.refl _ _)
        have hcxd := cell_keep hd2 hcx2
        have hcyd := cell_keep hd2 hcy2
        go_region_held3 (fun W => W.cell? ⟨w.heap.size, 0, none⟩ = some (.slice a xss.length c) ∧ W.cell? ⟨w.heap.size + 1, 0, none⟩ = some (.slice b yss.length d)) (first | (exact ⟨hcxd, hcyd⟩) | (exact ⟨cell_keep hB3 hcxd, cell_keep hB3 hcyd⟩) | (exact ⟨cell_keep hB4 (cell_keep hB3 hcxd), cell_keep hB4 (cell_keep hB3 hcyd)⟩)) (first | (go_at_call 51; (with_reducible refine (l01N_any a c xss.length _).mono ?_); rintro e w3 ⟨rfl, hB3⟩) | (go_at_call 51; (with_reducible refine (l01N_any b d yss.length _).mono ?_); rintro e w4 ⟨rfl, hB4⟩))
        have hB24 := Below.trans' (Below.trans' hd2 hB3) hB4
        have hcx4 := cell_keep hB24 hcx2
        have hcy4 := cell_keep hB24 hcy2
        have hBw4 := Below.trans' hBw2 hB24
        have hR4 := (hB24.block _ (block_lt HR2.out)).trans HR2.out
        have hc4l : w4.cell? ⟨w.heap.size + 1 + 1, 0, none⟩ = some (.slice none 0 0) := (cell_of_row w4 (w.heap.size + 1 + 1) 0 _ _ (0, 0) hR4).trans rfl
        have hf4l : w4.frozen? ⟨w.heap.size + 1 + 1, 0, none⟩ = false := frozen_of_row w4 (w.heap.size + 1 + 1) 0 _ _ hR4
        have HR4 := hide hR4
        clear hcx2 hcy2 hc2l hf2l hcxd hcyd hd2 hB3 hB4 hB24 hR4
        obtain rfl : r = (sumRows xss yss (yss.length * xss.length), 0) := by rw [HRR.out, HG.out, HH.out, if_pos (by rfl), if_pos hbig]
        have hcall := hide (l01Sum_any a b c d xss yss w4 (ha.keep hBw4) hs (hb.keep hBw4) ht HG.out HH.out hbig)
        clear HRR HG HH
        go_wp2_with fail
        refine hcall.out.mono ?_
        rintro e w5 ⟨a5, c5, rfl, hg5, hB5⟩
        have hR5 := (hB5.block _ (block_lt HR4.out)).trans HR4.out
        have hc5 : w5.cell? ⟨w.heap.size + 1 + 1, 0, none⟩ = some (.slice none 0 0) := (cell_of_row w5 (w.heap.size + 1 + 1) 0 _ _ (0, 0) hR5).trans rfl
        have hf5 : w5.frozen? ⟨w.heap.size + 1 + 1, 0, none⟩ = false := frozen_of_row w5 (w.heap.size + 1 + 1) 0 _ _ hR5
        have hfin : Hid (NewRowsD (sumRows xss yss (yss.length * xss.length), 0) w (.returned (.tuple #[.agg #[.slice a5 (sumRows xss yss (yss.length * xss.length)).length c5], .int .i64 0])) (w5.setCell ⟨w.heap.size + 1 + 1, 0, none⟩ (.slice a5 (sumRows xss yss (yss.length * xss.length)).length c5))) :=
          hide ⟨a5, c5, rfl, fun W hW => hg5 W (fun b hb => (hW b (Nat.le_trans hBw4.size hb)).trans (Below.heap_setCell _ _ _ _ (by have := block_lt HR4.out; simp; omega))), (Below.trans' hBw4 hB5).setCell (p := ⟨w.heap.size + 1 + 1, 0, none⟩) (by simp; omega) _⟩
        clear hg5 hB5 hR5 hcall
        go_wp2_with fail
        exact bodyPost_ret (v := .tuple #[.agg #[.slice a5 (sumRows xss yss (yss.length * xss.length)).length c5], .int .i64 0]) (by simp [results, Try.results23, go_sem, hc5]) rfl hfin.out
      · have hd40 : decide ((40 : Int) < IntKind.i64.wrap ((xss.length : Int) * (yss.length : Int))) = true := by rw [IntWalk.i64_in _ (by omega), HCAST.out]; exact decide_eq_true (by omega)
        go_wp2_with fail
        have hd2 : Below w2.heap.size w2 w2.drew := Below.drew (Below.refl _ _)
        have hcxd := cell_keep hd2 hcx2
        have hcyd := cell_keep hd2 hcy2
        go_region_held3 (fun W => W.cell? ⟨w.heap.size, 0, none⟩ = some (.slice a xss.length c) ∧ W.cell? ⟨w.heap.size + 1, 0, none⟩ = some (.slice b yss.length d)) (first | (exact ⟨hcxd, hcyd⟩) | (exact ⟨cell_keep hB3 hcxd, cell_keep hB3 hcyd⟩) | (exact ⟨cell_keep hB4 (cell_keep hB3 hcxd), cell_keep hB4 (cell_keep hB3 hcyd)⟩)) (first | (go_at_call 51; (with_reducible refine (l01N_any a c xss.length _).mono ?_); rintro e w3 ⟨rfl, hB3⟩) | (go_at_call 51; (with_reducible refine (l01N_any b d yss.length _).mono ?_); rintro e w4 ⟨rfl, hB4⟩))
        have hB24 := Below.trans' (Below.trans' hd2 hB3) hB4
        have hcx4 := cell_keep hB24 hcx2
        have hcy4 := cell_keep hB24 hcy2
        have hBw4 := Below.trans' hBw2 hB24
        have hR4 := (hB24.block _ (block_lt HR2.out)).trans HR2.out
        have hc4l : w4.cell? ⟨w.heap.size + 1 + 1, 0, none⟩ = some (.slice none 0 0) := (cell_of_row w4 (w.heap.size + 1 + 1) 0 _ _ (0, 0) hR4).trans rfl
        have hf4l : w4.frozen? ⟨w.heap.size + 1 + 1, 0, none⟩ = false := frozen_of_row w4 (w.heap.size + 1 + 1) 0 _ _ hR4
        have HR4 := hide hR4
        clear hcx2 hcy2 hc2l hf2l hcxd hcyd hd2 hB3 hB4 hB24 hR4
        obtain rfl : r = ([], 3) := by rw [HRR.out, HG.out, HH.out, if_pos (by rfl), if_neg hbig]
        clear HRR HG HH
        go_wp2_with fail
        exact bodyPost_ret (v := .tuple #[.agg #[.slice none 0 0], .int .i64 3]) (by simp [results, Try.results23, go_sem, hc4l]) rfl (HNO.out _ _ (by first | exact hBw4 | exact (hBw4.setCell (p := ⟨w.heap.size + 1 + 1, 0, none⟩) (by simp; omega) _)))
end Go.Proofs.Ytlgogpphlnogoaa
