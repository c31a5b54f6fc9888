/-
  DriveRoute, the model's text.
-/
import Derived.Test.YtmoekjgnichgnaaDoorDa
import Derived.Test.YtmoekjgnichgnaaDoorSv
import Derived.Deep.RegionHeld3
import Derived.Deep.DeepCutAuto
namespace Go.Proofs.YtmoekjgnichgnaaDoor
open Go.RowKit Go.Deep
set_option linter.unusedVariables false

theorem keep_new {w w2 : World} {cs : Array Value} {t : TypeId} (h : Below (w.alloc (.cells cs t)).heap.size (w.alloc (.cells cs t)) w2) : w2.heap[w.heap.size]? = some (.cells cs t (0, 0)) := box_keep (heap_alloc_new _ _) h
theorem keep_new2 {w w2 : World} {cs : Array Value} {t : TypeId} (h : Below (w.alloc (.cells cs t)).drew.heap.size (w.alloc (.cells cs t)).drew w2) : w2.heap[w.heap.size]? = some (.cells cs t (0, 0)) := box_keep (w := (w.alloc (.cells cs t)).drew) (heap_alloc_new w _) h
theorem drv_yes {ss : List ByteArray} {c : Cr} {ms : List Int} {i : Nat} {m : Int} (hm : ms[i]? = some m) (h : opn ss c m = true) : drv ss c (ms.drop i) = drv ss (c.go m) (ms.drop (i + 1)) := by
  rw [List.drop_eq_getElem?_toList_append, hm]
  show drv ss c (m :: ms.drop (i + 1)) = _
  unfold drv
  rw [if_pos h]
  cases ms.drop (i + 1) <;> rfl
theorem drv_no {ss : List ByteArray} {c : Cr} {ms : List Int} {i : Nat} {m : Int} (hm : ms[i]? = some m) (h : opn ss c m = false) : drv ss c (ms.drop i) = (Cr.zero, 5) := by
  rw [List.drop_eq_getElem?_toList_append, hm]
  show drv ss c (m :: ms.drop (i + 1)) = _
  unfold drv
  rw [if_neg (by rw [h]; simp)]
theorem drv_end {ss : List ByteArray} {c : Cr} {ms : List Int} : drv ss c (ms.drop ms.length) = (c, 0) := by
  rw [List.drop_length]
  rfl

set_option maxRecDepth 100000 in
set_option maxHeartbeats 8000000 in
theorem specDrive_any (a : Option Addr) (c : Nat) (ss : List ByteArray) (am : Option Addr) (cm : Nat) (ms : List Int) (W : World) (ha : StrsAt W a ss) (hl : ss.length ≤ 1048576) (hz : ∀ s ∈ ss, s.size ≤ 1048576) (hm : IntsAt W am ms) (hml : ms.length ≤ 1048576) :
    Calls Tryd.prog 43 #[.slice a ss.length c, .slice am ms.length cm] W (RetB (.tuple #[crV (drR ss ms).1, .int .i64 (drR ss ms).2]) W) := by
  obtain ⟨W0, hW0, hb0, hr0⟩ := carBox W 0 0 0 0
  have hs0 : W0.heap.size = W.heap.size + 1 := by rw [hW0]; simp
  have HB0 := hide hb0
  have HA0 := hide ha
  have HM0 := hide hm
  have HA := hide (ha.keep hb0)
  have HM := hide (hm.keep hb0)
  have HR0 := hide hr0
  have HIS := hide (l08Is_any a c ss W0 HA.out hl hz)
  clear ha hr0 hb0 hm
  cases hok : trk ss
  · have HF : Hid (drR ss ms = (Cr.zero, 1)) := hide (by unfold drR; rw [hok]; rfl)
    rw [hok] at HIS
    clear hl hz hok
    go_enter Tryd.func43, Tryd.ntmps43
    go_wp2_with fail
    rw [← hW0]
    clear hW0
    (try go_wp2_with fail)
    refine HIS.out.mono ?_
    rintro e w1 ⟨rfl, hb1⟩
    have hB := hide (st4_below 0 0 0 0 (b := W.heap.size) (Below.trans' HB0.out hb1) (Nat.le_refl _))
    have hr9 := box_keep HR0.out hb1
    have hst := st4_box 0 0 0 0 hr9
    obtain ⟨f0, f1, f2, f3⟩ := froz4 hr9
    obtain ⟨d0, d1, d2, d3⟩ := row4 hr9
    obtain ⟨j0, j1, j2, j3⟩ := row4 hst
    have HJ := hide (And.intro j0 (And.intro j1 (And.intro j2 j3)))
    clear hst j0 j1 j2 j3 hr9
    go_wp2_with fail
    obtain ⟨j0, j1, j2, j3⟩ := HJ.out
    unfold st4 at j0 j1 j2 j3 hB
    exact bodyPost_ret (v := .tuple #[.agg #[.int .i64 0, .int .i64 0, .int .i64 0, .int .i64 0], .int .i64 1]) (by simp [results, Tryd.results43, go_sem, j0, j1, j2, j3]) rfl ⟨by rw [HF.out]; rfl, hB.out⟩
  rw [hok] at HIS
  by_cases h20 : 20 < ms.length
  · have HF : Hid (drR ss ms = (Cr.zero, 2)) := hide (by
      unfold drR mvsOk
      rw [hok, decide_eq_false (show ¬ ms.length ≤ 20 by omega)]
      rfl)
    clear hl hz hok
    go_enter Tryd.func43, Tryd.ntmps43
    go_wp2_with fail
    rw [← hW0]
    clear hW0
    (try go_wp2_with fail)
    refine HIS.out.mono ?_
    rintro e w1 ⟨rfl, hb1⟩
    have hB := hide (st4_below 0 0 0 0 (b := W.heap.size) (Below.trans' HB0.out hb1) (Nat.le_refl _))
    have hr9 := box_keep HR0.out hb1
    have hst := st4_box 0 0 0 0 hr9
    obtain ⟨f0, f1, f2, f3⟩ := froz4 hr9
    obtain ⟨d0, d1, d2, d3⟩ := row4 hr9
    obtain ⟨j0, j1, j2, j3⟩ := row4 hst
    have HJ := hide (And.intro j0 (And.intro j1 (And.intro j2 j3)))
    clear hst j0 j1 j2 j3 hr9
    go_wp2_with fail
    obtain ⟨j0, j1, j2, j3⟩ := HJ.out
    unfold st4 at j0 j1 j2 j3 hB
    exact bodyPost_ret (v := .tuple #[.agg #[.int .i64 0, .int .i64 0, .int .i64 0, .int .i64 0], .int .i64 2]) (by simp [results, Tryd.results43, go_sem, j0, j1, j2, j3]) rfl ⟨by rw [HF.out]; rfl, hB.out⟩
  have hn : ms.length ≤ 20 := by omega
  have HFI := hide (fun V (h : StrsAt V a ss) => l08First_any a c ss V h hok)
  have hsh := trk_shp hok
  have hof := okCr_first hok
  obtain ⟨R, hR⟩ : ∃ R, R = drR ss ms := ⟨_, rfl⟩
  have HRR : Hid (R = if (ms.all fun m => inI m 0 8) = true then drv ss (fstC ss) ms else (Cr.zero, 2)) := hide (by
    rw [hR]
    unfold drR mvsOk
    rw [if_pos hok, decide_eq_true hn, Bool.true_and])
  rw [← hR]
  clear hl hz hok hR
  go_enter Tryd.func43, Tryd.ntmps43
  go_wp2_with fail
  rw [← hW0]
  clear hW0
  (try go_wp2_with fail)
  refine HIS.out.mono ?_
  rintro e w1 ⟨rfl, hb1⟩
  have HB1 := hide (Below.trans' HB0.out hb1)
  have HA1 := hide (HA.out.keep hb1)
  have HM1 := hide (HM.out.keep hb1)
  have HR1 := hide (box_keep HR0.out hb1)
  clear hb1
  go_wp2_with fail
  go_loopw [6] (fun v6 wr => ∃ (i : Nat), v6 = .int .i64 i ∧ i ≤ ms.length ∧ Hid (((ms.take i).all fun m => inI m 0 8) = true) ∧ Hid (Below w1.heap.size w1 wr)) (fun v6 _ => ms.length - (intOf v6).toNat)
  case atStart => exact ⟨0, rfl, Nat.zero_le _, hide rfl, hide (Below.refl _ _)⟩
  case round =>
    obtain ⟨i, rfl, hi, hall, HB⟩ := hrel
    by_cases hlt : i < ms.length
    · obtain ⟨bm, om, m, rfl, hcm, hgm⟩ := (HM1.out.keep HB.out).one (k := i) hlt
      have htk : Hid (ms.take (i + 1) = ms.take i ++ [m]) := hide (by rw [List.take_add_one, hgm.out]; rfl)
      cases hin : inI m 0 8
      · have HF : Hid (R = (Cr.zero, 2)) := hide (by
          rw [HRR.out, if_neg]
          rw [Bool.not_eq_true, List.all_eq_false]
          exact ⟨m, List.mem_of_getElem? hgm.out, by rw [hin]; simp⟩)
        have HIN := hide hin
        clear hin
        go_wp2_with fail
        refine (inI_is HIN.out _).mono ?_
        rintro e w2 ⟨rfl, hb2⟩
        have hB := hide (st4_below 0 0 0 0 (b := W.heap.size) (Below.trans' HB1.out (Below.trans' HB.out hb2)) (Nat.le_refl _))
        have hr9 := box_keep (box_keep HR1.out HB.out) hb2
        have hst := st4_box 0 0 0 0 hr9
        obtain ⟨f0, f1, f2, f3⟩ := froz4 hr9
        obtain ⟨d0, d1, d2, d3⟩ := row4 hr9
        obtain ⟨j0, j1, j2, j3⟩ := row4 hst
        have HJ := hide (And.intro j0 (And.intro j1 (And.intro j2 j3)))
        clear hst j0 j1 j2 j3 hr9
        go_wp2_with fail
        obtain ⟨j0, j1, j2, j3⟩ := HJ.out
        unfold st4 at j0 j1 j2 j3 hB
        exact bodyPost_ret (v := .tuple #[.agg #[.int .i64 0, .int .i64 0, .int .i64 0, .int .i64 0], .int .i64 2]) (by simp [results, Tryd.results43, go_sem, j0, j1, j2, j3]) rfl ⟨by rw [HF.out]; rfl, hB.out⟩
      · have hnx : Hid (((ms.take (i + 1)).all fun m => inI m 0 8) = true) := hide (by rw [htk.out, List.all_append, hall.out]; simp [hin])
        have HIN := hide hin
        clear hin
        go_wp2_with fail
        refine (inI_is HIN.out _).mono ?_
        rintro e w2 ⟨rfl, hb2⟩
        have HB2 := hide (Below.trans' HB.out hb2)
        clear hb2
        go_wp2_with fail
        go_roundw
        case rel => exact ⟨i + 1, by go_num, by omega, hnx, HB2⟩
        case measure => simp [intOf]; omega
    · have hall2 : (ms.all fun m => inI m 0 8) = true := by
        have h := hall.out
        rw [List.take_of_length_le (by omega)] at h
        exact h
      have HRE : Hid (drv ss (fstC ss) ms = R) := hide (by rw [HRR.out, if_pos hall2])
      have HIN : Hid (∀ m ∈ ms, 0 ≤ m ∧ m ≤ 8) := hide (fun m hm => inI_yes (List.all_eq_true.1 hall2 m hm))
      have HBa := hide (Below.trans' HB1.out HB.out)
      have HAa := hide (HA1.out.keep HB.out)
      have HRa := hide (box_keep HR1.out HB.out)
      have HMa := hide (HM1.out.keep HB.out)
      clear hall2
      go_wp2_with fail
      refine (HFI.out _ HAa.out).mono ?_
      rintro e w2 ⟨rfl, hb2⟩
      obtain ⟨⟨fx, fy, fu, fv⟩, hfc⟩ : ∃ fc, fc = fstC ss := ⟨_, rfl⟩
      rw [← hfc] at HRE hof ⊢
      unfold crV
      dsimp only
      obtain ⟨V2, hV2⟩ : ∃ V2, V2 = w2.alloc (.cells #[.int .i64 fx, .int .i64 fy, .int .i64 fu, .int .i64 fv] 28) := ⟨_, rfl⟩
      have hbV : Below w2.heap.size w2 V2 := by rw [hV2]; exact below_alloc _ _
      have hrV : V2.heap[w2.heap.size]? = some (.cells #[.int .i64 fx, .int .i64 fy, .int .i64 fu, .int .i64 fv] 28 (0, 0)) := by rw [hV2]; exact row_new _ _ _
      have HB2 := hide (Below.trans' HBa.out (Below.trans' hb2 hbV))
      have HA2 := hide (HAa.out.keep (Below.trans' hb2 hbV))
      have HM2 := hide (HMa.out.keep (Below.trans' hb2 hbV))
      have HR2 := hide (box_keep HRa.out (Below.trans' hb2 hbV))
      obtain ⟨b7, hb7⟩ : ∃ b7, b7 = w2.heap.size := ⟨_, rfl⟩
      have hb7l : W.heap.size < b7 := by rw [hb7]; exact Nat.lt_of_lt_of_le (block_lt HRa.out) hb2.size
      have hs2 : V2.heap.size = b7 + 1 := by rw [hV2, hb7]; simp
      rw [← hb7] at hrV
      have HX2 := hide hrV
      have HOF := hide hof
      clear hb2 hbV hrV hof hfc
      go_upto_region 11 with fail
      rw [← hV2, ← hb7]
      clear hV2 hb7
      (try go_wp2_with fail)
      go_loopw [8] (fun v8 wr => ∃ (i : Nat) (K : Cr), v8 = .int .i64 i ∧ i ≤ ms.length ∧ Hid (drv ss K (ms.drop i) = R) ∧ Hid (okCr ss K = true) ∧ Hid (wr.heap[b7]? = some (.cells #[.int .i64 K.x, .int .i64 K.y, .int .i64 K.u, .int .i64 K.v] 28 (0, 0))) ∧ Hid (Below b7 V2 wr) ∧ b7 < wr.heap.size) (fun v8 _ => ms.length - (intOf v8).toNat)
      case atStart => exact ⟨0, ⟨fx, fy, fu, fv⟩, rfl, Nat.zero_le _, HRE, HOF, HX2, hide (Below.refl _ _), by omega⟩
      case round =>
        obtain ⟨i, ⟨x, y, u, v⟩, rfl, hi, HD, HO, HX, HBl, hzl⟩ := hrel
        obtain ⟨V, hV⟩ : ∃ V, V = wr := ⟨_, rfl⟩
        rw [← hV] at HX HBl hzl ⊢
        clear hV
        dsimp only at HX
        have HBV := hide (HB2.out.trans (HBl.out.mono (by omega)))
        have HRV := hide ((HBl.out.block _ hb7l).trans HR2.out)
        have HAX := hide (fun (W' : World) (h : Below V.heap.size V W') => (HA0.out.keep HBV.out).keep h)
        by_cases hlt : i < ms.length
        · obtain ⟨bm, om, m, rfl, hcm, hgm⟩ := (HM0.out.keep HBV.out).one (k := i) hlt
          obtain ⟨hm0, hm8⟩ := HIN.out m (List.mem_of_getElem? hgm.out)
          have HLM := hide (fun V' (h : StrsAt V' a ss) => l08Move_any a c ss x y u v m V' h hsh HO.out hm0 hm8)
          obtain ⟨⟨⟨gx, gy, gu, gv⟩, ok⟩, hK⟩ : ∃ K, K = mvS ss ⟨x, y, u, v⟩ m := ⟨_, rfl⟩
          rw [← hK] at HLM
          unfold crV at HLM
          dsimp only at HLM
          have HY : Hid (ok = true → drv ss ⟨gx, gy, gu, gv⟩ (ms.drop (i + 1)) = R ∧ okCr ss ⟨gx, gy, gu, gv⟩ = true) := hide (fun hk => by
            unfold mvS at hK
            split at hK
            · rename_i ho
              simp only [Prod.mk.injEq] at hK
              rw [hK.1]
              exact ⟨(drv_yes hgm.out ho).symm.trans HD.out, opn_okCr ho⟩
            · rw [hk] at hK; simp at hK)
          have HNO : Hid (ok = false → R = (Cr.zero, 5)) := hide (fun hk => by
            unfold mvS at hK
            split at hK
            · rw [hk] at hK; simp at hK
            · rename_i ho
              exact HD.out.symm.trans (drv_no hgm.out (by simpa using ho)))
          obtain ⟨X0, X1, X2, X3⟩ := row4 HX.out
          clear hK
          go_upto_region 14 with fail
          have hd : Below V.heap.size V V.drew := Below.drew (Below.refl _ _)
          have hbel : Below V.heap.size V V := Below.refl _ _
          have HS : Hid (∀ W' : World, Below V.heap.size V W' → (W'.cell? ⟨b7, 0, none⟩ = some (.int .i64 x) ∧ W'.cell? ⟨b7, 1, none⟩ = some (.int .i64 y) ∧ W'.cell? ⟨b7, 2, none⟩ = some (.int .i64 u) ∧ W'.cell? ⟨b7, 3, none⟩ = some (.int .i64 v) ∧ W'.cell? ⟨bm, om + i, none⟩ = some (.int .i64 m))) := hide (fun W' h => ⟨cell_keep h X0, cell_keep h X1, cell_keep h X2, cell_keep h X3, cell_keep h hcm⟩)
          clear X0 X1 X2 X3 hcm
          go_cut [9, 10] (fun sa sb wx => ∃ g : Nat, sa = .pointer (some ⟨g, 0, none⟩) ∧ sb = .bool ok ∧ V.heap.size ≤ g ∧ wx.heap[g]? = some (.cells #[.int .i64 gx, .int .i64 gy, .int .i64 gu, .int .i64 gv] 28 (0, 0)) ∧ Below V.heap.size V wx)
          case first =>
            go_region_held3 (fun W' => W'.cell? ⟨b7, 0, none⟩ = some (.int .i64 x) ∧ W'.cell? ⟨b7, 1, none⟩ = some (.int .i64 y) ∧ W'.cell? ⟨b7, 2, none⟩ = some (.int .i64 u) ∧ W'.cell? ⟨b7, 3, none⟩ = some (.int .i64 v) ∧ W'.cell? ⟨bm, om + i, none⟩ = some (.int .i64 m)) (first | (refine HS.out _ ?_; (with_reducible (repeat (first | exact hbel | exact hd | refine Below.drew ?_ | refine Below.alloc' ?_ _ | refine Below.setCell ?_ (by first | exact Nat.le_refl _ | (show V.heap.size ≤ _; omega) | (simp; omega)) _))))) (first | (go_at_call 64; (with_reducible refine (HLM.out _ (HAX.out _ (by (with_reducible (repeat (first | exact hbel | exact hd | refine Below.drew ?_ | refine Below.alloc' ?_ _ | refine Below.setCell ?_ (by first | exact Nat.le_refl _ | (show V.heap.size ≤ _; omega) | (simp; omega)) _)))))).mono ?_); rintro e4 w4 ⟨rfl, hb4⟩; (have hbn4 : Below V.heap.size V w4 := by (refine Below.trans' ?_ hb4; (with_reducible (repeat (first | exact hbel | exact hd | refine Below.drew ?_ | refine Below.alloc' ?_ _ | refine Below.setCell ?_ (by first | exact Nat.le_refl _ | (show V.heap.size ≤ _; omega) | (simp; omega)) _))))); (have hz4 := hbn4.size); (try (with_reducible have al := box_keep al hb4)); (try (with_reducible have al := keep_new hb4)); (try (with_reducible have al := keep_new2 hb4)); (try (have q0 := (row4 al).1; have q1 := (row4 al).2.1; have q2 := (row4 al).2.2.1; have q3 := (row4 al).2.2.2; have qf0 := (froz4 al).1; have qf1 := (froz4 al).2.1; have qf2 := (froz4 al).2.2.1; have qf3 := (froz4 al).2.2.2)); have hbel := hbn4; clear hbn4))
            all_goals
              go_wp2_with fail
              go_meet
              exact ⟨_, rfl, rfl, (by first | exact Nat.le_refl _ | exact hz4), (by first | exact st4_box _ _ _ _ al | exact heap_alloc_new _ _), (by (with_reducible (repeat (first | exact hbel | exact hd | refine Below.drew ?_ | refine Below.alloc' ?_ _ | refine Below.setCell ?_ (by first | exact Nat.le_refl _ | (show V.heap.size ≤ _; omega) | (simp; omega)) _))))⟩
          case rest =>
            obtain ⟨g, rfl, rfl, hg, hYr, hBc⟩ := hcut
            have hRc := box_keep HRV.out hBc
            have hXc := box_keep HX.out hBc
            clear HS hd hbel HAX HLM
            cases ok
            · have HF := hide (HNO.out rfl)
              have hB := hide (st4_below 0 0 0 0 (b := W.heap.size) (Below.trans' HBV.out hBc) (Nat.le_refl _))
              clear hYr hXc hBc
              have hr9 := hRc
              have hst := st4_box 0 0 0 0 hr9
              obtain ⟨f0, f1, f2, f3⟩ := froz4 hr9
              obtain ⟨d0, d1, d2, d3⟩ := row4 hr9
              obtain ⟨j0, j1, j2, j3⟩ := row4 hst
              have HJ := hide (And.intro j0 (And.intro j1 (And.intro j2 j3)))
              clear hst j0 j1 j2 j3 hr9
              go_wp2_with fail
              obtain ⟨j0, j1, j2, j3⟩ := HJ.out
              unfold st4 at j0 j1 j2 j3 hB
              exact bodyPost_ret (v := .tuple #[.agg #[.int .i64 0, .int .i64 0, .int .i64 0, .int .i64 0], .int .i64 5]) (by simp [results, Tryd.results43, go_sem, j0, j1, j2, j3]) rfl ⟨by rw [HF.out]; rfl, hB.out⟩
            · obtain ⟨hy1, hy2⟩ := HY.out rfl
              have HY1 := hide hy1
              have HY2 := hide hy2
              obtain ⟨g0, g1, g2, g3⟩ := row4 hYr
              obtain ⟨f0, f1, f2, f3⟩ := froz4 hXc
              obtain ⟨e0, e1, e2, e3⟩ := row4 hXc
              have HXn := hide (st4_box gx gy gu gv hXc)
              have HBn := hide (st4_below gx gy gu gv (b := b7) (HBl.out.trans (hBc.mono (by omega))) (Nat.le_refl _))
              clear hYr hXc hBc hy1 hy2 hRc
              go_wp2_with fail
              unfold st4 at HXn HBn
              go_roundw
              case rel => exact ⟨i + 1, ⟨gx, gy, gu, gv⟩, by go_num, by omega, HY1, HY2, HXn, HBn, by have := HBn.out.size; omega⟩
              case measure => simp [intOf]; omega
        · obtain rfl : i = ms.length := by omega
          have HF : Hid (R = (⟨x, y, u, v⟩, 0)) := hide (by rw [← HD.out, drv_end])
          have hr9 := HRV.out
          obtain ⟨g0, g1, g2, g3⟩ := row4 HX.out
          have hst := st4_box x y u v hr9
          obtain ⟨f0, f1, f2, f3⟩ := froz4 hr9
          obtain ⟨e0, e1, e2, e3⟩ := row4 hr9
          obtain ⟨j0, j1, j2, j3⟩ := row4 hst
          have hB := hide (st4_below x y u v (b := W.heap.size) HBV.out (Nat.le_refl _))
          have HJ := hide (And.intro j0 (And.intro j1 (And.intro j2 j3)))
          clear hst j0 j1 j2 j3 hr9
          go_wp2_with fail
          obtain ⟨j0, j1, j2, j3⟩ := HJ.out
          unfold st4 at j0 j1 j2 j3 hB
          exact bodyPost_ret (v := .tuple #[.agg #[.int .i64 x, .int .i64 y, .int .i64 u, .int .i64 v], .int .i64 0]) (by simp [results, Tryd.results43, go_sem, j0, j1, j2, j3]) rfl ⟨by rw [HF.out]; rfl, hB.out⟩
end Go.Proofs.YtmoekjgnichgnaaDoor
