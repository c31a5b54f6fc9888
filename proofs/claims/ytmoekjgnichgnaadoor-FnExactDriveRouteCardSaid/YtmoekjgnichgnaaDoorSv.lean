/-
  Checks of cars and moves, and MoveCar, the model's text.
-/
import Derived.Test.YtmoekjgnichgnaaDoorSm
import Derived.Deep.RegionHeld3
import Derived.Deep.Cut
namespace Go.Proofs.YtmoekjgnichgnaaDoor
open Go.RowKit
set_option linter.unusedVariables false

set_option maxRecDepth 100000 in
set_option maxHeartbeats 2000000 in
theorem l08Car_any (a : Option Addr) (c : Nat) (ss : List ByteArray) (x y u v mv : Int) (W : World) (ha : StrsAt W a ss) (hl : ss.length ≤ 1048576) (hz : ∀ s ∈ ss, s.size ≤ 1048576) :
    Calls Tryd.prog 59 #[.slice a ss.length c, .agg #[.int .i64 x, .int .i64 y, .int .i64 u, .int .i64 v], .int .i64 mv] W (RetB (.int .i64 (movC ss ⟨x, y, u, v⟩ mv)) W) := by
  obtain ⟨W0, hW0, hb0, hr0⟩ := carBox W x y u v
  have HB0 := hide hb0
  have HA := hide (ha.keep hb0)
  have HR0 := hide hr0
  have HIS := hide (l08Is_any a c ss W0 HA.out hl hz)
  clear ha hr0 hb0
  cases hok : trk ss
  · have hfin : Hid (movC ss ⟨x, y, u, v⟩ mv = 1) := hide (by unfold movC carC; rw [hok]; rfl)
    rw [hok] at HIS
    clear hl hz hok
    go_enter Tryd.func59, Tryd.ntmps59
    go_wp2_with fail
    rw [← hW0]
    clear hW0
    (try go_wp2_with fail)
    refine HIS.out.mono ?_
    rintro e w1 ⟨rfl, hb1⟩
    have HB1 := hide (Below.trans' HB0.out hb1)
    clear hb1
    go_wp2_with fail
    go_ret
    exact ⟨by rw [hfin.out]; rfl, HB1.out⟩
  have hs := trk_shp hok
  rw [hok] at HIS
  cases hf : freeB ss x y
  · have hfin : Hid (movC ss ⟨x, y, u, v⟩ mv = 2) := hide (by unfold movC carC okCr; rw [hok, hf]; rfl)
    have HF := hide hf
    clear hl hz hok hf
    go_enter Tryd.func59, Tryd.ntmps59
    go_wp2_with fail
    rw [← hW0]
    clear hW0
    (try go_wp2_with fail)
    refine HIS.out.mono ?_
    rintro e w1 ⟨rfl, hb1⟩
    have HB1 := hide (Below.trans' HB0.out hb1)
    have HA1 := hide (HA.out.keep hb1)
    have HR1 := hide (box_keep HR0.out hb1)
    clear hb1

    obtain ⟨d0, d1, d2, d3⟩ := row4 HR1.out
    go_wp2_with fail
    refine (l08Free_is HF.out HA1.out hs).mono ?_
    rintro e w2 ⟨rfl, hb2⟩
    have HB2 := hide (Below.trans' HB1.out hb2)
    have HR2 := hide (box_keep HR1.out hb2)
    clear hb2 d0 d1 d2 d3

    go_wp2_with fail
    go_ret
    exact ⟨by rw [hfin.out]; rfl, HB2.out⟩
  cases hu : okSpeed u
  · have hfin : Hid (movC ss ⟨x, y, u, v⟩ mv = 2) := hide (by unfold movC carC okCr; rw [hok, hf, hu]; rfl)
    have HF := hide hf
    have HU : Hid (inI u (-5) 5 = false) := hide hu
    clear hl hz hok hf hu
    go_enter Tryd.func59, Tryd.ntmps59
    go_wp2_with fail
    rw [← hW0]
    clear hW0
    (try go_wp2_with fail)
    refine HIS.out.mono ?_
    rintro e w1 ⟨rfl, hb1⟩
    have HB1 := hide (Below.trans' HB0.out hb1)
    have HA1 := hide (HA.out.keep hb1)
    have HR1 := hide (box_keep HR0.out hb1)
    clear hb1

    obtain ⟨d0, d1, d2, d3⟩ := row4 HR1.out
    go_wp2_with fail
    refine (l08Free_is HF.out HA1.out hs).mono ?_
    rintro e w2 ⟨rfl, hb2⟩
    have HB2 := hide (Below.trans' HB1.out hb2)
    have HR2 := hide (box_keep HR1.out hb2)
    clear hb2 d0 d1 d2 d3

    obtain ⟨d0, d1, d2, d3⟩ := row4 HR2.out
    go_wp2_with fail
    refine (inI_is HU.out _).mono ?_
    rintro e w3 ⟨rfl, hb3⟩
    have HB3 := hide (Below.trans' HB2.out hb3)
    have HR3 := hide (box_keep HR2.out hb3)
    clear hb3 d0 d1 d2 d3

    go_wp2_with fail
    go_ret
    exact ⟨by rw [hfin.out]; rfl, HB3.out⟩
  cases hv : okSpeed v
  · have hfin : Hid (movC ss ⟨x, y, u, v⟩ mv = 2) := hide (by unfold movC carC okCr; rw [hok, hf, hu, hv]; rfl)
    have HF := hide hf
    have HU : Hid (inI u (-5) 5 = true) := hide hu
    have HV : Hid (inI v (-5) 5 = false) := hide hv
    clear hl hz hok hf hu hv
    go_enter Tryd.func59, Tryd.ntmps59
    go_wp2_with fail
    rw [← hW0]
    clear hW0
    (try go_wp2_with fail)
    refine HIS.out.mono ?_
    rintro e w1 ⟨rfl, hb1⟩
    have HB1 := hide (Below.trans' HB0.out hb1)
    have HA1 := hide (HA.out.keep hb1)
    have HR1 := hide (box_keep HR0.out hb1)
    clear hb1

    obtain ⟨d0, d1, d2, d3⟩ := row4 HR1.out
    go_wp2_with fail
    refine (l08Free_is HF.out HA1.out hs).mono ?_
    rintro e w2 ⟨rfl, hb2⟩
    have HB2 := hide (Below.trans' HB1.out hb2)
    have HR2 := hide (box_keep HR1.out hb2)
    clear hb2 d0 d1 d2 d3

    obtain ⟨d0, d1, d2, d3⟩ := row4 HR2.out
    go_wp2_with fail
    refine (inI_is HU.out _).mono ?_
    rintro e w3 ⟨rfl, hb3⟩
    have HB3 := hide (Below.trans' HB2.out hb3)
    have HR3 := hide (box_keep HR2.out hb3)
    clear hb3 d0 d1 d2 d3

    obtain ⟨d0, d1, d2, d3⟩ := row4 HR3.out
    go_wp2_with fail
    refine (inI_is HV.out _).mono ?_
    rintro e w4 ⟨rfl, hb4⟩
    have HB4 := hide (Below.trans' HB3.out hb4)
    have HR4 := hide (box_keep HR3.out hb4)
    clear hb4 d0 d1 d2 d3

    go_wp2_with fail
    go_ret
    exact ⟨by rw [hfin.out]; rfl, HB4.out⟩
  have hfin : Hid (movC ss ⟨x, y, u, v⟩ mv = if inI mv 0 8 = true then 0 else 2) := hide (by unfold movC carC okCr; rw [hok, hf, hu, hv]; rfl)
  have HF := hide hf
  have HU : Hid (inI u (-5) 5 = true) := hide hu
  have HV : Hid (inI v (-5) 5 = true) := hide hv
  obtain ⟨b, hb⟩ : ∃ b, inI mv 0 8 = b := ⟨_, rfl⟩
  have HM := hide hb
  rw [hb] at hfin
  clear hl hz hok hf hu hv hb
  go_enter Tryd.func59, Tryd.ntmps59
  go_wp2_with fail
  rw [← hW0]
  clear hW0
  (try go_wp2_with fail)
  refine HIS.out.mono ?_
  rintro e w1 ⟨rfl, hb1⟩
  have HB1 := hide (Below.trans' HB0.out hb1)
  have HA1 := hide (HA.out.keep hb1)
  have HR1 := hide (box_keep HR0.out hb1)
  clear hb1

  obtain ⟨d0, d1, d2, d3⟩ := row4 HR1.out
  go_wp2_with fail
  refine (l08Free_is HF.out HA1.out hs).mono ?_
  rintro e w2 ⟨rfl, hb2⟩
  have HB2 := hide (Below.trans' HB1.out hb2)
  have HR2 := hide (box_keep HR1.out hb2)
  clear hb2 d0 d1 d2 d3

  obtain ⟨d0, d1, d2, d3⟩ := row4 HR2.out
  go_wp2_with fail
  refine (inI_is HU.out _).mono ?_
  rintro e w3 ⟨rfl, hb3⟩
  have HB3 := hide (Below.trans' HB2.out hb3)
  have HR3 := hide (box_keep HR2.out hb3)
  clear hb3 d0 d1 d2 d3

  obtain ⟨d0, d1, d2, d3⟩ := row4 HR3.out
  go_wp2_with fail
  refine (inI_is HV.out _).mono ?_
  rintro e w4 ⟨rfl, hb4⟩
  have HB4 := hide (Below.trans' HB3.out hb4)
  have HR4 := hide (box_keep HR3.out hb4)
  clear hb4 d0 d1 d2 d3

  obtain ⟨d0, d1, d2, d3⟩ := row4 HR4.out
  go_wp2_with fail
  refine (inI_is HM.out _).mono ?_
  rintro e w5 ⟨rfl, hb5⟩
  have HB5 := hide (Below.trans' HB4.out hb5)
  have HR5 := hide (box_keep HR4.out hb5)
  clear hb5 d0 d1 d2 d3
  cases b
  · go_wp2_with fail
    go_ret
    exact ⟨by rw [hfin.out]; rfl, HB5.out⟩
  · go_wp2_with fail
    go_ret
    exact ⟨by rw [hfin.out]; rfl, HB5.out⟩

set_option maxRecDepth 100000 in
set_option maxHeartbeats 2000000 in
theorem specMove_any (a : Option Addr) (c : Nat) (ss : List ByteArray) (x y u v mv : Int) (W : World) (ha : StrsAt W a ss) (hl : ss.length ≤ 1048576) (hz : ∀ s ∈ ss, s.size ≤ 1048576) :
    Calls Tryd.prog 35 #[.slice a ss.length c, .agg #[.int .i64 x, .int .i64 y, .int .i64 u, .int .i64 v], .int .i64 mv] W (RetB (.tuple #[crV (mvR ss ⟨x, y, u, v⟩ mv).1, .int .i64 (mvR ss ⟨x, y, u, v⟩ mv).2]) W) := by
  obtain ⟨W0, hW0, hb0, hr0, hr1⟩ := carBox2 W x y u v
  have HB0 := hide hb0
  have HA := hide (ha.keep hb0)
  have HR0 := hide hr0
  have HR1 := hide hr1
  obtain ⟨d0, d1, d2, d3⟩ := row4 hr0
  rw [hW0] at d0 d1 d2 d3
  have HCM := hide (l08Car_any a c ss x y u v mv W0 HA.out hl hz)
  obtain ⟨k, hk⟩ : ∃ k, k = movC ss ⟨x, y, u, v⟩ mv := ⟨_, rfl⟩
  rw [← hk] at HCM
  clear ha hr0 hr1 hb0 hl hz
  by_cases h0 : k = 0
  · obtain ⟨hc0, m0, m8⟩ := movC_zero (hk.symm.trans h0)
    obtain ⟨ht, hok⟩ := carC_zero hc0
    have hsh := trk_shp ht
    have HMV := hide (fun V (h : StrsAt V a ss) => l08Move_any a c ss x y u v mv V h hsh hok m0 m8)
    have hR : Hid (mvR ss ⟨x, y, u, v⟩ mv = ((mvS ss ⟨x, y, u, v⟩ mv).1, if (mvS ss ⟨x, y, u, v⟩ mv).2 = true then 0 else 5)) := hide (by
      unfold mvR mvS
      rw [← hk, if_pos h0]
      split <;> rfl)
    obtain ⟨K, hK⟩ : ∃ K, K = mvS ss ⟨x, y, u, v⟩ mv := ⟨_, rfl⟩
    have hKz : Hid (K.2 = false → K.1 = Cr.zero) := hide (by
      rw [hK]
      unfold mvS
      split
      · intro h; cases h
      · intro _; rfl)
    rw [← hK] at hR HMV
    rw [hR.out]
    obtain ⟨⟨gx, gy, gu, gv⟩, ok⟩ := K
    subst h0
    clear hk hok ht hc0 hsh hK
    unfold crV at HMV ⊢
    dsimp only at HMV hKz ⊢
    cases ok
    · have hz := hKz.out rfl
      obtain ⟨rfl, rfl, rfl, rfl⟩ : gx = 0 ∧ gy = 0 ∧ gu = 0 ∧ gv = 0 := by
        unfold Cr.zero at hz
        simpa using hz
      clear hz hKz
      go_enter Tryd.func35, Tryd.ntmps35
      go_wp2_with fail
      rw [← hW0]
      clear hW0
      (try go_wp2_with fail)
      refine HCM.out.mono ?_
      rintro e w1 ⟨rfl, hb1⟩
      have HB1 := hide (Below.trans' HB0.out hb1)
      have HA1 := hide (HA.out.keep hb1)
      have HR11 := hide (box_keep HR1.out hb1)
      clear d0 d1 d2 d3
      obtain ⟨d0, d1, d2, d3⟩ := row4 (box_keep HR0.out hb1)
      clear hb1
      go_wp2_with fail
      refine (HMV.out _ HA1.out).mono ?_
      rintro e w2 ⟨rfl, hb2⟩
      obtain ⟨V2, hV2⟩ : ∃ V2, V2 = w2.alloc (.cells #[.int .i64 0, .int .i64 0, .int .i64 0, .int .i64 0] 28) := ⟨_, rfl⟩
      have hbV : Below w2.heap.size w2 V2 := by rw [hV2]; exact below_alloc _ _
      have hrV : V2.heap[w2.heap.size]? = some (.cells #[.int .i64 0, .int .i64 0, .int .i64 0, .int .i64 0] 28 (0, 0)) := by rw [hV2]; exact row_new _ _ _
      have HB2 := hide (Below.trans' HB1.out (Below.trans' hb2 hbV))
      have hr3 := box_keep HR11.out (Below.trans' hb2 hbV)
      have hne : W.heap.size + 1 < w2.heap.size := by have := block_lt HR11.out; have := hb2.size; omega
      clear d0 d1 d2 d3
      go_upto_region 5 with fail
      rw [← hV2]
      clear hV2 hb2 hbV
      have hst := st4_box (0) (0) (0) (0) hr3
      obtain ⟨f0, f1, f2, f3⟩ := froz4 hr3
      obtain ⟨e0, e1, e2, e3⟩ := row4 hr3
      obtain ⟨j0, j1, j2, j3⟩ := row4 hst
      have hB := hide (st4_below (0) (0) (0) (0) (b := W.heap.size + 1) HB2.out (by omega))
      have HJ := hide (And.intro j0 (And.intro j1 (And.intro j2 j3)))
      clear hst j0 j1 j2 j3 hrV hr3
      go_wp2_with fail
      obtain ⟨j0, j1, j2, j3⟩ := HJ.out
      unfold st4 at j0 j1 j2 j3 hB
      exact bodyPost_ret (v := .tuple #[.agg #[.int .i64 0, .int .i64 0, .int .i64 0, .int .i64 0], .int .i64 5]) (by simp [results, Tryd.results35, go_sem, j0, j1, j2, j3]) rfl ⟨rfl, hB.out⟩
    · go_enter Tryd.func35, Tryd.ntmps35
      go_wp2_with fail
      rw [← hW0]
      clear hW0
      (try go_wp2_with fail)
      refine HCM.out.mono ?_
      rintro e w1 ⟨rfl, hb1⟩
      have HB1 := hide (Below.trans' HB0.out hb1)
      have HA1 := hide (HA.out.keep hb1)
      have HR11 := hide (box_keep HR1.out hb1)
      clear d0 d1 d2 d3
      obtain ⟨d0, d1, d2, d3⟩ := row4 (box_keep HR0.out hb1)
      clear hb1
      go_wp2_with fail
      refine (HMV.out _ HA1.out).mono ?_
      rintro e w2 ⟨rfl, hb2⟩
      obtain ⟨V2, hV2⟩ : ∃ V2, V2 = w2.alloc (.cells #[.int .i64 gx, .int .i64 gy, .int .i64 gu, .int .i64 gv] 28) := ⟨_, rfl⟩
      have hbV : Below w2.heap.size w2 V2 := by rw [hV2]; exact below_alloc _ _
      have hrV : V2.heap[w2.heap.size]? = some (.cells #[.int .i64 gx, .int .i64 gy, .int .i64 gu, .int .i64 gv] 28 (0, 0)) := by rw [hV2]; exact row_new _ _ _
      have HB2 := hide (Below.trans' HB1.out (Below.trans' hb2 hbV))
      have hr3 := box_keep HR11.out (Below.trans' hb2 hbV)
      have hne : W.heap.size + 1 < w2.heap.size := by have := block_lt HR11.out; have := hb2.size; omega
      clear d0 d1 d2 d3
      go_upto_region 5 with fail
      rw [← hV2]
      clear hV2 hb2 hbV
      obtain ⟨g0, g1, g2, g3⟩ := row4 hrV
      have hst := st4_box gx gy gu gv hr3
      obtain ⟨f0, f1, f2, f3⟩ := froz4 hr3
      obtain ⟨e0, e1, e2, e3⟩ := row4 hr3
      obtain ⟨j0, j1, j2, j3⟩ := row4 hst
      have hB := hide (st4_below gx gy gu gv (b := W.heap.size + 1) HB2.out (by omega))
      have HJ := hide (And.intro j0 (And.intro j1 (And.intro j2 j3)))
      clear hst j0 j1 j2 j3 hrV hr3
      go_wp2_with fail
      obtain ⟨j0, j1, j2, j3⟩ := HJ.out
      unfold st4 at j0 j1 j2 j3 hB
      exact bodyPost_ret (v := .tuple #[.agg #[.int .i64 gx, .int .i64 gy, .int .i64 gu, .int .i64 gv], .int .i64 0]) (by simp [results, Tryd.results35, go_sem, j0, j1, j2, j3]) rfl ⟨rfl, hB.out⟩
  · have hR : Hid (mvR ss ⟨x, y, u, v⟩ mv = (Cr.zero, k)) := hide (by unfold mvR; rw [← hk, if_neg h0])
    rw [hR.out]
    clear hk
    go_enter Tryd.func35, Tryd.ntmps35
    go_wp2_with fail
    rw [← hW0]
    clear hW0
    (try go_wp2_with fail)
    refine HCM.out.mono ?_
    rintro e w1 ⟨rfl, hb1⟩
    have HB1 := hide (Below.trans' HB0.out hb1)
    have hr3 := box_keep HR1.out hb1
    clear hb1 d0 d1 d2 d3
    have hst := st4_box (0) (0) (0) (0) hr3
    obtain ⟨f0, f1, f2, f3⟩ := froz4 hr3
    obtain ⟨e0, e1, e2, e3⟩ := row4 hr3
    obtain ⟨j0, j1, j2, j3⟩ := row4 hst
    have hB := hide (st4_below (0) (0) (0) (0) (b := W.heap.size + 1) HB1.out (by omega))
    have HJ := hide (And.intro j0 (And.intro j1 (And.intro j2 j3)))
    clear hst j0 j1 j2 j3
    go_wp2_with fail
    obtain ⟨j0, j1, j2, j3⟩ := HJ.out
    unfold st4 at j0 j1 j2 j3 hB
    exact bodyPost_ret (v := .tuple #[.agg #[.int .i64 0, .int .i64 0, .int .i64 0, .int .i64 0], .int .i64 k]) (by simp [results, Tryd.results35, go_sem, j0, j1, j2, j3]) rfl ⟨rfl, hB.out⟩
end Go.Proofs.YtmoekjgnichgnaaDoor
