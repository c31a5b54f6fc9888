/-
  FnExactCellsOfFleet: the law's walk.
-/
import Derived.Test.YtkekanllfpdeaaaDoorCe
import Derived.Test.YtkekanllfpdeaaaDoorSk
import Derived.Test.YtkekanllfpdeaaaDoorLv
import Derived.Test.YtkekanllfpdeaaaDoorTg
namespace Go.Proofs.YtkekanllfpdeaaaDoor.LawCellsOfFleet
open Go.ChangeShapes Go.WideShapes Go.ChangeAt Go.RowKit
set_option linter.unusedVariables false

set_option maxRecDepth 100000 in
set_option maxHeartbeats 4000000 in
theorem walk (wd hi : Int) (a : Option Addr) (c : Nat) (cs : List Int) (af : Option Addr) (cf : Nat) (f : List Int) (W : World) (ha : IntsAt W a cs) (hn : cs.length ≤ 9223372036854775807) (hf : IntsAt W af f) (hfn : f.length ≤ 9223372036854775807) (hT : TzTab W) :
    Calls Tryd.prog 9 #[.agg #[.int .i64 wd, .int .i64 hi, .slice a cs.length c], .slice af f.length cf] W fun e w' => e = .returned (.bool true) ∧ Below W.heap.size W w' := by
  have HT := hide hT
  clear hT
  obtain ⟨s, hs⟩ : ∃ s, s = szH cs.length := ⟨_, rfl⟩
  have HS := hide hs
  obtain ⟨W0, hW0⟩ : ∃ W0, W0 = W.alloc (.cells #[.int .i64 wd, .int .i64 hi, .slice a cs.length c] 49) := ⟨_, rfl⟩
  have hB0 : Hid (Below W.heap.size W W0) := by rw [hW0]; exact hide (below_alloc _ _)
  have hX0 : Hid (SeaIn W0 W.heap.size wd hi a cs.length c) := by rw [hW0]; exact hide (seaIn_new _ _ _ _ _ _ _)
  obtain ⟨c0, c1, c2⟩ := hX0.out
  have HA := hide ha
  have HF := hide hf
  clear ha hf
  by_cases hlong : 1048576 < f.length
  · have hcap : decide ((f.length : Int) > 1048576) = true := decide_eq_true (by omega)
    clear hs
    go_enter Tryd.func9, Tryd.ntmps9
    go_wp2_with fail
    rw [← hW0]
    clear hW0
    (try go_wp2_with fail)
    (try (rw [hcap]; go_wp2_with fail))
    go_ret
    exact ⟨rfl, hB0.out⟩
  have hfl : f.length ≤ 1048576 := by omega
  have HFL := hide hfl
  have hcapf : decide ((f.length : Int) > 1048576) = false := decide_eq_false (by omega)
  have HCAPF := hide hcapf
  clear hlong
  by_cases hneg : s < 0
  · clear hs
    go_enter Tryd.func9, Tryd.ntmps9
    go_wp2_with fail
    rw [← hW0]
    clear hW0
    (try go_wp2_with fail)
    (try (rw [HCAPF.out]; go_wp2_with fail))
    refine (szSea_any _ _ _ _ _ _ hn).mono ?_
    rintro e w1 ⟨rfl, hb1⟩
    rw [← HS.out]
    have hB1 := hide (Below.trans' hB0.out hb1)
    clear hb1 c0 c1 c2
    go_wp2_with fail
    go_ret
    exact ⟨rfl, hB1.out⟩
  have hl : cs.length ≤ 1048576 := szH_le (by rw [← hs]; exact hneg)
  have HL := hide hl
  clear hs
  obtain ⟨r, hr⟩ : ∃ r, r = celR wd hi cs f := ⟨_, rfl⟩
  have hrl : r.1.length ≤ 1048576 := by rw [hr]; exact celR_le wd hi cs f
  have HR := hide hr
  clear hr
  have HC1 : Hid (∀ (V : World) (a : Option Addr) (c : Nat) (af : Option Addr) (cf : Nat), IntsAt V a cs → IntsAt V af f → Calls Tryd.prog 37 #[.agg #[.int .i64 wd, .int .i64 hi, .slice a cs.length c], .slice af f.length cf] V (NewList r V)) := hide (fun V a c af cf ha hf => by have h := specCel_any wd hi a c cs af cf f V ha hl hf hfl; rw [← HR.out] at h; exact h)
  have HC2 : Hid (∀ (V : World) (a : Option Addr) (c : Nat) (af : Option Addr) (cf : Nat), IntsAt V a cs → IntsAt V af f → TzTab V → Calls Tryd.prog 40 #[.agg #[.int .i64 wd, .int .i64 hi, .slice a cs.length c], .slice af f.length cf] V (NewList r V)) := hide (fun V a c af cf ha hf hv => by have h := implCel_any wd hi a c cs af cf f V ha hl hf hfl hv; rw [← HR.out] at h; exact h)
  clear HR
  go_enter Tryd.func9, Tryd.ntmps9
  go_wp2_with fail
  rw [← hW0]
  clear hW0
  (try go_wp2_with fail)
  (try (rw [HCAPF.out]; go_wp2_with fail))
  refine (szSea_any _ _ _ _ _ _ hn).mono ?_
  rintro e w1 ⟨rfl, hb1⟩
  rw [← HS.out]
  have hB1 := hide (Below.trans' hB0.out hb1)
  have hX1 := hide (hX0.out.keep hb1)
  clear hb1 c0 c1 c2
  obtain ⟨c0, c1, c2⟩ := hX1.out
  go_wp2_with fail
  refine (toSea_any _ _ _ _ cs _ (HA.out.keep hB1.out) HL.out).mono ?_
  rintro e w2 ⟨g2, k2, rfl, ho2, hb2⟩
  have hB2 := hide (Below.trans' hB1.out hb2)
  have hX2 := hide (hX1.out.keep hb2)
  have hI2 := hide (intsAt_of_ownsRow ho2)
  clear hb2 c0 c1 c2 ho2
  go_wp2_with fail
  refine (toInt64S_any _ _ f _ (HF.out.keep hB2.out) HFL.out).mono ?_
  rintro e w2b ⟨g2b, k2b, rfl, ho2b, hb2b⟩
  have hB2b := hide (Below.trans' hB2.out hb2b)
  have hX2b := hide (hX2.out.keep hb2b)
  have hI2a := hide (hI2.out.keep hb2b)
  have hI2b := hide (intsAt_of_ownsRow ho2b)
  clear hb2b ho2b
  go_wp2_with fail
  -- the model
  refine (HC1.out _ _ _ _ _ hI2a.out hI2b.out).mono ?_
  rintro e w3 ⟨aw, kw, rfl, how, hb3⟩
  have hO3 := hide how
  have hB3 := hide (Below.trans' hB2b.out hb3)
  have hX3 := hide (hX2b.out.keep hb3)
  clear hb3 how
  obtain ⟨c0, c1, c2⟩ := hX3.out
  go_wp2_with fail
  refine (toSea_any _ _ _ _ cs _ (HA.out.keep hB3.out) HL.out).mono ?_
  rintro e w4 ⟨g4, k4, rfl, ho4, hb4⟩
  obtain ⟨W4, hW4⟩ : ∃ W4, W4 = w4.alloc (.cells #[.int .i64 wd, .int .i64 hi, .slice (some ⟨g4, 0, none⟩) cs.length k4] 52) := ⟨_, rfl⟩
  have hb44 : Below w4.heap.size w4 W4 := by rw [hW4]; exact below_alloc _ _
  have hb4' : Below w3.heap.size w3 W4 := Below.trans' hb4 hb44
  have hY4 : Hid (SeaIn W4 w4.heap.size wd hi (some ⟨g4, 0, none⟩) cs.length k4) := by rw [hW4]; exact hide (seaIn_new _ _ _ _ _ _ _)
  have hO4 := hide (ownsRow_keep ho4 hb44)
  have hB4 := hide (Below.trans' hB3.out hb4')
  have hX4 := hide (hX3.out.keep hb4')
  have hg4 := hide (ho4.lt g4 rfl)
  have hz34 : Hid (w3.heap.size ≤ w4.heap.size) := hide hb4.size
  have hzW : Hid (w4.heap.size < W4.heap.size) := hide hY4.out.lt
  have hX3l : Hid (W.heap.size < w3.heap.size) := hide hX3.out.lt
  have hP4 := hide (ownsRow_keep hO3.out hb4')
  have hpw := hide (own_lt' hO3.out)
  clear hb4 hb4' hb44 c0 c1 c2 ho4
  go_wp2_with fail
  rw [← hW4]
  clear hW4
  (try go_wp2_with fail)
  refine (toInt64S_any _ _ f _ (HF.out.keep hB4.out) HFL.out).mono ?_
  rintro e w5 ⟨g5, k5, rfl, ho5, hb5⟩
  have hB5 := hide (Below.trans' hB4.out hb5)
  have hX5 := hide (hX4.out.keep hb5)
  have hY5 := hide (hY4.out.keep hb5)
  have hO5 := hide (ownsRow_keep hO4.out hb5)
  have hP5 := hide (ownsRow_keep hP4.out hb5)
  have hF5 := hide ho5
  have hg5 := hide (ho5.lt g5 rfl)
  obtain ⟨Z5, hZ5⟩ : ∃ Z5, Z5 = w5.heap.size := ⟨_, rfl⟩
  have HZ5 := hide hZ5
  clear hZ5
  have hz45 : Hid (W4.heap.size ≤ w5.heap.size) := hide hb5.size
  clear hb5 ho5
  obtain ⟨y0, y1, y2⟩ := hY5.out
  go_wp2_with fail
  -- the program
  refine (HC2.out _ _ _ _ _ (intsAt_of_ownsRow hO5.out) (intsAt_of_ownsRow hF5.out) (HT.out.keep hB5.out)).mono ?_
  rintro e wi ⟨ag, kg, rfl, hog, hbi⟩
  have hzi : Hid (w5.heap.size ≤ wi.heap.size) := hide hbi.size
  have hOg := hide hog
  have hPi := hide (ownsRow_keep hP5.out hbi)
  have hYi := hide (hY5.out.keep hbi)
  have hXi := hide (hX5.out.keep hbi)
  have hOi := hide (ownsRow_keep hO5.out hbi)
  have hFi := hide (ownsRow_keep hF5.out hbi)
  have hBi := hide (Below.trans' hB5.out hbi)
  have hpg := hide (own_ge hog)
  rw [← HZ5.out] at hpg
  clear hbi hog y0 y1 y2
  go_wp2_with fail
  refine (eqInt64S_same _ _ _ _ r.1 _ (intsAt_of_ownsRow hOg.out) (intsAt_of_ownsRow hPi.out) hrl).mono ?_
  rintro e w5 ⟨rfl, hb5⟩
  have hB5 := hide (Below.trans' hBi.out hb5)
  obtain ⟨x0, x1, x2⟩ := hXi.out.keep hb5
  obtain ⟨z0, z1, z2⟩ := hYi.out.keep hb5
  have hO5 := hide (ownsRow_keep hOi.out hb5)
  have hI5 := hide (intsAt_of_ownsRow hO5.out)
  have hOg5 := hide (ownsRow_keep hOg.out hb5)
  have hP5 := hide (ownsRow_keep hPi.out hb5)
  have hF5 := hide (ownsRow_keep hFi.out hb5)
  have hX5 := hide (hXi.out.keep hb5)
  have hY5 := hide (hYi.out.keep hb5)
  clear hb5
  go_wp2_with fail
  have hd5 : Below w5.heap.size w5 w5.drew := Below.drew (Below.refl _ _)
  have hA6 := hide (HA.out.keep (Below.trans' hB5.out hd5))
  have hI6 := hide (hI5.out.keep hd5)
  have xd0 := cell_keep hd5 x0
  have xd1 := cell_keep hd5 x1
  have xd2 := cell_keep hd5 x2
  have zd0 := cell_keep hd5 z0
  have zd1 := cell_keep hd5 z1
  have zd2 := cell_keep hd5 z2
  go_region_held3 (fun V => V.cell? ⟨W.heap.size, 0, none⟩ = some (.int .i64 wd) ∧ V.cell? ⟨W.heap.size, 1, none⟩ = some (.int .i64 hi) ∧ V.cell? ⟨W.heap.size, 2, none⟩ = some (.slice a cs.length c) ∧ V.cell? ⟨w4.heap.size, 0, none⟩ = some (.int .i64 wd) ∧ V.cell? ⟨w4.heap.size, 1, none⟩ = some (.int .i64 hi) ∧ V.cell? ⟨w4.heap.size, 2, none⟩ = some (.slice (some ⟨g4, 0, none⟩) cs.length k4) ∧ Below w5.heap.size w5 V) (first | (exact ⟨xd0, xd1, xd2, zd0, zd1, zd2, hd5⟩) | (exact ⟨cell_keep hB6 xd0, cell_keep hB6 xd1, cell_keep hB6 xd2, cell_keep hB6 zd0, cell_keep hB6 zd1, cell_keep hB6 zd2, Below.trans' hd5 hB6⟩) | (exact ⟨cell_keep hB7 (cell_keep hB6 xd0), cell_keep hB7 (cell_keep hB6 xd1), cell_keep hB7 (cell_keep hB6 xd2), cell_keep hB7 (cell_keep hB6 zd0), cell_keep hB7 (cell_keep hB6 zd1), cell_keep hB7 (cell_keep hB6 zd2), Below.trans' (Below.trans' hd5 hB6) hB7⟩)) (first | (go_at_call 38; refine (toSea_any _ _ _ _ cs _ hA6.out HL.out).mono ?_; rintro e w6 ⟨g6, k6, rfl, ho6, hB6⟩) | (go_at_call 41; refine (eqSea_same _ _ _ _ _ _ cs _ (hI6.out.keep hB6) (intsAt_of_ownsRow ho6) HL.out).mono ?_; rintro e w7 ⟨rfl, hB7⟩))
  have hb57 := Below.trans' (Below.trans' hd5 hB6) hB7
  have hO7 := hide (ownsRow_keep hO5.out hb57)
  have hOg7 := hide (ownsRow_keep hOg5.out hb57)
  have hP7 := hide (ownsRow_keep hP5.out hb57)
  have hF7 := hide (ownsRow_keep hF5.out hb57)
  have hX7 := hide (hX5.out.keep hb57)
  have hY7 := hide (hY5.out.keep hb57)
  have hB7' := hide (Below.trans' hB5.out hb57)
  clear xd0 xd1 xd2 zd0 zd1 zd2 x0 x1 x2 z0 z1 z2 hb57 hd5 hB6 hB7 ho6
  go_wp2_with fail
  refine (toInt64S_any _ _ f _ (HF.out.keep hB7'.out) HFL.out).mono ?_
  rintro e v1 ⟨g1, k1, rfl, ho1, hb1⟩
  have hBv1 := hide (Below.trans' hB7'.out hb1)
  have hOv1 := hide (ownsRow_keep hO7.out hb1)
  have hOgv1 := hide (ownsRow_keep hOg7.out hb1)
  have hPv1 := hide (ownsRow_keep hP7.out hb1)
  have hFv1 := hide (ownsRow_keep hF7.out hb1)
  have hXv1 := hide (hX7.out.keep hb1)
  have hYv1 := hide (hY7.out.keep hb1)
  have hIv1 := hide (intsAt_of_ownsRow ho1)
  clear hb1 ho1
  go_wp2_with fail
  refine (eqInt64S_same _ _ _ _ f _ (intsAt_of_ownsRow hFv1.out) hIv1.out HFL.out).mono ?_
  rintro e v2 ⟨rfl, hb2⟩
  have hBv2 := hide (Below.trans' hBv1.out hb2)
  have hOv2 := hide (ownsRow_keep hOv1.out hb2)
  have hOgv2 := hide (ownsRow_keep hOgv1.out hb2)
  have hPv2 := hide (ownsRow_keep hPv1.out hb2)
  have hFv2 := hide (ownsRow_keep hFv1.out hb2)
  have hXv2 := hide (hXv1.out.keep hb2)
  have hYv2 := hide (hYv1.out.keep hb2)
  clear hb2
  obtain ⟨y0, y1, y2⟩ := hYv2.out
  go_wp2_with fail
  -- the arguments' marks
  have HZ : Hid (W.heap.size < w3.heap.size ∧ w3.heap.size ≤ g4 ∧ g4 < w4.heap.size ∧ w4.heap.size < W4.heap.size ∧ W4.heap.size ≤ g5 ∧ g5 < Z5) := hide (by
    have h1 := hX3l.out; have h2 := hg4.out; have h3 := hzW.out; have h4 := hg5.out; have h6 := hz45.out; have h8 := hz34.out; have h9 := HZ5.out
    omega)
  refine (markSea_any _ _ _ _ _ _ _ _ hOv2.out HL.out).mono ?_
  rintro e w8 ⟨rfl, ho8, hM8⟩
  have hX8 := hide (hXv2.out.mk1 hM8 (fun e => by have hZ := HZ.out; simp [Value.ownBlock] at e; omega))
  have hOg8 := hide (hM8.owns hOgv2.out (fun g hg e => by have hZ := HZ.out; have h1 := hpg.out g hg; simp [Value.ownBlock] at e; omega))
  have hP8 := hide (hM8.owns hPv2.out (fun g hg e => by have hZ := HZ.out; have h1 := hpw.out g hg; simp [Value.ownBlock] at e; omega))
  have hF8 := hide (hM8.owns hFv2.out (fun g hg e => by have hZ := HZ.out; simp [Value.ownBlock] at e hg; omega))
  have hBW8 := hide (hBv2.out.trans (hM8.old (Nat.le_of_lt hXv2.out.lt) (fun g e => by have hZ := HZ.out; simp [Value.ownBlock] at e; omega)))
  clear y0 y1 y2 hM8 ho8
  go_wp2_with fail
  refine (markInt64S_any _ _ _ _ _ (owned_room hF8.out) HFL.out (by have := HL.out; omega) (by have := HL.out; omega)).mono ?_
  rintro e w9 hp
  obtain ⟨he, ho9, hM9⟩ := mk1_of_marked hF8.out hp
  subst he
  have hX9 := hide (hX8.out.mk1 hM9 (fun e => by have hZ := HZ.out; simp [Value.ownBlock] at e; omega))
  have hOg9 := hide (hM9.owns hOg8.out (fun g hg e => by have hZ := HZ.out; have h1 := hpg.out g hg; simp [Value.ownBlock] at e; omega))
  have hP9 := hide (hM9.owns hP8.out (fun g hg e => by have hZ := HZ.out; have h1 := hpw.out g hg; simp [Value.ownBlock] at e; omega))
  have hBW9 := hide (hBW8.out.trans (hM9.old (Nat.le_of_lt hX8.out.lt) (fun g e => by have hZ := HZ.out; simp [Value.ownBlock] at e; omega)))
  clear hp ho9 hM9
  go_wp2_with fail
  have hkn : decide ((1 + (cs.length : Int) + (f.length : Int)) < 0) = false := decide_eq_false (by omega)
  go_wp2_with fail
  clear hkn
  refine (eqInt64S_same _ _ _ _ r.1 _ (intsAt_of_ownsRow hOg9.out) (intsAt_of_ownsRow hP9.out) hrl).mono ?_
  rintro e w9 ⟨rfl, hb9⟩
  have hX9 := hide (hX9.out.keep hb9)
  have hOg9 := hide (ownsRow_keep hOg9.out hb9)
  have hP9 := hide (ownsRow_keep hP9.out hb9)
  have hBW9 := hide (Below.trans' hBW9.out hb9)
  clear hb9
  go_wp2_with fail
  -- the answer's marks
  refine (markInt64S_any _ _ _ _ _ (owned_room hOg9.out) hrl (by omega) (by omega)).mono ?_
  rintro e w10 hp
  obtain ⟨he, ho10, hM10⟩ := mk1_of_marked hOg9.out hp
  subst he
  have hX10 := hide (hX9.out.mk1 hM10 (fun e => by have hZ := HZ.out; have := hpg.out _ e; omega))
  have hP10 := hide (hM10.owns hP9.out (fun g hg e => by have hZ := HZ.out; have := hpg.out g e; have := hpw.out g hg; omega))
  have hBW10 := hide (hBW9.out.trans (hM10.old (Nat.le_of_lt hX9.out.lt) (fun g e => by have hZ := HZ.out; have := hpg.out g e; omega)))
  have hG10 := hide ho10
  clear hp hM10 ho10
  go_wp2_with fail
  refine (heldInt64S_any _ _ _ _ _ (intsAt_of_ownsRow hG10.out) hrl (by omega) (by omega)).mono ?_
  rintro e w11 ⟨rfl, hq11⟩
  have hb11 : Below w10.heap.size w10 w11 := hq11.below
  have hX11 := hide (hX10.out.keep hb11)
  have hP11 := hide (ownsRow_keep hP10.out hb11)
  have hG11 := hide (ownsRow_keep hG10.out hb11)
  have hBW11 := hide (Below.trans' hBW10.out hb11)
  clear hb11 hq11
  obtain ⟨x0, x1, x2⟩ := hX11.out
  go_wp2_with fail
  -- once more
  refine (toSea_any _ _ _ _ cs _ (HA.out.keep hBW11.out) HL.out).mono ?_
  rintro e w12 ⟨g12, k12, rfl, ho12, hb12⟩
  have hI12 := hide (intsAt_of_ownsRow ho12)
  have hP12 := hide (ownsRow_keep hP11.out hb12)
  have hG12 := hide (ownsRow_keep hG11.out hb12)
  have hBW12 := hide (Below.trans' hBW11.out hb12)
  clear hb12 x0 x1 x2 ho12
  go_wp2_with fail
  refine (toInt64S_any _ _ f _ (HF.out.keep hBW12.out) HFL.out).mono ?_
  rintro e u1 ⟨gu1, ku1, rfl, hou1, hbu1⟩
  have hIu1 := hide (hI12.out.keep hbu1)
  have hJu1 := hide (intsAt_of_ownsRow hou1)
  have hPu1 := hide (ownsRow_keep hP12.out hbu1)
  have hGu1 := hide (ownsRow_keep hG12.out hbu1)
  have hBWu1 := hide (Below.trans' hBW12.out hbu1)
  clear hbu1 hou1
  go_wp2_with fail
  refine (HC2.out _ _ _ _ _ hIu1.out hJu1.out (HT.out.keep hBWu1.out)).mono ?_
  rintro e w13 ⟨ah, kh, rfl, hoh, hb13⟩
  have hH13 := hide (intsAt_of_ownsRow hoh)
  have hP13 := hide (ownsRow_keep hPu1.out hb13)
  have hG13 := hide (ownsRow_keep hGu1.out hb13)
  have hBW13 := hide (Below.trans' hBWu1.out hb13)
  clear hb13 hoh
  go_wp2_with fail
  refine (eqInt64S_same _ _ _ _ r.1 _ hH13.out (intsAt_of_ownsRow hP13.out) hrl).mono ?_
  rintro e w14 ⟨rfl, hb14⟩
  have hG14 := hide (ownsRow_keep hG13.out hb14)
  have hBW14 := hide (Below.trans' hBW13.out hb14)
  clear hb14
  go_wp2_with fail
  refine (heldInt64S_any _ _ _ _ _ (intsAt_of_ownsRow hG14.out) hrl (by omega) (by omega)).mono ?_
  rintro e w15 ⟨rfl, hq15⟩
  have hBW15 := hide (Below.trans' hBW14.out hq15.below)
  clear hq15
  go_wp2_with fail
  go_ret
  exact ⟨rfl, hBW15.out⟩

end Go.Proofs.YtkekanllfpdeaaaDoor.LawCellsOfFleet
