/-
  FnExactAgrees: for every argument the law returns true and leaves its argument as it was. No condition.
-/
import Derived.Test.YthcnilbgjaahfaaHq
import Derived.Test.YthcnilbgjaahfaaSk
import Derived.Test.YthcnilbgjaahfaaLv
namespace Go.Proofs.Ythcnilbgjaahfaa.LawAgrees
open Go.ChangeShapes Go.WideShapes Go.ChangeAt Go.RowKit
set_option linter.unusedVariables false

set_option maxRecDepth 100000 in
set_option maxHeartbeats 2000000 in
theorem walk (wd hi : Int) (a : Option Addr) (c : Nat) (cs : List Int) (af : Option Addr) (cf : Nat) (f : List Int) (ax : Option Addr) (cx : Nat) (ps : List (Int × Int)) (W : World) (ha : IntsAt W a cs) (hn : cs.length ≤ 9223372036854775807) (hf : IntsAt W af f) (hfn : f.length ≤ 9223372036854775807) (hx : ShotsAt W ax ps) (hxn : ps.length ≤ 9223372036854775807) :
    Calls Try.prog 9 #[.agg #[.int .i64 wd, .int .i64 hi, .slice a cs.length c], .slice af f.length cf, .slice ax ps.length cx] W fun e w' => e = .returned (.bool true) ∧ Below W.heap.size W w' := by
  obtain ⟨s, hs⟩ : ∃ s, s = szH cs.length := ⟨_, rfl⟩
  have HS := hide hs
  obtain ⟨W0, hW0⟩ : ∃ W0, W0 = W.alloc (.cells #[.int .i64 wd, .int .i64 hi, .slice a cs.length c] 24) := ⟨_, rfl⟩
  have hB0 : Hid (Below W.heap.size W W0) := by rw [hW0]; exact hide (below_alloc _ _)
  have hX0 : Hid (SeaIn W0 W.heap.size wd hi a cs.length c) := by rw [hW0]; exact hide (seaIn_new _ _ _ _ _ _ _)
  have hA0 := hide (ha.keep hB0.out)
  obtain ⟨c0, c1, c2⟩ := hX0.out
  have HA := hide ha
  have HF := hide hf
  have HX := hide hx
  clear ha hf hx
  by_cases hlong : 1048576 < f.length
  · clear hs
    go_enter Try.func9, Try.ntmps9
    go_wp2_with fail
    rw [← hW0]
    clear hW0
    have hcap : decide ((f.length : Int) > 1048576) = true := by simp; omega
    go_wp2_with fail
    (try rw [hcap])
    (try go_wp2_with fail)
    go_ret
    exact ⟨rfl, hB0.out⟩
  have hfl : f.length ≤ 1048576 := by omega
  have HFL := hide hfl
  have hcap : decide ((f.length : Int) > 1048576) = false := by simp; omega
  have HCAP := hide hcap
  clear hcap
  by_cases hneg : s < 0
  · clear hs
    go_enter Try.func9, Try.ntmps9
    go_wp2_with fail
    rw [← hW0]
    clear hW0
    (try go_wp2_with fail)
    (try (rw [HCAP.out]; go_wp2_with fail))
    refine (szSea_any _ _ _ _ _ _ hn).mono ?_
    rintro e w1 ⟨rfl, hb1⟩
    rw [← HS.out]
    have hB1 := hide (Below.trans' hB0.out hb1)
    clear hb1 c0 c1 c2
    go_wp2_with fail
    go_ret
    exact ⟨rfl, hB1.out⟩
  have hl : cs.length ≤ 1048576 := szH_le (by rw [← hs]; exact hneg)
  have HL := hide hl
  have hs1 : s ≤ 1048576 := by rw [hs]; unfold szH; split <;> omega
  have hs2 : Hid (s = 1048576 - (cs.length : Int)) := hide (by rw [hs]; unfold szH; rw [if_neg]; rw [hs] at hneg; unfold szH at hneg; split at hneg <;> omega)
  clear hs
  obtain ⟨s3, hs3⟩ : ∃ s3, s3 = if s - (ps.length : Int) < 0 then -1 else s - (ps.length : Int) := ⟨_, rfl⟩
  have HSZ := hide (fun w => szShotS_any ax ps.length cx s w (by omega) hs1 hxn)
  rw [← hs3] at HSZ
  by_cases hneg3 : s3 < 0
  · clear hs3 hs1
    have hd3 : decide (s3 < 0) = true := decide_eq_true hneg3
    go_enter Try.func9, Try.ntmps9
    go_wp2_with fail
    rw [← hW0]
    clear hW0
    (try go_wp2_with fail)
    (try (rw [HCAP.out]; go_wp2_with fail))
    refine (szSea_any _ _ _ _ _ _ hn).mono ?_
    rintro e w1 ⟨rfl, hb1⟩
    rw [← HS.out]
    have hB1 := hide (Below.trans' hB0.out hb1)
    clear hb1 c0 c1 c2
    go_wp2_with fail
    refine (HSZ.out _).mono ?_
    rintro e w2 ⟨rfl, rfl⟩
    go_wp2_with fail
    go_ret
    exact ⟨rfl, hB1.out⟩
  have hxl : ps.length ≤ 1048576 := by
    have := hs2.out
    split at hs3 <;> omega
  have HXL := hide hxl
  have hd3 : decide (s3 < 0) = false := decide_eq_false hneg3
  clear hs3 hs1
  obtain ⟨r0, r1, hr⟩ : ∃ (r0 : Bool) (r1 : Int), agrR wd hi cs f ps = (r0, r1) := ⟨_, _, rfl⟩
  have HR := hide hr
  clear hr
  have HC1 : Hid (∀ (V : World) (a : Option Addr) (c : Nat) (af : Option Addr) (cf : Nat) (ax : Option Addr) (cx : Nat), IntsAt V a cs → IntsAt V af f → ShotsAt V ax ps → Calls Try.prog 36 #[.agg #[.int .i64 wd, .int .i64 hi, .slice a cs.length c], .slice af f.length cf, .slice ax ps.length cx] V (RetB (.tuple #[.bool r0, .int .i64 r1]) V)) := hide (fun V a c af cf ax cx ha hf hx => by have h := specAgrees_any wd hi a c cs af cf f ax cx ps V ha hl hf hfl hx hxl; rw [HR.out] at h; exact h)
  have HC2 : Hid (∀ (V : World) (a : Option Addr) (c : Nat) (af : Option Addr) (cf : Nat) (ax : Option Addr) (cx : Nat), IntsAt V a cs → IntsAt V af f → ShotsAt V ax ps → Calls Try.prog 38 #[.agg #[.int .i64 wd, .int .i64 hi, .slice a cs.length c], .slice af f.length cf, .slice ax ps.length cx] V (RetB (.tuple #[.bool r0, .int .i64 r1]) V)) := hide (fun V a c af cf ax cx ha hf hx => by have h := implAgrees_any wd hi a c cs af cf f ax cx ps V ha hl hf hfl hx hxl; rw [HR.out] at h; exact h)
  clear HR
  go_enter Try.func9, Try.ntmps9
  go_wp2_with fail
  rw [← hW0]
  clear hW0
  (try go_wp2_with fail)
  (try (rw [HCAP.out]; go_wp2_with fail))
  refine (szSea_any _ _ _ _ _ _ hn).mono ?_
  rintro e w1 ⟨rfl, hb1⟩
  rw [← HS.out]
  have hB1 := hide (Below.trans' hB0.out hb1)
  have hX1 := hide (hX0.out.keep hb1)
  have hA1 := hide (hA0.out.keep hb1)
  clear hb1 c0 c1 c2
  obtain ⟨c0, c1, c2⟩ := hX1.out
  go_wp2_with fail
  refine (HSZ.out _).mono ?_
  rintro e w1b ⟨rfl, rfl⟩
  go_wp2_with fail
  refine (toSea_any _ _ _ _ cs _ hA1.out HL.out).mono ?_
  rintro e w2 ⟨g2, k2, rfl, ho2, hb2⟩
  have hB2 := hide (Below.trans' hB1.out hb2)
  have hX2 := hide (hX1.out.keep hb2)
  have hI2 := hide (intsAt_of_ownsRow ho2)
  clear hb2 c0 c1 c2 ho2
  go_wp2_with fail
  refine (toInt64S_any _ _ f _ (HF.out.keep hB2.out) HFL.out).mono ?_
  rintro e w2b ⟨g2b, k2b, rfl, ho2b, hb2b⟩
  have hB2b := hide (Below.trans' hB2.out hb2b)
  have hX2b := hide (hX2.out.keep hb2b)
  have hI2a := hide (hI2.out.keep hb2b)
  have hI2b := hide (intsAt_of_ownsRow ho2b)
  clear hb2b ho2b
  go_wp2_with fail
  refine (toShotS_any _ _ ps _ (HX.out.keep hB2b.out) HXL.out).mono ?_
  rintro e w2c ⟨g2c, rfl, ho2c, hb2c⟩
  have hB2c := hide (Below.trans' hB2b.out hb2c)
  have hX2c := hide (hX2b.out.keep hb2c)
  have hI2d := hide (hI2a.out.keep hb2c)
  have hI2e := hide (hI2b.out.keep hb2c)
  have hI2f := hide ho2c
  clear hb2c ho2c
  go_wp2_with fail
  -- the model
  refine (HC1.out _ _ _ _ _ _ _ hI2d.out hI2e.out hI2f.out).mono ?_
  rintro e w3 ⟨rfl, hb3⟩
  have hB3 := hide (Below.trans' hB2c.out hb3)
  have hX3 := hide (hX2c.out.keep hb3)
  clear hb3
  obtain ⟨c0, c1, c2⟩ := hX3.out
  go_wp2_with fail
  refine (toSea_any _ _ _ _ cs _ (HA.out.keep hB3.out) HL.out).mono ?_
  rintro e w4 ⟨g4, k4, rfl, ho4, hb4⟩
  obtain ⟨W4, hW4⟩ : ∃ W4, W4 = w4.alloc (.cells #[.int .i64 wd, .int .i64 hi, .slice (some ⟨g4, 0, none⟩) cs.length k4] 27) := ⟨_, rfl⟩
  have hb44 : Below w4.heap.size w4 W4 := by rw [hW4]; exact below_alloc _ _
  have hb4' : Below w3.heap.size w3 W4 := Below.trans' hb4 hb44
  have hY4 : Hid (SeaIn W4 w4.heap.size wd hi (some ⟨g4, 0, none⟩) cs.length k4) := by rw [hW4]; exact hide (seaIn_new _ _ _ _ _ _ _)
  have hO4 := hide (ownsRow_keep ho4 hb44)
  have hB4 := hide (Below.trans' hB3.out hb4')
  have hX4 := hide (hX3.out.keep hb4')
  have hT4 := hide hb4'
  have hg4 := hide (ho4.lt g4 rfl)
  have hz34 : w3.heap.size ≤ w4.heap.size := hb4.size
  have hX3l : Hid (W.heap.size < w3.heap.size) := hide hX3.out.lt
  clear hb4 hb4' hb44 c0 c1 c2 ho4
  obtain ⟨x0, x1, x2⟩ := hX4.out
  go_wp2_with fail
  rw [← hW4]
  clear hW4
  obtain ⟨y0, y1, y2⟩ := hY4.out
  (try go_wp2_with fail)
  refine (toInt64S_any _ _ f _ (HF.out.keep hB4.out) HFL.out).mono ?_
  rintro e w4b ⟨g4b, k4b, rfl, ho4b, hb4b⟩
  have hzW : Hid (w4.heap.size < W4.heap.size) := hide hY4.out.lt
  have hB4b := hide (Below.trans' hB4.out hb4b)
  have hX4b := hide (hX4.out.keep hb4b)
  have hY4b := hide (hY4.out.keep hb4b)
  have hO4b := hide (ownsRow_keep hO4.out hb4b)
  have hO4f := hide ho4b
  clear hb4b ho4b x0 x1 x2 y0 y1 y2
  go_wp2_with fail
  refine (toShotS_any _ _ ps _ (HX.out.keep hB4b.out) HXL.out).mono ?_
  rintro e w4c ⟨g4c, rfl, ho4c, hb4c⟩
  have hB4c := hide (Below.trans' hB4b.out hb4c)
  have hX4c := hide (hX4b.out.keep hb4c)
  have hY4c := hide (hY4b.out.keep hb4c)
  have hO4c := hide (ownsRow_keep hO4b.out hb4c)
  have hO4g := hide (ownsRow_keep hO4f.out hb4c)
  have hO4s := hide ho4c
  clear hb4c ho4c
  obtain ⟨x0, x1, x2⟩ := hX4c.out
  obtain ⟨y0, y1, y2⟩ := hY4c.out
  go_wp2_with fail
  -- the program
  refine (HC2.out _ _ _ _ _ _ _ (intsAt_of_ownsRow hO4c.out) (intsAt_of_ownsRow hO4g.out) hO4s.out).mono ?_
  rintro e w5 ⟨rfl, hb5⟩
  have hB5 := hide (Below.trans' hB4c.out hb5)
  obtain ⟨x0, x1, x2⟩ := hX4c.out.keep hb5
  obtain ⟨z0, z1, z2⟩ := hY4c.out.keep hb5
  have hI5 := hide (intsAt_of_ownsRow (ownsRow_keep hO4c.out hb5))
  have hF5 := hide (ownsRow_keep hO4g.out hb5)
  have hS5 := hide (hO4s.out.keep hb5)
  clear hb5 y0 y1 y2
  go_wp2_with fail
  have hd5 : Below w5.heap.size w5 w5.drew := Below.drew (Below.refl _ _)
  have hA6 := hide (HA.out.keep (Below.trans' hB5.out hd5))
  have hI6 := hide (hI5.out.keep hd5)
  have xd0 := cell_keep hd5 x0
  have xd1 := cell_keep hd5 x1
  have xd2 := cell_keep hd5 x2
  have zd0 := cell_keep hd5 z0
  have zd1 := cell_keep hd5 z1
  have zd2 := cell_keep hd5 z2
  go_region_held3 (fun V => V.cell? ⟨W.heap.size, 0, none⟩ = some (.int .i64 wd) ∧ V.cell? ⟨W.heap.size, 1, none⟩ = some (.int .i64 hi) ∧ V.cell? ⟨W.heap.size, 2, none⟩ = some (.slice a cs.length c) ∧ V.cell? ⟨w4.heap.size, 0, none⟩ = some (.int .i64 wd) ∧ V.cell? ⟨w4.heap.size, 1, none⟩ = some (.int .i64 hi) ∧ V.cell? ⟨w4.heap.size, 2, none⟩ = some (.slice (some ⟨g4, 0, none⟩) cs.length k4) ∧ Below w5.heap.size w5 V) (first | (exact ⟨xd0, xd1, xd2, zd0, zd1, zd2, hd5⟩) | (exact ⟨cell_keep hB6 xd0, cell_keep hB6 xd1, cell_keep hB6 xd2, cell_keep hB6 zd0, cell_keep hB6 zd1, cell_keep hB6 zd2, Below.trans' hd5 hB6⟩) | (exact ⟨cell_keep hB7 (cell_keep hB6 xd0), cell_keep hB7 (cell_keep hB6 xd1), cell_keep hB7 (cell_keep hB6 xd2), cell_keep hB7 (cell_keep hB6 zd0), cell_keep hB7 (cell_keep hB6 zd1), cell_keep hB7 (cell_keep hB6 zd2), Below.trans' (Below.trans' hd5 hB6) hB7⟩)) (first | (go_at_call 14; refine (toSea_any _ _ _ _ cs _ hA6.out HL.out).mono ?_; rintro e w6 ⟨g6, k6, rfl, ho6, hB6⟩) | (go_at_call 16; refine (eqSea_same _ _ _ _ _ _ cs _ (hI6.out.keep hB6) (intsAt_of_ownsRow ho6) HL.out).mono ?_; rintro e w7 ⟨rfl, hB7⟩))
  have hb57 := Below.trans' (Below.trans' hd5 hB6) hB7
  have hB7b := hide (Below.trans' hB5.out hb57)
  have hF7 := hide (intsAt_of_ownsRow (ownsRow_keep hF5.out hb57))
  have hS7 := hide (hS5.out.keep hb57)
  clear hb57 hB6 hB7 hd5 xd0 xd1 xd2 zd0 zd1 zd2 x0 x1 x2 z0 z1 z2
  go_wp2_with fail
  refine (toInt64S_any _ _ f _ (HF.out.keep hB7b.out) HFL.out).mono ?_
  rintro e w8 ⟨g8, k8, rfl, ho8, hb8⟩
  have hB8 := hide (Below.trans' hB7b.out hb8)
  have hF8 := hide (hF7.out.keep hb8)
  have hS8 := hide (hS7.out.keep hb8)
  have hI8 := hide (intsAt_of_ownsRow ho8)
  clear hb8 ho8
  go_wp2_with fail
  refine (eqInt64S_same _ _ _ _ f _ hF8.out hI8.out HFL.out).mono ?_
  rintro e w9 ⟨rfl, hb9⟩
  have hB9 := hide (Below.trans' hB8.out hb9)
  have hS9 := hide (hS8.out.keep hb9)
  clear hb9
  go_wp2_with fail
  refine (toShotS_any _ _ ps _ (HX.out.keep hB9.out) HXL.out).mono ?_
  rintro e v1 ⟨gv, rfl, hov, hbv⟩
  have hBv := hide (Below.trans' hB9.out hbv)
  have hSv := hide (hS9.out.keep hbv)
  have hIv := hide hov
  clear hbv hov
  go_wp2_with fail
  refine (eqShotS_same _ _ _ _ ps _ hSv.out hIv.out HXL.out).mono ?_
  rintro e v2 ⟨rfl, hbw⟩
  have hBw := hide (Below.trans' hBv.out hbw)
  clear hbw
  go_wp2_with fail
  go_ret
  exact ⟨rfl, hBw.out⟩

set_option maxRecDepth 100000 in
theorem lifted (os : Os) (started : os.Started) (H : Type) (enc : TypeId × Value → H) :
    ReturnsInHanded {} Try.checked os 9 .any (Rows.fnExactAgreesSpec.pre6 enc Try.prog Try.f9 Rows.fnExactAgreesRow.domain false) (Rows.fnExactAgreesSpec.post enc Try.prog Try.f9 false true false false) := by
  refine returnsInHanded_of_change (C := Try.checked) own started (by kernel_rfl) Try.func9
    (ChangeSpec.witness6 (enc := enc) (C := Try.checked) false ⟨#[], #[.agg #[.int .i64 0, .int .i64 0, .slice none 0 0], .slice none 0 0, .slice none 0 0], []⟩ 8 (by kernel_rfl) (by kernel_rfl) (by kernel_rfl) (by kernel_rfl)) ?_
  intro W base args ds gs before hval0 hW hcnd _
  have hval : ∀ (j : Nat) t v, Try.f9.params[j]? = some t → args[j]? = some v → Value.okWide Try.prog W .any base t v := hval0
  have hW' := hW
  obtain ⟨p, q, hA0, hV, rfl, hfz, hnd⟩ := hW
  have hA : DataW.TrodAll enc Try.prog W 0 (fun _ => true) true Try.f9.params.toList args.toList ds p := hA0
  rw [Try.params9] at hA hval
  obtain ⟨v0, vs0, d0, ds0, p0, q0, hargs, rfl, rfl, h0, r0⟩ := trodAll_cons hA
  obtain ⟨v1, vs1, d1, ds1, p1, q1, rfl, rfl, rfl, h1, r1⟩ := trodAll_cons r0
  obtain ⟨v2, vs2, d2, ds2, p2, q2, rfl, rfl, rfl, h2, r2⟩ := trodAll_cons r1
  obtain ⟨rfl, rfl, rfl⟩ := trodAll_nil r2
  obtain rfl : args = #[v0, v1, v2] := by cases args; simp_all
  obtain ⟨rfl, rfl⟩ := trodVars_none hV
  have k0 := h0
  have lt0 : ∀ x ∈ p0, x.block < W.heap.size := by obtain ⟨m, hm⟩ := k0; exact DataW.trod_lt m _ _ _ hm
  obtain ⟨wd0, hi0, a0, c0, x0, rfl, e0, l0⟩ := open_sea (hval 0 24 v0 rfl rfl) h0
  have k1 := h1
  have lt1 : ∀ x ∈ p1, x.block < W.heap.size := by obtain ⟨m, hm⟩ := k1; exact DataW.trod_lt m _ _ _ hm
  obtain ⟨a1, c1, x1, rfl, e1, n1⟩ := open_list (hval 1 22 v1 rfl rfl) h1
  have k2 := h2
  have lt2 : ∀ x ∈ p2, x.block < W.heap.size := by obtain ⟨m, hm⟩ := k2; exact DataW.trod_lt m _ _ _ hm
  obtain ⟨a2, c2, x2, rfl, e2, n2⟩ := open_shots (hval 2 50 v2 rfl rfl) h2
  clear hA0 hval0
  refine (walk wd0 hi0 a0 c0 x0 a1 c1 x1 a2 c2 x2 W e0 l0 e1 n1 e2 n2).mono fun e W' ⟨he, bel⟩ => ?_
  subst he
  exact ⟨_, rfl, _, _, _, [], _, [], hW', trodAll_mk1 (shut_bool Try.underlying4 _), (trodAll_cons_mk (Below.trod laidOut (by kernel_rfl) (of_decide_eq_true (by kernel_rfl)) k0 bel lt0) (trodAll_cons_mk (Below.trod laidOut (by kernel_rfl) (of_decide_eq_true (by kernel_rfl)) k1 bel lt1) (trodAll_cons_mk (Below.trod laidOut (by kernel_rfl) (of_decide_eq_true (by kernel_rfl)) k2 bel lt2) trodAll_mk0))), rfl, bel.frame _, fun h => by cases h⟩

theorem over : Rows.fnExactAgreesRow.holds Try.pinned (OpenSpec.ofChange Rows.fnExactAgreesSpec) :=
  OpenClaim.holds_of_wide_leaving 9 Try.f9 rfl rfl rfl rfl rfl rfl rfl ⟨rfl, rfl, rfl, rfl, rfl⟩ rfl rfl rfl rfl rfl (by kernel_rfl) Try.func9 (by kernel_rfl)
    (of_decide_eq_true (by kernel_rfl)) (by unfold Func.isWrapper; first | (rw [if_pos (by decide +kernel)]; kernel_rfl) | (rw [if_neg (by decide +kernel)]; exact ⟨rfl, rfl⟩))
    (fun os started H enc _ => leaving_of_handed (lifted os started H enc))

theorem proved : Rows.FnExactAgreesSaid := over
end Go.Proofs.Ythcnilbgjaahfaa.LawAgrees
