/-
  FnExactDriveRoute: for every argument the law returns true and leaves its argument as it was. No condition. The row lists tables of Go's own library (one of them held against the form's constant), which the law's road never reads; the tied card closes the row.
-/
import Derived.Test.YtmoekjgnichgnaaDoorDi
import Derived.Test.YtmoekjgnichgnaaDoorTo
import Derived.Test.YtmoekjgnichgnaaDoorTie
import Derived.Test.YtmoekjgnichgnaaDoorCards
import Derived.SevenTiedAt
import Derived.LaidMore
import Derived.Lay
import Derived.Stop.Joined
namespace Go.Proofs.YtmoekjgnichgnaaDoor.LawDriveRoute
open Go.ChangeShapes Go.WideShapes Go.ChangeAt Go.RowKit Go.Deep
set_option linter.unusedVariables false

set_option maxRecDepth 100000 in
set_option maxHeartbeats 8000000 in
theorem walk (a : Option Addr) (c : Nat) (ss : List ByteArray) (am : Option Addr) (cm : Nat) (ms : List Int) (W : World) (ha : StrsAt W a ss) (hn : ss.length ≤ 9223372036854775807) (hm : ∀ s ∈ ss, s.size ≤ maxLen) (hi : IntsAt W am ms) (hmn : ms.length ≤ 9223372036854775807) :
    Calls Tryd.prog 11 #[.slice a ss.length c, .slice am ms.length cm] W fun e w' => e = .returned (.bool true) ∧ Below W.heap.size W w' := by
  by_cases hbig : 1048576 < ms.length
  · clear ha hi
    go_enter Tryd.func11, Tryd.ntmps11
    go_wp2_with fail
    go_ret
    exact ⟨rfl, Below.refl _ _⟩
  have hml : ms.length ≤ 1048576 := by omega
  obtain ⟨s, hs⟩ : ∃ s, s = szS ss := ⟨_, rfl⟩
  have HSZ := hide (szStringS_any a c ss W ha hn hm)
  rw [← hs] at HSZ
  by_cases hneg : s < 0
  · clear hs ha hi
    go_enter Tryd.func11, Tryd.ntmps11
    go_wp2_with fail
    refine HSZ.out.mono ?_
    rintro e w1 ⟨rfl, rfl⟩
    go_wp2_with fail
    go_ret
    exact ⟨rfl, Below.refl _ _⟩
  obtain ⟨hl, hz⟩ := szS_le (by rw [← hs]; exact hneg)
  have HL := hide hl
  have HZ := hide hz
  have HA := hide ha
  have HM := hide hi
  clear hs hz ha hm hi
  obtain ⟨r, hr⟩ : ∃ r, r = drR ss ms := ⟨_, rfl⟩
  have HC1 : Hid (∀ (V : World) (a am : Option Addr) (c cm : Nat), StrsAt V a ss → IntsAt V am ms → Calls Tryd.prog 43 #[.slice a ss.length c, .slice am ms.length cm] V (RetB (.tuple #[crV r.1, .int .i64 r.2]) V)) := hide (fun V a am c cm ha hm => by rw [hr]; exact specDrive_any a c ss am cm ms V ha HL.out HZ.out hm hml)
  have HC2 : Hid (∀ (V : World) (a am : Option Addr) (c cm : Nat), StrsAt V a ss → ss.length ≤ c → IntsAt V am ms → ms.length ≤ cm → Calls Tryd.prog 45 #[.slice a ss.length c, .slice am ms.length cm] V (RetB (.tuple #[crV r.1, .int .i64 r.2]) V)) := hide (fun V a am c cm ha hc hm hmc => by rw [hr]; exact implDrive_any a c ss am cm ms V ha HL.out HZ.out hc hm hml hmc)
  clear hr
  obtain ⟨⟨gx, gy, gu, gv⟩, k⟩ := r
  unfold crV at HC1 HC2
  dsimp only at HC1 HC2
  have e1 : (k != k) = false := by simp
  go_enter Tryd.func11, Tryd.ntmps11
  go_wp2_with fail
  refine HSZ.out.mono ?_
  rintro e w1 ⟨rfl, rfl⟩
  go_wp2_with fail
  refine (toStringS_any _ _ ss _ HA.out HL.out).mono ?_
  rintro e w2 ⟨g2, k2, rfl, ho2, hb2⟩
  have hB2 := hide hb2
  have hI2 := hide (strsAt_of_ownsRow ho2)
  clear hb2 ho2
  go_wp2_with fail
  refine (toInt64S_any _ _ ms _ (HM.out.keep hB2.out) hml).mono ?_
  rintro e w3 ⟨g3, k3, rfl, ho3, hb3⟩
  have hB3 := hide (Below.trans' hB2.out hb3)
  have hI3 := hide (hI2.out.keep hb3)
  have hM3 := hide (intsAt_of_ownsRow ho3)
  clear hb3 ho3
  go_wp2_with fail
  refine (HC1.out _ _ _ _ _ hI3.out hM3.out).mono ?_
  rintro e w4 ⟨rfl, hb4⟩
  obtain ⟨V4, hV4⟩ : ∃ V4, V4 = w4.alloc (.cells #[.int .i64 gx, .int .i64 gy, .int .i64 gu, .int .i64 gv] 28) := ⟨_, rfl⟩
  have hbV : Below w4.heap.size w4 V4 := by rw [hV4]; exact below_alloc _ _
  have hX4 : Hid (V4.heap[w4.heap.size]? = some (.cells #[.int .i64 gx, .int .i64 gy, .int .i64 gu, .int .i64 gv] 28 (0, 0))) := by rw [hV4]; exact hide (row_new _ _ _)
  have hB4 := hide (Below.trans' hB3.out (Below.trans' hb4 hbV))
  clear hb4 hbV
  go_wp2_with fail
  rw [← hV4]
  clear hV4
  (try go_wp2_with fail)
  refine (toStringS_any _ _ ss _ (HA.out.keep hB4.out) HL.out).mono ?_
  rintro e w5 ⟨g5, k5, rfl, ho5, hb5⟩
  have hB5 := hide (Below.trans' hB4.out hb5)
  have hX5 := hide (box_keep hX4.out hb5)
  have hI5 := hide (strsAt_of_ownsRow ho5)
  have hc5 := own_cap ho5
  clear hb5 ho5
  go_wp2_with fail
  refine (toInt64S_any _ _ ms _ (HM.out.keep hB5.out) hml).mono ?_
  rintro e w6 ⟨g6, k6, rfl, ho6, hb6⟩
  have hB6 := hide (Below.trans' hB5.out hb6)
  have hX6 := hide (box_keep hX5.out hb6)
  have hI6 := hide (hI5.out.keep hb6)
  have hM6 := hide (intsAt_of_ownsRow ho6)
  have hc6 := own_cap ho6
  clear hb6 ho6
  go_wp2_with fail
  refine (HC2.out _ _ _ _ _ hI6.out hc5 hM6.out hc6).mono ?_
  rintro e w7 ⟨rfl, hb7⟩
  obtain ⟨V7, hV7⟩ : ∃ V7, V7 = w7.alloc (.cells #[.int .i64 gx, .int .i64 gy, .int .i64 gu, .int .i64 gv] 28) := ⟨_, rfl⟩
  have hbV : Below w7.heap.size w7 V7 := by rw [hV7]; exact below_alloc _ _
  have hY7 : Hid (V7.heap[w7.heap.size]? = some (.cells #[.int .i64 gx, .int .i64 gy, .int .i64 gu, .int .i64 gv] 28 (0, 0))) := by rw [hV7]; exact hide (row_new _ _ _)
  have hb77 := Below.trans' hb7 hbV
  have hB7 := hide (Below.trans' hB6.out hb77)
  have hX7 := hide (box_keep hX6.out hb77)
  have hI7 := hide (hI6.out.keep hb77)
  have hM7 := hide (hM6.out.keep hb77)
  clear hb7 hbV hb77 hc5 hc6
  obtain ⟨c0, c1, c2, c3⟩ := row4 hX7.out
  obtain ⟨d0, d1, d2, d3⟩ := row4 hY7.out
  rw [hV7] at c0 c1 c2 c3 d0 d1 d2 d3
  go_wp2_with fail
  rw [← hV7]
  clear hV7
  (try go_wp2_with fail)
  refine (eqCar_same _ _ _ _ _).mono ?_
  rintro e w8 ⟨rfl, hb8⟩
  have hB8 := hide (Below.trans' hB7.out hb8)
  have hI8 := hide (hI7.out.keep hb8)
  have hM8 := hide (hM7.out.keep hb8)
  clear hb8 c0 c1 c2 c3 d0 d1 d2 d3
  go_wp2_with fail
  refine (toStringS_any _ _ ss _ (HA.out.keep hB8.out) HL.out).mono ?_
  rintro e w9 ⟨g9, k9, rfl, ho9, hb9⟩
  have hB9 := hide (Below.trans' hB8.out hb9)
  have hI9 := hide (strsAt_of_ownsRow ho9)
  have hJ9 := hide (hI8.out.keep hb9)
  have hM9 := hide (hM8.out.keep hb9)
  clear hb9 ho9
  go_wp2_with fail
  refine (eqStringS_same _ _ _ _ ss _ hJ9.out hI9.out HL.out).mono ?_
  rintro e w10 ⟨rfl, hb10⟩
  have hB10 := hide (Below.trans' hB9.out hb10)
  have hM10 := hide (hM9.out.keep hb10)
  clear hb10
  go_wp2_with fail
  refine (toInt64S_any _ _ ms _ (HM.out.keep hB10.out) hml).mono ?_
  rintro e w11 ⟨g11, k11, rfl, ho11, hb11⟩
  have hB11 := hide (Below.trans' hB10.out hb11)
  have hM11 := hide (hM10.out.keep hb11)
  have hN11 := hide (intsAt_of_ownsRow ho11)
  clear hb11 ho11
  go_wp2_with fail
  refine (eqInt64S_same _ _ _ _ ms _ hM11.out hN11.out hml).mono ?_
  rintro e w12 ⟨rfl, hb12⟩
  have hB12 := hide (Below.trans' hB11.out hb12)
  clear hb12
  go_wp2_with fail
  go_ret
  exact ⟨rfl, hB12.out⟩

/-- The listed tables. -/
abbrev laidT : List (String × DataW Unit) := Rows.fnExactDriveRouteRow.laid

set_option maxRecDepth 100000 in
theorem lifted (os : Os) (started : os.Started) (H : Type) (enc : TypeId × Value → H) :
    ReturnsInHanded {} Tryd.checked os 11 .any (fun w args => (Rows.fnExactDriveRouteSpec.pre enc Tryd.prog Tryd.f11 [] false w args ∧ laidMetH Tryd.prog laidT w) ∧ sizedMet enc Tryd.prog Tryd.f11 (OpenSpec.ofChange Rows.fnExactDriveRouteSpec) false w args)
      (Rows.fnExactDriveRouteSpec.post enc Tryd.prog Tryd.f11 false true false false) := by
  refine returnsInHanded_of_change_and (C := Tryd.checked) (X := fun w _ => laidMetH Tryd.prog laidT w) (fun _ _ _ hh h => h.of_heap hh) own started (by kernel_rfl) Tryd.func11
    (ChangeSpec.witness_shaped (enc := enc) (C := Tryd.checked) (os := os) (X := fun w _ => laidMetH Tryd.prog laidT w) false (World.laidAll Tryd.prog os laidT) #[.slice none 0 0, .slice none 0 0] 8 (World.laidAll_os _ _ _)
      (World.shaped_of_ZipB (by kernel_rfl) (by kernel_rfl)) (by kernel_rfl) (by kernel_rfl) (by kernel_rfl)
      (by rw [MakeChecks.laidMetH_plain _ _ _ (by kernel_rfl)]; exact laidMet_laidAll _ (by kernel_rfl) (by kernel_rfl))) ?_
  intro W base args ds gs before hval0 hW _ _ _ _
  have hval : ∀ (j : Nat) t v, Tryd.f11.params[j]? = some t → args[j]? = some v → Value.okWide Tryd.prog W .any base t v := hval0
  have hW' := hW
  obtain ⟨p, q, hA0, hV, rfl, hfz, hnd⟩ := hW
  have hA : DataW.TrodAll enc Tryd.prog W 0 (fun _ => true) true Tryd.f11.params.toList args.toList ds p := hA0
  rw [Tryd.params11] at hA hval
  obtain ⟨v0, vs0, d0, ds0, p0, q0, hargs, rfl, rfl, h0, r0⟩ := trodAll_cons hA
  obtain ⟨v1, vs1, d1, ds1, p1, q1, rfl, rfl, rfl, h1, r1⟩ := trodAll_cons r0
  obtain ⟨rfl, rfl, rfl⟩ := trodAll_nil r1
  obtain rfl : args = #[v0, v1] := by cases args; simp_all
  obtain ⟨rfl, rfl⟩ := trodVars_none hV
  have k0 := h0
  have lt0 : ∀ x ∈ p0, x.block < W.heap.size := by obtain ⟨m, hm⟩ := k0; exact DataW.trod_lt m _ _ _ hm
  have k1 := h1
  have lt1 : ∀ x ∈ p1, x.block < W.heap.size := by obtain ⟨m, hm⟩ := k1; exact DataW.trod_lt m _ _ _ hm
  obtain ⟨a0, c0, x0, rfl, e0, l0, z0⟩ := open_texts (hval 0 22 v0 rfl rfl) h0
  obtain ⟨a1, c1, x1, rfl, e1, l1⟩ := open_list (hval 1 39 v1 rfl rfl) h1
  clear hA0 hval0
  refine (walk a0 c0 x0 a1 c1 x1 W e0 l0 z0 e1 l1).mono fun e W' ⟨he, bel⟩ => ?_
  subst he
  exact ⟨_, rfl, _, _, _, [], _, [], hW', trodAll_mk1 (shut_bool Tryd.underlying4 _), (trodAll_cons_mk (Below.trod laidOut (by kernel_rfl) (of_decide_eq_true (by kernel_rfl)) k0 bel lt0) (trodAll_cons_mk (Below.trod laidOut (by kernel_rfl) (of_decide_eq_true (by kernel_rfl)) k1 bel lt1) trodAll_mk0)), rfl, bel.frame _, fun h => by cases h⟩

theorem over : Rows.fnExactDriveRouteRow.holds Tryd.pinned (OpenSpec.ofChange Rows.fnExactDriveRouteSpec) :=
  OpenClaim.holds_of_wide 11 Tryd.f11 rfl rfl rfl rfl rfl rfl rfl ⟨rfl, rfl, rfl, rfl, rfl⟩ rfl rfl rfl rfl rfl (by kernel_rfl) Tryd.func11 (by kernel_rfl)
    (of_decide_eq_true (by kernel_rfl)) (by unfold Func.isWrapper; first | (rw [if_pos (by decide +kernel)]; kernel_rfl) | (rw [if_neg (by decide +kernel)]; exact ⟨rfl, rfl⟩))
    (fun os started H enc _ => lifted os started H enc)

theorem proved : Rows.FnExactDriveRouteCardSaid :=
  Claim7.holds_tied_plain_at .later [] [.data, .pinned] true Rows.fnExactDriveRouteCard.stood.harness false
    over (fun _ h => by cases h) (by kernel_rfl) (fun _ h => by cases h) fnExactDriveRoute_row_tie rfl ⟨rfl, rfl⟩ (by kernel_rfl) rfl
    (fun f fn hf hfn => by
      obtain rfl : f = 11 := Option.some.inj ((show Tryd.prog.funcNamed "loop.example/g01388/laws.FnExactDriveRoute" = some 11 by kernel_rfl).symm.trans hf) |>.symm
      obtain rfl : fn = Tryd.f11 := (Option.some.inj (Tryd.func11.symm.trans hfn)).symm
      exact ⟨by kernel_rfl, fun j t ht => by
        rw [Tryd.params11] at ht
        have hm : t ∈ [22, 39] := by simpa using Array.mem_of_getElem? ht
        have hall : ([22, 39].all fun u => !Tryd.prog.wantsStandIn u) = true := by kernel_rfl
        exact (show Tryd.prog.wantsStandIn t = false by simpa using List.all_eq_true.1 hall t hm)⟩)
    (by kernel_rfl)
end Go.Proofs.YtmoekjgnichgnaaDoor.LawDriveRoute
