/-
  FnExactFirstCar: for every argument the law returns true and leaves its argument as it was. No condition. The row lists tables of Go's own library (one of them held against the form's constant), which the law's road never reads; the tied card closes the row.
-/
import Derived.Test.YtmoekjgnichgnaaDoorTg
import Derived.Test.YtmoekjgnichgnaaDoorTie
import Derived.Test.YtmoekjgnichgnaaDoorCards
import Derived.SevenTiedAt
import Derived.LaidMore
import Derived.Lay
import Derived.Stop.Joined
namespace Go.Proofs.YtmoekjgnichgnaaDoor.LawFirstCar
open Go.ChangeShapes Go.WideShapes Go.ChangeAt Go.RowKit Go.Deep
set_option linter.unusedVariables false

set_option maxRecDepth 100000 in
set_option maxHeartbeats 2000000 in
theorem walk (a : Option Addr) (c : Nat) (ss : List ByteArray) (W : World) (ha : StrsAt W a ss) (hn : ss.length ≤ 9223372036854775807) (hm : ∀ s ∈ ss, s.size ≤ maxLen) :
    Calls Tryd.prog 4 #[.slice a ss.length c] W fun e w' => e = .returned (.bool true) ∧ Below W.heap.size W w' := by
  obtain ⟨s, hs⟩ : ∃ s, s = szS ss := ⟨_, rfl⟩
  have HSZ := hide (szStringS_any a c ss W ha hn hm)
  rw [← hs] at HSZ
  by_cases hneg : s < 0
  · clear hs
    go_enter Tryd.func4, Tryd.ntmps4
    go_wp2_with fail
    refine HSZ.out.mono ?_
    rintro e w1 ⟨rfl, rfl⟩
    go_wp2_with fail
    go_ret
    exact ⟨rfl, Below.refl _ _⟩
  obtain ⟨hl, hz⟩ := szS_le (by rw [← hs]; exact hneg)
  have HL := hide hl
  have HZ := hide hz
  have HA := hide ha
  clear hs hz ha hm
  obtain ⟨r, hr⟩ : ∃ r, r = fcR ss := ⟨_, rfl⟩
  have HC1 : Hid (∀ (V : World) (a : Option Addr) (c : Nat), StrsAt V a ss → Calls Tryd.prog 20 #[.slice a ss.length c] V (RetB (.tuple #[crV r.1, .int .i64 r.2]) V)) := hide (fun V a c ha => by rw [hr]; exact specFirstCar_any a c ss V ha HL.out HZ.out)
  have HC2 : Hid (∀ (V : World) (a : Option Addr) (c : Nat), StrsAt V a ss → ss.length ≤ c → Calls Tryd.prog 21 #[.slice a ss.length c] V (RetB (.tuple #[crV r.1, .int .i64 r.2]) V)) := hide (fun V a c ha hc => by rw [hr]; exact implFirstCar_any a c ss V ha HL.out HZ.out hc)
  clear hr
  obtain ⟨⟨x, y, u, v⟩, k⟩ := r
  unfold crV at HC1 HC2
  go_enter Tryd.func4, Tryd.ntmps4
  go_wp2_with fail
  refine HSZ.out.mono ?_
  rintro e w1 ⟨rfl, rfl⟩
  go_wp2_with fail
  refine (toStringS_any _ _ ss _ HA.out HL.out).mono ?_
  rintro e w2 ⟨g2, k2, rfl, ho2, hb2⟩
  have hB2 := hide hb2
  have hI2 := hide (strsAt_of_ownsRow ho2)
  clear hb2 ho2
  go_wp2_with fail
  refine (HC1.out _ _ _ hI2.out).mono ?_
  rintro e w3 ⟨rfl, hb3⟩
  have hB3 := hide (Below.trans' hB2.out hb3)
  obtain ⟨V3, hV3⟩ : ∃ V3, V3 = w3.alloc (.cells #[.int .i64 x, .int .i64 y, .int .i64 u, .int .i64 v] 28) := ⟨_, rfl⟩
  have hb33 : Below w3.heap.size w3 V3 := by rw [hV3]; exact below_alloc _ _
  have hX3 : Hid (V3.heap[w3.heap.size]? = some (.cells #[.int .i64 x, .int .i64 y, .int .i64 u, .int .i64 v] 28 (0, 0))) := by rw [hV3]; exact hide (row_new _ _ _)
  have hB33 := hide (Below.trans' hB3.out hb33)
  clear hb3 hb33
  go_wp2_with fail
  rw [← hV3]
  clear hV3
  (try go_wp2_with fail)
  refine (toStringS_any _ _ ss _ (HA.out.keep hB33.out) HL.out).mono ?_
  rintro e w4 ⟨g4, k4, rfl, ho4, hb4⟩
  have hB4 := hide (Below.trans' hB33.out hb4)
  have hX4 := hide (box_keep hX3.out hb4)
  have hI4 := hide (strsAt_of_ownsRow ho4)
  have hc4 := own_cap ho4
  clear hb4 ho4
  go_wp2_with fail
  refine (HC2.out _ _ _ hI4.out hc4).mono ?_
  rintro e w5 ⟨rfl, hb5⟩
  have hB5 := hide (Below.trans' hB4.out hb5)
  obtain ⟨V5, hV5⟩ : ∃ V5, V5 = w5.alloc (.cells #[.int .i64 x, .int .i64 y, .int .i64 u, .int .i64 v] 28) := ⟨_, rfl⟩
  have hb55 : Below w5.heap.size w5 V5 := by rw [hV5]; exact below_alloc _ _
  have hY5 : Hid (V5.heap[w5.heap.size]? = some (.cells #[.int .i64 x, .int .i64 y, .int .i64 u, .int .i64 v] 28 (0, 0))) := by rw [hV5]; exact hide (row_new _ _ _)
  have hB55 := hide (Below.trans' hB5.out hb55)
  have hX5 := hide (box_keep hX4.out (Below.trans' hb5 hb55))
  have hI5 := hide (hI4.out.keep (Below.trans' hb5 hb55))
  clear hb5 hc4 hb55
  obtain ⟨c0, c1, c2, c3⟩ := row4 hX5.out
  obtain ⟨d0, d1, d2, d3⟩ := row4 hY5.out
  rw [hV5] at c0 c1 c2 c3 d0 d1 d2 d3
  go_wp2_with fail
  rw [← hV5]
  clear hV5
  (try go_wp2_with fail)
  refine (eqCar_same _ _ _ _ _).mono ?_
  rintro e w6 ⟨rfl, hb6⟩
  have hB6 := hide (Below.trans' hB55.out hb6)
  have hI6 := hide (hI5.out.keep hb6)
  clear hb6 c0 c1 c2 c3 d0 d1 d2 d3
  go_wp2_with fail
  refine (toStringS_any _ _ ss _ (HA.out.keep hB6.out) HL.out).mono ?_
  rintro e w7 ⟨g7, k7, rfl, ho7, hb7⟩
  have hB7 := hide (Below.trans' hB6.out hb7)
  have hI7 := hide (strsAt_of_ownsRow ho7)
  have hJ7 := hide (hI6.out.keep hb7)
  clear hb7 ho7
  go_wp2_with fail
  refine (eqStringS_same _ _ _ _ ss _ hJ7.out hI7.out HL.out).mono ?_
  rintro e w8 ⟨rfl, hb8⟩
  have hB8 := hide (Below.trans' hB7.out hb8)
  clear hb8
  go_wp2_with fail
  go_ret
  exact ⟨rfl, hB8.out⟩

/-- The listed tables. -/
abbrev laidT : List (String × DataW Unit) := Rows.fnExactFirstCarRow.laid

set_option maxRecDepth 100000 in
theorem lifted (os : Os) (started : os.Started) (H : Type) (enc : TypeId × Value → H) :
    ReturnsInHanded {} Tryd.checked os 4 .any (fun w args => (Rows.fnExactFirstCarSpec.pre enc Tryd.prog Tryd.f4 [] false w args ∧ laidMetH Tryd.prog laidT w) ∧ sizedMet enc Tryd.prog Tryd.f4 (OpenSpec.ofChange Rows.fnExactFirstCarSpec) false w args)
      (Rows.fnExactFirstCarSpec.post enc Tryd.prog Tryd.f4 false true false false) := by
  refine returnsInHanded_of_change_and (C := Tryd.checked) (X := fun w _ => laidMetH Tryd.prog laidT w) (fun _ _ _ hh h => h.of_heap hh) own started (by kernel_rfl) Tryd.func4
    (ChangeSpec.witness_shaped (enc := enc) (C := Tryd.checked) (os := os) (X := fun w _ => laidMetH Tryd.prog laidT w) false (World.laidAll Tryd.prog os laidT) #[.slice none 0 0] 8 (World.laidAll_os _ _ _)
      (World.shaped_of_ZipB (by kernel_rfl) (by kernel_rfl)) (by kernel_rfl) (by kernel_rfl) (by kernel_rfl)
      (by rw [MakeChecks.laidMetH_plain _ _ _ (by kernel_rfl)]; exact laidMet_laidAll _ (by kernel_rfl) (by kernel_rfl))) ?_
  intro W base args ds gs before hval0 hW _ _ _ _
  have hval : ∀ (j : Nat) t v, Tryd.f4.params[j]? = some t → args[j]? = some v → Value.okWide Tryd.prog W .any base t v := hval0
  have hW' := hW
  obtain ⟨p, q, hA0, hV, rfl, hfz, hnd⟩ := hW
  have hA : DataW.TrodAll enc Tryd.prog W 0 (fun _ => true) true Tryd.f4.params.toList args.toList ds p := hA0
  rw [Tryd.params4] at hA hval
  obtain ⟨v0, vs0, d0, ds0, p0, q0, hargs, rfl, rfl, h0, r0⟩ := trodAll_cons hA
  obtain ⟨rfl, rfl, rfl⟩ := trodAll_nil r0
  obtain rfl : args = #[v0] := by cases args; simp_all
  obtain ⟨rfl, rfl⟩ := trodVars_none hV
  have k0 := h0
  have lt0 : ∀ x ∈ p0, x.block < W.heap.size := by obtain ⟨m, hm⟩ := k0; exact DataW.trod_lt m _ _ _ hm
  obtain ⟨a0, c0, x0, rfl, e0, l0, z0⟩ := open_texts (hval 0 22 v0 rfl rfl) h0
  clear hA0 hval0
  refine (walk a0 c0 x0 W e0 l0 z0).mono fun e W' ⟨he, bel⟩ => ?_
  subst he
  exact ⟨_, rfl, _, _, _, [], _, [], hW', trodAll_mk1 (shut_bool Tryd.underlying4 _), (trodAll_cons_mk (Below.trod laidOut (by kernel_rfl) (of_decide_eq_true (by kernel_rfl)) k0 bel lt0) trodAll_mk0), rfl, bel.frame _, fun h => by cases h⟩

theorem over : Rows.fnExactFirstCarRow.holds Tryd.pinned (OpenSpec.ofChange Rows.fnExactFirstCarSpec) :=
  OpenClaim.holds_of_wide 4 Tryd.f4 rfl rfl rfl rfl rfl rfl rfl ⟨rfl, rfl, rfl, rfl, rfl⟩ rfl rfl rfl rfl rfl (by kernel_rfl) Tryd.func4 (by kernel_rfl)
    (of_decide_eq_true (by kernel_rfl)) (by unfold Func.isWrapper; first | (rw [if_pos (by decide +kernel)]; kernel_rfl) | (rw [if_neg (by decide +kernel)]; exact ⟨rfl, rfl⟩))
    (fun os started H enc _ => lifted os started H enc)

theorem proved : Rows.FnExactFirstCarCardSaid :=
  Claim7.holds_tied_plain_at .later [] [.data, .pinned] true Rows.fnExactFirstCarCard.stood.harness false
    over (fun _ h => by cases h) (by kernel_rfl) (fun _ h => by cases h) fnExactFirstCar_row_tie rfl ⟨rfl, rfl⟩ (by kernel_rfl) rfl
    (fun f fn hf hfn => by
      obtain rfl : f = 4 := Option.some.inj ((show Tryd.prog.funcNamed "loop.example/g01388/laws.FnExactFirstCar" = some 4 by kernel_rfl).symm.trans hf) |>.symm
      obtain rfl : fn = Tryd.f4 := (Option.some.inj (Tryd.func4.symm.trans hfn)).symm
      exact ⟨by kernel_rfl, fun j t ht => by
        rw [Tryd.params4] at ht
        have hm : t ∈ [22] := by simpa using Array.mem_of_getElem? ht
        have hall : ([22].all fun u => !Tryd.prog.wantsStandIn u) = true := by kernel_rfl
        exact (show Tryd.prog.wantsStandIn t = false by simpa using List.all_eq_true.1 hall t hm)⟩)
    (by kernel_rfl)
end Go.Proofs.YtmoekjgnichgnaaDoor.LawFirstCar
