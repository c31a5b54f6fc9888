/-
  FnExactMoveCar: for every argument the law returns true and leaves its argument as it was. No condition. The row lists tables of Go's own library (one of them held against the form's constant), which the law's road never reads; the tied card closes the row.
-/
import Derived.Test.YtmoekjgnichgnaaDoorSv
import Derived.Test.YtmoekjgnichgnaaDoorTo
import Derived.Test.YtmoekjgnichgnaaDoorTie
import Derived.Test.YtmoekjgnichgnaaDoorCards
import Derived.SevenTiedAt
import Derived.LaidMore
import Derived.Lay
import Derived.Stop.Joined
import Derived.Deep.DeepCutAuto
namespace Go.Proofs.YtmoekjgnichgnaaDoor.LawMoveCar
open Go.ChangeShapes Go.WideShapes Go.ChangeAt Go.RowKit Go.Deep
set_option linter.unusedVariables false

theorem keep_new {w w2 : World} {cs : Array Value} {t : TypeId} (h : Below (w.alloc (.cells cs t)).heap.size (w.alloc (.cells cs t)) w2) : w2.heap[w.heap.size]? = some (.cells cs t (0, 0)) := box_keep (heap_alloc_new _ _) h
theorem keep_new2 {w w2 : World} {cs : Array Value} {t : TypeId} (h : Below (w.alloc (.cells cs t)).drew.heap.size (w.alloc (.cells cs t)).drew w2) : w2.heap[w.heap.size]? = some (.cells cs t (0, 0)) := box_keep (w := (w.alloc (.cells cs t)).drew) (heap_alloc_new w _) h

set_option maxRecDepth 100000 in
set_option maxHeartbeats 8000000 in
theorem walk (a : Option Addr) (c : Nat) (ss : List ByteArray) (car : Cr) (mv : Int) (W : World) (ha : StrsAt W a ss) (hn : ss.length ≤ 9223372036854775807) (hm : ∀ s ∈ ss, s.size ≤ maxLen) :
    Calls Tryd.prog 7 #[.slice a ss.length c, crV car, .int .i64 mv] W fun e w' => e = .returned (.bool true) ∧ Below W.heap.size W w' := by
  obtain ⟨x, y, u, v⟩ := car
  unfold crV
  dsimp only
  obtain ⟨V, hV⟩ : ∃ V, V = W.alloc (.cells #[.int .i64 x, .int .i64 y, .int .i64 u, .int .i64 v] 27) := ⟨_, rfl⟩
  have hB0 : Hid (Below W.heap.size W V) := by rw [hV]; exact hide (below_alloc _ _)
  have hX0 : Hid (V.heap[W.heap.size]? = some (.cells #[.int .i64 x, .int .i64 y, .int .i64 u, .int .i64 v] 27 (0, 0))) := by rw [hV]; exact hide (row_new _ _ _)
  obtain ⟨s, hs⟩ : ∃ s, s = szS ss := ⟨_, rfl⟩
  have HSZ := hide (szStringS_any a c ss V (ha.keep hB0.out) hn hm)
  rw [← hs] at HSZ
  by_cases hneg : s < 0
  · clear hs
    go_enter Tryd.func7, Tryd.ntmps7
    go_wp2_with fail
    rw [← hV]
    clear hV
    (try go_wp2_with fail)
    refine HSZ.out.mono ?_
    rintro e w1 ⟨rfl, rfl⟩
    go_wp2_with fail
    go_ret
    exact ⟨rfl, hB0.out⟩
  obtain ⟨hl, hz⟩ := szS_le (by rw [← hs]; exact hneg)
  have HL := hide hl
  have HZ := hide hz
  have HAV := hide (ha.keep hB0.out)
  have HAX := hide (fun (W' : World) (h : Below V.heap.size V W') => HAV.out.keep h)
  clear hs hz ha hm
  obtain ⟨r, hr⟩ : ∃ r, r = mvR ss ⟨x, y, u, v⟩ mv := ⟨_, rfl⟩
  have HC1 : Hid (∀ (V : World) (a : Option Addr) (c : Nat), StrsAt V a ss → Calls Tryd.prog 35 #[.slice a ss.length c, .agg #[.int .i64 x, .int .i64 y, .int .i64 u, .int .i64 v], .int .i64 mv] V (RetB (.tuple #[crV r.1, .int .i64 r.2]) V)) := hide (fun V a c ha => by rw [hr]; exact specMove_any a c ss x y u v mv V ha HL.out HZ.out)
  have HC2 : Hid (∀ (V : World) (a : Option Addr) (c : Nat), StrsAt V a ss → ss.length ≤ c → Calls Tryd.prog 36 #[.slice a ss.length c, .agg #[.int .i64 x, .int .i64 y, .int .i64 u, .int .i64 v], .int .i64 mv] V (RetB (.tuple #[crV r.1, .int .i64 r.2]) V)) := hide (fun V a c ha hc => by rw [hr]; exact implMove_any a c ss x y u v mv V ha HL.out HZ.out hc)
  clear hr
  obtain ⟨⟨gx, gy, gu, gv⟩, k⟩ := r
  unfold crV at HC1 HC2
  obtain ⟨X0, X1, X2, X3⟩ := row4 hX0.out
  go_enter Tryd.func7, Tryd.ntmps7
  go_wp2_with fail
  rw [← hV]
  clear hV
  (try go_wp2_with fail)
  refine HSZ.out.mono ?_
  rintro e w1 ⟨rfl, rfl⟩
  go_upto_region 5 with fail
  have hd : Below V.heap.size V V.drew := Below.drew (Below.refl _ _)
  have hbel : Below V.heap.size V V := Below.refl _ _
  have HS : Hid (∀ W' : World, Below V.heap.size V W' → (W'.cell? ⟨W.heap.size, 0, none⟩ = some (.int .i64 x) ∧ W'.cell? ⟨W.heap.size, 1, none⟩ = some (.int .i64 y) ∧ W'.cell? ⟨W.heap.size, 2, none⟩ = some (.int .i64 u) ∧ W'.cell? ⟨W.heap.size, 3, none⟩ = some (.int .i64 v))) := hide (fun W' h => ⟨cell_keep h X0, cell_keep h X1, cell_keep h X2, cell_keep h X3⟩)
  clear X0 X1 X2 X3
  go_cut [8, 9] (fun sa sb wx => ∃ g : Nat, sa = .pointer (some ⟨g, 0, none⟩) ∧ sb = .int .i64 k ∧ V.heap.size ≤ g ∧ wx.heap[g]? = some (.cells #[.int .i64 gx, .int .i64 gy, .int .i64 gu, .int .i64 gv] 28 (0, 0)) ∧ Below V.heap.size V wx)
  case first =>
    go_region_held3 (fun W' => W'.cell? ⟨W.heap.size, 0, none⟩ = some (.int .i64 x) ∧ W'.cell? ⟨W.heap.size, 1, none⟩ = some (.int .i64 y) ∧ W'.cell? ⟨W.heap.size, 2, none⟩ = some (.int .i64 u) ∧ W'.cell? ⟨W.heap.size, 3, none⟩ = some (.int .i64 v)) (first | (refine HS.out _ ?_; (with_reducible (repeat (first | exact hbel | exact hd | refine Below.drew ?_ | refine Below.alloc' ?_ _ | refine Below.setCell ?_ (by first | exact Nat.le_refl _ | (show V.heap.size ≤ _; omega) | (simp; omega)) _))))) (first | (go_at_call 17; (with_reducible refine (toStringS_any _ _ ss _ (HAX.out _ (by (with_reducible (repeat (first | exact hbel | exact hd | refine Below.drew ?_ | refine Below.alloc' ?_ _ | refine Below.setCell ?_ (by first | exact Nat.le_refl _ | (show V.heap.size ≤ _; omega) | (simp; omega)) _))))) HL.out).mono ?_); rintro e2 w2 ⟨g2, k2, rfl, ho2, hb2⟩; (have hbn2 : Below V.heap.size V w2 := by (refine Below.trans' ?_ hb2; (with_reducible (repeat (first | exact hbel | exact hd | refine Below.drew ?_ | refine Below.alloc' ?_ _ | refine Below.setCell ?_ (by first | exact Nat.le_refl _ | (show V.heap.size ≤ _; omega) | (simp; omega)) _))))); (have hz2 := hbn2.size); (try (with_reducible have al := box_keep al hb2)); (try (with_reducible have al := keep_new hb2)); (try (with_reducible have al := keep_new2 hb2)); (try (have q0 := (row4 al).1; have q1 := (row4 al).2.1; have q2 := (row4 al).2.2.1; have q3 := (row4 al).2.2.2; have qf0 := (froz4 al).1; have qf1 := (froz4 al).2.1; have qf2 := (froz4 al).2.2.1; have qf3 := (froz4 al).2.2.2)); (try (first | (with_reducible have hi := StrsAt.keep hi hb2) | (with_reducible have hi := StrsAt.keep (StrsAt.keep hi (below_alloc _ _)) hb2))); (have hi := strsAt_of_ownsRow ho2); have hbel := hbn2; clear hbn2) | (go_at_call 24; (with_reducible refine (toCar_any x y u v _).mono ?_); rintro e3 w3 ⟨rfl, hb3⟩; (have hbn3 : Below V.heap.size V w3 := by (refine Below.trans' ?_ hb3; (with_reducible (repeat (first | exact hbel | exact hd | refine Below.drew ?_ | refine Below.alloc' ?_ _ | refine Below.setCell ?_ (by first | exact Nat.le_refl _ | (show V.heap.size ≤ _; omega) | (simp; omega)) _))))); (have hz3 := hbn3.size); (try (with_reducible have al := box_keep al hb3)); (try (with_reducible have al := keep_new hb3)); (try (with_reducible have al := keep_new2 hb3)); (try (have q0 := (row4 al).1; have q1 := (row4 al).2.1; have q2 := (row4 al).2.2.1; have q3 := (row4 al).2.2.2; have qf0 := (froz4 al).1; have qf1 := (froz4 al).2.1; have qf2 := (froz4 al).2.2.1; have qf3 := (froz4 al).2.2.2)); (try (first | (with_reducible have hi := StrsAt.keep hi hb3) | (with_reducible have hi := StrsAt.keep (StrsAt.keep hi (below_alloc _ _)) hb3))); have hbel := hbn3; clear hbn3) | (go_at_call 35; (with_reducible refine (HC1.out _ _ _ (by first | exact hi | exact StrsAt.keep hi (below_alloc _ _) | exact StrsAt.keep hi (Below.drew (Below.refl _ _)))).mono ?_); rintro e4 w4 ⟨rfl, hb4⟩; (have hbn4 : Below V.heap.size V w4 := by (refine Below.trans' ?_ hb4; (with_reducible (repeat (first | exact hbel | exact hd | refine Below.drew ?_ | refine Below.alloc' ?_ _ | refine Below.setCell ?_ (by first | exact Nat.le_refl _ | (show V.heap.size ≤ _; omega) | (simp; omega)) _))))); (have hz4 := hbn4.size); (try (with_reducible have al := box_keep al hb4)); (try (with_reducible have al := keep_new hb4)); (try (with_reducible have al := keep_new2 hb4)); (try (have q0 := (row4 al).1; have q1 := (row4 al).2.1; have q2 := (row4 al).2.2.1; have q3 := (row4 al).2.2.2; have qf0 := (froz4 al).1; have qf1 := (froz4 al).2.1; have qf2 := (froz4 al).2.2.1; have qf3 := (froz4 al).2.2.2)); (try (first | (with_reducible have hi := StrsAt.keep hi hb4) | (with_reducible have hi := StrsAt.keep (StrsAt.keep hi (below_alloc _ _)) hb4))); have hbel := hbn4; clear hbn4))
    all_goals
      go_wp2_with fail
      go_meet
      exact ⟨_, rfl, rfl, (by first | exact Nat.le_refl _ | exact hz4 | exact hz3 | exact hz2), (by first | exact st4_box _ _ _ _ al | exact heap_alloc_new _ _), (by (with_reducible (repeat (first | exact hbel | exact hd | refine Below.drew ?_ | refine Below.alloc' ?_ _ | refine Below.setCell ?_ (by first | exact Nat.le_refl _ | (show V.heap.size ≤ _; omega) | (simp; omega)) _))))⟩
  case rest =>
    obtain ⟨g, rfl, rfl, hg, hYr, hBc⟩ := hcut
    have hX1 := hide (box_keep hX0.out hBc)
    have hY1 := hide hYr
    have hB1 := hide (Below.trans' hB0.out hBc)
    have HA1 := hide (HAV.out.keep hBc)
    clear HS hYr hBc hd hbel hg HAX
    go_wp2_with fail
    refine (toStringS_any _ _ ss _ HA1.out HL.out).mono ?_
    rintro e w2 ⟨g2, k2, rfl, ho2, hb2⟩
    have hX2 := hide (box_keep hX1.out hb2)
    have hY2 := hide (box_keep hY1.out hb2)
    have hB2 := hide (Below.trans' hB1.out hb2)
    have HA2 := hide (HA1.out.keep hb2)
    have hI2 := hide (strsAt_of_ownsRow ho2)
    have hc2 := own_cap ho2
    clear hb2 ho2
    obtain ⟨V, hV⟩ : ∃ V, V = w2 := ⟨_, rfl⟩
    rw [← hV] at hX2 hY2 hB2 HA2 hI2 ⊢
    clear hV
    obtain ⟨X0, X1, X2, X3⟩ := row4 hX2.out
    go_wp2_with fail
    refine (toCar_any x y u v _).mono ?_
    rintro e w3 ⟨rfl, hb3⟩
    have hI23 := hide (hI2.out.keep hb3)
    clear X0 X1 X2 X3
    go_wp2_with fail
    refine (HC2.out _ _ _ hI23.out hc2).mono ?_
    rintro e w4 ⟨rfl, hb4⟩
    obtain ⟨V5, hV5⟩ : ∃ V5, V5 = w4.alloc (.cells #[.int .i64 gx, .int .i64 gy, .int .i64 gu, .int .i64 gv] 28) := ⟨_, rfl⟩
    have hBc' : Below V.heap.size V V5 := by rw [hV5]; exact Below.alloc' (Below.trans' hb3 hb4) _
    have hZr : V5.heap[w4.heap.size]? = some (.cells #[.int .i64 gx, .int .i64 gy, .int .i64 gu, .int .i64 gv] 28 (0, 0)) := by rw [hV5]; exact row_new _ _ _
    have hX3 := hide (box_keep hX2.out hBc')
    have hY3 := hide (box_keep hY2.out hBc')
    have hB3 := hide (Below.trans' hB2.out hBc')
    have HA3 := hide (HA2.out.keep hBc')
    have hI3 := hide (hI2.out.keep hBc')
    clear hBc' hI23 hb3 hb4
    obtain ⟨c0, c1, c2, c3⟩ := row4 hY3.out
    obtain ⟨d0, d1, d2, d3⟩ := row4 hZr
    rw [hV5] at c0 c1 c2 c3 d0 d1 d2 d3
    clear hZr
    go_wp2_with fail
    rw [← hV5]
    clear hV5
    (try go_wp2_with fail)
    refine (eqCar_same _ _ _ _ _).mono ?_
    rintro e w6 ⟨rfl, hb6⟩
    have hB6 := hide (Below.trans' hB3.out hb6)
    have hI6 := hide (hI3.out.keep hb6)
    have HA6 := hide (HA3.out.keep hb6)
    clear hb6 c0 c1 c2 c3 d0 d1 d2 d3
    go_wp2_with fail
    refine (toStringS_any _ _ ss _ HA6.out HL.out).mono ?_
    rintro e w7 ⟨g7, k7, rfl, ho7, hb7⟩
    have hB7 := hide (Below.trans' hB6.out hb7)
    have hI7 := hide (strsAt_of_ownsRow ho7)
    have hJ7 := hide (hI6.out.keep hb7)
    clear hb7 ho7
    go_wp2_with fail
    refine (eqStringS_same _ _ _ _ ss _ hJ7.out hI7.out HL.out).mono ?_
    rintro e w8 ⟨rfl, hb8⟩
    have hB8 := hide (Below.trans' hB7.out hb8)
    clear hb8
    go_wp2_with fail
    go_ret
    exact ⟨rfl, hB8.out⟩

/-- The listed tables. -/
abbrev laidT : List (String × DataW Unit) := Rows.fnExactMoveCarRow.laid

set_option maxRecDepth 100000 in
theorem lifted (os : Os) (started : os.Started) (H : Type) (enc : TypeId × Value → H) :
    ReturnsInHanded {} Tryd.checked os 7 .any (fun w args => (Rows.fnExactMoveCarSpec.pre enc Tryd.prog Tryd.f7 [] false w args ∧ laidMetH Tryd.prog laidT w) ∧ sizedMet enc Tryd.prog Tryd.f7 (OpenSpec.ofChange Rows.fnExactMoveCarSpec) false w args)
      (Rows.fnExactMoveCarSpec.post enc Tryd.prog Tryd.f7 false true false false) := by
  refine returnsInHanded_of_change_and (C := Tryd.checked) (X := fun w _ => laidMetH Tryd.prog laidT w) (fun _ _ _ hh h => h.of_heap hh) own started (by kernel_rfl) Tryd.func7
    (ChangeSpec.witness_shaped (enc := enc) (C := Tryd.checked) (os := os) (X := fun w _ => laidMetH Tryd.prog laidT w) false (World.laidAll Tryd.prog os laidT) #[.slice none 0 0, .agg #[.int .i64 0, .int .i64 0, .int .i64 0, .int .i64 0], .int .i64 0] 8 (World.laidAll_os _ _ _)
      (World.shaped_of_ZipB (by kernel_rfl) (by kernel_rfl)) (by kernel_rfl) (by kernel_rfl) (by kernel_rfl)
      (by rw [MakeChecks.laidMetH_plain _ _ _ (by kernel_rfl)]; exact laidMet_laidAll _ (by kernel_rfl) (by kernel_rfl))) ?_
  intro W base args ds gs before hval0 hW _ _ _ _
  have hval : ∀ (j : Nat) t v, Tryd.f7.params[j]? = some t → args[j]? = some v → Value.okWide Tryd.prog W .any base t v := hval0
  have hW' := hW
  obtain ⟨p, q, hA0, hV, rfl, hfz, hnd⟩ := hW
  have hA : DataW.TrodAll enc Tryd.prog W 0 (fun _ => true) true Tryd.f7.params.toList args.toList ds p := hA0
  rw [Tryd.params7] at hA hval
  obtain ⟨v0, vs0, d0, ds0, p0, q0, hargs, rfl, rfl, h0, r0⟩ := trodAll_cons hA
  obtain ⟨v1, vs1, d1, ds1, p1, q1, rfl, rfl, rfl, h1, r1⟩ := trodAll_cons r0
  obtain ⟨v2, vs2, d2, ds2, p2, q2, rfl, rfl, rfl, h2, r2⟩ := trodAll_cons r1
  obtain ⟨rfl, rfl, rfl⟩ := trodAll_nil r2
  obtain rfl : args = #[v0, v1, v2] := by cases args; simp_all
  obtain ⟨rfl, rfl⟩ := trodVars_none hV
  have k0 := h0
  have lt0 : ∀ x ∈ p0, x.block < W.heap.size := by obtain ⟨m, hm⟩ := k0; exact DataW.trod_lt m _ _ _ hm
  have k1 := h1
  have lt1 : ∀ x ∈ p1, x.block < W.heap.size := by obtain ⟨m, hm⟩ := k1; exact DataW.trod_lt m _ _ _ hm
  obtain ⟨a0, c0, x0, rfl, e0, l0, z0⟩ := open_texts (hval 0 22 v0 rfl rfl) h0
  obtain ⟨cr1, rfl⟩ := open_arr (hval 1 27 v1 rfl rfl) h1
  obtain ⟨x2, rfl, rfl, rfl, w2⟩ := open_int Tryd.underlying2 (hval 2 2 v2 rfl rfl) h2
  clear hA0 hval0
  refine (walk a0 c0 x0 cr1 x2 W e0 l0 z0).mono fun e W' ⟨he, bel⟩ => ?_
  subst he
  exact ⟨_, rfl, _, _, _, [], _, [], hW', trodAll_mk1 (shut_bool Tryd.underlying4 _), (trodAll_cons_mk (Below.trod laidOut (by kernel_rfl) (of_decide_eq_true (by kernel_rfl)) k0 bel lt0) (trodAll_cons_mk (Below.trod laidOut (by kernel_rfl) (of_decide_eq_true (by kernel_rfl)) k1 bel lt1) (trodAll_cons_mk (shut_int Tryd.underlying2 w2) trodAll_mk0))), rfl, bel.frame _, fun h => by cases h⟩

theorem over : Rows.fnExactMoveCarRow.holds Tryd.pinned (OpenSpec.ofChange Rows.fnExactMoveCarSpec) :=
  OpenClaim.holds_of_wide 7 Tryd.f7 rfl rfl rfl rfl rfl rfl rfl ⟨rfl, rfl, rfl, rfl, rfl⟩ rfl rfl rfl rfl rfl (by kernel_rfl) Tryd.func7 (by kernel_rfl)
    (of_decide_eq_true (by kernel_rfl)) (by unfold Func.isWrapper; first | (rw [if_pos (by decide +kernel)]; kernel_rfl) | (rw [if_neg (by decide +kernel)]; exact ⟨rfl, rfl⟩))
    (fun os started H enc _ => lifted os started H enc)

theorem proved : Rows.FnExactMoveCarCardSaid :=
  Claim7.holds_tied_plain_at .later [] [.data, .pinned] true Rows.fnExactMoveCarCard.stood.harness false
    over (fun _ h => by cases h) (by kernel_rfl) (fun _ h => by cases h) fnExactMoveCar_row_tie rfl ⟨rfl, rfl⟩ (by kernel_rfl) rfl
    (fun f fn hf hfn => by
      obtain rfl : f = 7 := Option.some.inj ((show Tryd.prog.funcNamed "loop.example/g01388/laws.FnExactMoveCar" = some 7 by kernel_rfl).symm.trans hf) |>.symm
      obtain rfl : fn = Tryd.f7 := (Option.some.inj (Tryd.func7.symm.trans hfn)).symm
      exact ⟨by kernel_rfl, fun j t ht => by
        rw [Tryd.params7] at ht
        have hm : t ∈ [22, 27, 2] := by simpa using Array.mem_of_getElem? ht
        have hall : ([22, 27, 2].all fun u => !Tryd.prog.wantsStandIn u) = true := by kernel_rfl
        exact (show Tryd.prog.wantsStandIn t = false by simpa using List.all_eq_true.1 hall t hm)⟩)
    (by kernel_rfl)
end Go.Proofs.YtmoekjgnichgnaaDoor.LawMoveCar
