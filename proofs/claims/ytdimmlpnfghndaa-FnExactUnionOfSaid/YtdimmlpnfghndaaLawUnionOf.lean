/-
  FnExactUnionOf: for every argument the law returns true and leaves its arguments as they were. No condition.
-/
import Derived.Test.YtdimmlpnfghndaaFx
import Derived.Deep.DeepCutAuto
import Derived.Test.YtdimmlpnfghndaaFo
namespace Go.Proofs.Ytdimmlpnfghndaa.LawUnionOf
open Go.ChangeShapes Go.WideShapes Go.ChangeAt Go.RowKit
set_option linter.unusedVariables false

theorem keep_new {w w2 : World} {cs : Array Value} {t : TypeId} (h : Below (w.alloc (.cells cs t)).heap.size (w.alloc (.cells cs t)) w2) : w2.heap[w.heap.size]? = some (.cells cs t (0, 0)) := box_keep (heap_alloc_new _ _) h
theorem keep_new2 {w w2 : World} {cs : Array Value} {t : TypeId} (h : Below (w.alloc (.cells cs t)).drew.heap.size (w.alloc (.cells cs t)).drew w2) : w2.heap[w.heap.size]? = some (.cells cs t (0, 0)) := box_keep (w := (w.alloc (.cells cs t)).drew) (heap_alloc_new w _) h

set_option maxRecDepth 100000 in
set_option maxHeartbeats 4000000 in
theorem walk (n L R B n' L' R' B' : Int) (W : World) : Calls Try.prog 12 #[.agg #[.int .i64 n, .int .i64 L, .int .i64 R, .int .i64 B], .agg #[.int .i64 n', .int .i64 L', .int .i64 R', .int .i64 B']] W fun e w' => e = .returned (.bool true) ∧ Below W.heap.size W w' := by
  have hB0 := hide ((below_alloc W (.cells #[.int .i64 n, .int .i64 L, .int .i64 R, .int .i64 B] 23)).alloc (by simp) (.cells #[.int .i64 n', .int .i64 L', .int .i64 R', .int .i64 B'] 23))
  have hX0 := hide ((fieldIn_new W n L R B 23).keep (below_alloc _ (.cells #[.int .i64 n', .int .i64 L', .int .i64 R', .int .i64 B'] 23)))
  have hU0 : Hid (FieldIn ((W.alloc (.cells #[.int .i64 n, .int .i64 L, .int .i64 R, .int .i64 B] 23)).alloc (.cells #[.int .i64 n', .int .i64 L', .int .i64 R', .int .i64 B'] 23)) (W.heap.size + 1) n' L' R' B') := hide (fieldIn_of_row (alloc_row2 _ _ _ _))
  obtain ⟨x0, x1, x2, x3, z1, hr⟩ : ∃ (x0 : Int) (x1 : Int) (x2 : Int) (x3 : Int) (z1 : Int), uniR n L R B n' L' R' B' = (x0, x1, x2, x3, z1) := ⟨_, _, _, _, _, rfl⟩
  have HR := hide hr
  clear hr
  have HC1 : Hid (∀ V : World, Calls Try.prog 37 #[.agg #[.int .i64 n, .int .i64 L, .int .i64 R, .int .i64 B], .agg #[.int .i64 n', .int .i64 L', .int .i64 R', .int .i64 B']] V (RetB (.tuple #[.agg #[.int .i64 x0, .int .i64 x1, .int .i64 x2, .int .i64 x3], .int .i64 z1]) V)) := hide (fun V => by have := specUnionOf_any n L R B n' L' R' B' V; rw [HR.out] at this; exact this)
  have HC2 : Hid (∀ V : World, Calls Try.prog 38 #[.agg #[.int .i64 n, .int .i64 L, .int .i64 R, .int .i64 B], .agg #[.int .i64 n', .int .i64 L', .int .i64 R', .int .i64 B']] V (RetB (.tuple #[.agg #[.int .i64 x0, .int .i64 x1, .int .i64 x2, .int .i64 x3], .int .i64 z1]) V)) := hide (fun V => by have := implUnionOf_any n L R B n' L' R' B' V; rw [HR.out] at this; exact this)
  obtain ⟨V, hV⟩ : ∃ V, V = (W.alloc (.cells #[.int .i64 n, .int .i64 L, .int .i64 R, .int .i64 B] 23)).alloc (.cells #[.int .i64 n', .int .i64 L', .int .i64 R', .int .i64 B'] 23) := ⟨_, rfl⟩
  rw [← hV] at hB0 hX0 hU0
  obtain ⟨X0, X1, X2, X3⟩ := hX0.out
  obtain ⟨U0, U1, U2, U3⟩ := hU0.out
  go_enter Try.func12, Try.ntmps12
  go_wp2_with fail
  rw [← hV]
  clear hV
  go_upto_region 1 with fail
  have hd : Below V.heap.size V V.drew := Below.drew (Below.refl _ _)
  have hbel : Below V.heap.size V V := Below.refl _ _
  have HS : Hid (∀ W' : World, Below V.heap.size V W' → (W'.cell? ⟨W.heap.size, 0, none⟩ = some (.int .i64 n) ∧ W'.cell? ⟨W.heap.size, 1, none⟩ = some (.int .i64 L) ∧ W'.cell? ⟨W.heap.size, 2, none⟩ = some (.int .i64 R) ∧ W'.cell? ⟨W.heap.size, 3, none⟩ = some (.int .i64 B) ∧ W'.cell? ⟨W.heap.size + 1, 0, none⟩ = some (.int .i64 n') ∧ W'.cell? ⟨W.heap.size + 1, 1, none⟩ = some (.int .i64 L') ∧ W'.cell? ⟨W.heap.size + 1, 2, none⟩ = some (.int .i64 R') ∧ W'.cell? ⟨W.heap.size + 1, 3, none⟩ = some (.int .i64 B'))) := hide (fun W' h => ⟨cell_keep h X0, cell_keep h X1, cell_keep h X2, cell_keep h X3, cell_keep h U0, cell_keep h U1, cell_keep h U2, cell_keep h U3⟩)
  clear X0 X1 X2 X3 U0 U1 U2 U3
  go_cut [5, 6] (fun sa sb wx => ∃ g : Nat, sa = .pointer (some ⟨g, 0, none⟩) ∧ sb = .int .i64 z1 ∧ V.heap.size ≤ g ∧ wx.heap[g]? = some (.cells #[.int .i64 x0, .int .i64 x1, .int .i64 x2, .int .i64 x3] 25 (0, 0)) ∧ Below V.heap.size V wx)
  case first =>
    go_region_held3 (fun W' => W'.cell? ⟨W.heap.size, 0, none⟩ = some (.int .i64 n) ∧ W'.cell? ⟨W.heap.size, 1, none⟩ = some (.int .i64 L) ∧ W'.cell? ⟨W.heap.size, 2, none⟩ = some (.int .i64 R) ∧ W'.cell? ⟨W.heap.size, 3, none⟩ = some (.int .i64 B) ∧ W'.cell? ⟨W.heap.size + 1, 0, none⟩ = some (.int .i64 n') ∧ W'.cell? ⟨W.heap.size + 1, 1, none⟩ = some (.int .i64 L') ∧ W'.cell? ⟨W.heap.size + 1, 2, none⟩ = some (.int .i64 R') ∧ W'.cell? ⟨W.heap.size + 1, 3, none⟩ = some (.int .i64 B')) (first | (refine HS.out _ ?_; (with_reducible (repeat (first | exact hbel | exact hd | refine Below.drew ?_ | refine Below.alloc' ?_ _ | refine Below.setCell ?_ (by first | exact Nat.le_refl _ | (show V.heap.size ≤ _; omega) | (simp; omega)) _))))) (first | (go_at_call 15; (with_reducible refine (toField_any n L R B _).mono ?_); rintro e2 w2 ⟨rfl, hb2⟩; (have hbn2 : Below V.heap.size V w2 := by (refine Below.trans' ?_ hb2; (with_reducible (repeat (first | exact hbel | exact hd | refine Below.drew ?_ | refine Below.alloc' ?_ _ | refine Below.setCell ?_ (by first | exact Nat.le_refl _ | (show V.heap.size ≤ _; omega) | (simp; omega)) _))))); (have hz2 := hbn2.size); (try (with_reducible have al := box_keep al hb2)); (try (with_reducible have al := keep_new hb2)); (try (with_reducible have al := keep_new2 hb2)); (try (have q0 := (row4 al).1; have q1 := (row4 al).2.1; have q2 := (row4 al).2.2.1; have q3 := (row4 al).2.2.2.1; have qf0 := (row4 al).2.2.2.2.1; have qf1 := (row4 al).2.2.2.2.2.1; have qf2 := (row4 al).2.2.2.2.2.2.1; have qf3 := (row4 al).2.2.2.2.2.2.2)); have hbel := hbn2; clear hbn2) | (go_at_call 15; (with_reducible refine (toField_any n' L' R' B' _).mono ?_); rintro e3 w3 ⟨rfl, hb3⟩; (have hbn3 : Below V.heap.size V w3 := by (refine Below.trans' ?_ hb3; (with_reducible (repeat (first | exact hbel | exact hd | refine Below.drew ?_ | refine Below.alloc' ?_ _ | refine Below.setCell ?_ (by first | exact Nat.le_refl _ | (show V.heap.size ≤ _; omega) | (simp; omega)) _))))); (have hz3 := hbn3.size); (try (with_reducible have al := box_keep al hb3)); (try (with_reducible have al := keep_new hb3)); (try (with_reducible have al := keep_new2 hb3)); (try (have q0 := (row4 al).1; have q1 := (row4 al).2.1; have q2 := (row4 al).2.2.1; have q3 := (row4 al).2.2.2.1; have qf0 := (row4 al).2.2.2.2.1; have qf1 := (row4 al).2.2.2.2.2.1; have qf2 := (row4 al).2.2.2.2.2.2.1; have qf3 := (row4 al).2.2.2.2.2.2.2)); have hbel := hbn3; clear hbn3) | (go_at_call 37; (with_reducible refine (HC1.out _).mono ?_); rintro e4 w4 ⟨rfl, hb4⟩; (have hbn4 : Below V.heap.size V w4 := by (refine Below.trans' ?_ hb4; (with_reducible (repeat (first | exact hbel | exact hd | refine Below.drew ?_ | refine Below.alloc' ?_ _ | refine Below.setCell ?_ (by first | exact Nat.le_refl _ | (show V.heap.size ≤ _; omega) | (simp; omega)) _))))); (have hz4 := hbn4.size); (try (with_reducible have al := box_keep al hb4)); (try (with_reducible have al := keep_new hb4)); (try (with_reducible have al := keep_new2 hb4)); (try (have q0 := (row4 al).1; have q1 := (row4 al).2.1; have q2 := (row4 al).2.2.1; have q3 := (row4 al).2.2.2.1; have qf0 := (row4 al).2.2.2.2.1; have qf1 := (row4 al).2.2.2.2.2.1; have qf2 := (row4 al).2.2.2.2.2.2.1; have qf3 := (row4 al).2.2.2.2.2.2.2)); have hbel := hbn4; clear hbn4))
    all_goals
      go_wp2_with fail
      go_meet
      exact ⟨_, rfl, rfl, (by first | exact Nat.le_refl _ | exact hz4 | exact hz3 | exact hz2), (by first | exact box_set4 _ _ _ _ al | exact heap_alloc_new _ _), (by (with_reducible (repeat (first | exact hbel | exact hd | refine Below.drew ?_ | refine Below.alloc' ?_ _ | refine Below.setCell ?_ (by first | exact Nat.le_refl _ | (show V.heap.size ≤ _; omega) | (simp; omega)) _))))⟩
  case rest =>
    obtain ⟨g, rfl, rfl, hg, hYr, hBc⟩ := hcut
    have hX1 := hide (hX0.out.keep hBc)
    have hU1 := hide (hU0.out.keep hBc)
    have hY1 := hide (fieldIn_of_row hYr)
    have hB1 := hide (Below.trans' hB0.out hBc)
    clear HS hYr hBc hd hbel
    obtain ⟨X0, X1, X2, X3⟩ := hX1.out
    obtain ⟨U0, U1, U2, U3⟩ := hU1.out
    obtain ⟨V, hV⟩ : ∃ V, V = wc := ⟨_, rfl⟩
    rw [← hV] at X0 X1 X2 X3 U0 U1 U2 U3 hX1 hU1 hY1 hB1 ⊢
    clear hV
    go_upto_region 2 with fail
    have hd : Below V.heap.size V V.drew := Below.drew (Below.refl _ _)
    have hbel : Below V.heap.size V V := Below.refl _ _
    have HS : Hid (∀ W' : World, Below V.heap.size V W' → (W'.cell? ⟨W.heap.size, 0, none⟩ = some (.int .i64 n) ∧ W'.cell? ⟨W.heap.size, 1, none⟩ = some (.int .i64 L) ∧ W'.cell? ⟨W.heap.size, 2, none⟩ = some (.int .i64 R) ∧ W'.cell? ⟨W.heap.size, 3, none⟩ = some (.int .i64 B) ∧ W'.cell? ⟨W.heap.size + 1, 0, none⟩ = some (.int .i64 n') ∧ W'.cell? ⟨W.heap.size + 1, 1, none⟩ = some (.int .i64 L') ∧ W'.cell? ⟨W.heap.size + 1, 2, none⟩ = some (.int .i64 R') ∧ W'.cell? ⟨W.heap.size + 1, 3, none⟩ = some (.int .i64 B'))) := hide (fun W' h => ⟨cell_keep h X0, cell_keep h X1, cell_keep h X2, cell_keep h X3, cell_keep h U0, cell_keep h U1, cell_keep h U2, cell_keep h U3⟩)
    clear X0 X1 X2 X3 U0 U1 U2 U3
    go_cut [7, 8] (fun sa sb wx => ∃ g : Nat, sa = .pointer (some ⟨g, 0, none⟩) ∧ sb = .int .i64 z1 ∧ V.heap.size ≤ g ∧ wx.heap[g]? = some (.cells #[.int .i64 x0, .int .i64 x1, .int .i64 x2, .int .i64 x3] 25 (0, 0)) ∧ Below V.heap.size V wx)
    case first =>
      go_region_held3 (fun W' => W'.cell? ⟨W.heap.size, 0, none⟩ = some (.int .i64 n) ∧ W'.cell? ⟨W.heap.size, 1, none⟩ = some (.int .i64 L) ∧ W'.cell? ⟨W.heap.size, 2, none⟩ = some (.int .i64 R) ∧ W'.cell? ⟨W.heap.size, 3, none⟩ = some (.int .i64 B) ∧ W'.cell? ⟨W.heap.size + 1, 0, none⟩ = some (.int .i64 n') ∧ W'.cell? ⟨W.heap.size + 1, 1, none⟩ = some (.int .i64 L') ∧ W'.cell? ⟨W.heap.size + 1, 2, none⟩ = some (.int .i64 R') ∧ W'.cell? ⟨W.heap.size + 1, 3, none⟩ = some (.int .i64 B')) (first | (refine HS.out _ ?_; (with_reducible (repeat (first | exact hbel | exact hd | refine Below.drew ?_ | refine Below.alloc' ?_ _ | refine Below.setCell ?_ (by first | exact Nat.le_refl _ | (show V.heap.size ≤ _; omega) | (simp; omega)) _))))) (first | (go_at_call 15; (with_reducible refine (toField_any n L R B _).mono ?_); rintro e2 w2 ⟨rfl, hb2⟩; (have hbn2 : Below V.heap.size V w2 := by (refine Below.trans' ?_ hb2; (with_reducible (repeat (first | exact hbel | exact hd | refine Below.drew ?_ | refine Below.alloc' ?_ _ | refine Below.setCell ?_ (by first | exact Nat.le_refl _ | (show V.heap.size ≤ _; omega) | (simp; omega)) _))))); (have hz2 := hbn2.size); (try (with_reducible have al := box_keep al hb2)); (try (with_reducible have al := keep_new hb2)); (try (with_reducible have al := keep_new2 hb2)); (try (have q0 := (row4 al).1; have q1 := (row4 al).2.1; have q2 := (row4 al).2.2.1; have q3 := (row4 al).2.2.2.1; have qf0 := (row4 al).2.2.2.2.1; have qf1 := (row4 al).2.2.2.2.2.1; have qf2 := (row4 al).2.2.2.2.2.2.1; have qf3 := (row4 al).2.2.2.2.2.2.2)); have hbel := hbn2; clear hbn2) | (go_at_call 15; (with_reducible refine (toField_any n' L' R' B' _).mono ?_); rintro e3 w3 ⟨rfl, hb3⟩; (have hbn3 : Below V.heap.size V w3 := by (refine Below.trans' ?_ hb3; (with_reducible (repeat (first | exact hbel | exact hd | refine Below.drew ?_ | refine Below.alloc' ?_ _ | refine Below.setCell ?_ (by first | exact Nat.le_refl _ | (show V.heap.size ≤ _; omega) | (simp; omega)) _))))); (have hz3 := hbn3.size); (try (with_reducible have al := box_keep al hb3)); (try (with_reducible have al := keep_new hb3)); (try (with_reducible have al := keep_new2 hb3)); (try (have q0 := (row4 al).1; have q1 := (row4 al).2.1; have q2 := (row4 al).2.2.1; have q3 := (row4 al).2.2.2.1; have qf0 := (row4 al).2.2.2.2.1; have qf1 := (row4 al).2.2.2.2.2.1; have qf2 := (row4 al).2.2.2.2.2.2.1; have qf3 := (row4 al).2.2.2.2.2.2.2)); have hbel := hbn3; clear hbn3) | (go_at_call 38; (with_reducible refine (HC2.out _).mono ?_); rintro e4 w4 ⟨rfl, hb4⟩; (have hbn4 : Below V.heap.size V w4 := by (refine Below.trans' ?_ hb4; (with_reducible (repeat (first | exact hbel | exact hd | refine Below.drew ?_ | refine Below.alloc' ?_ _ | refine Below.setCell ?_ (by first | exact Nat.le_refl _ | (show V.heap.size ≤ _; omega) | (simp; omega)) _))))); (have hz4 := hbn4.size); (try (with_reducible have al := box_keep al hb4)); (try (with_reducible have al := keep_new hb4)); (try (with_reducible have al := keep_new2 hb4)); (try (have q0 := (row4 al).1; have q1 := (row4 al).2.1; have q2 := (row4 al).2.2.1; have q3 := (row4 al).2.2.2.1; have qf0 := (row4 al).2.2.2.2.1; have qf1 := (row4 al).2.2.2.2.2.1; have qf2 := (row4 al).2.2.2.2.2.2.1; have qf3 := (row4 al).2.2.2.2.2.2.2)); have hbel := hbn4; clear hbn4))
      all_goals
        go_wp2_with fail
        go_meet
        exact ⟨_, rfl, rfl, (by first | exact Nat.le_refl _ | exact hz4 | exact hz3 | exact hz2), (by first | exact box_set4 _ _ _ _ al | exact heap_alloc_new _ _), (by (with_reducible (repeat (first | exact hbel | exact hd | refine Below.drew ?_ | refine Below.alloc' ?_ _ | refine Below.setCell ?_ (by first | exact Nat.le_refl _ | (show V.heap.size ≤ _; omega) | (simp; omega)) _))))⟩
    case rest =>
      obtain ⟨g2, rfl, rfl, hg2, hVr, hBd⟩ := hcut
      have hY2 := hide (hY1.out.keep hBd)
      have hV2 := hide (fieldIn_of_row hVr)
      have hB2 := hide (Below.trans' hB1.out hBd)
      clear HS hVr hBd hd hbel
      obtain ⟨Y0, Y1, Y2, Y3⟩ := hY2.out
      obtain ⟨V0, V1, V2, V3⟩ := hV2.out
      have hnez : (z1 != z1) = false := by simp
      go_wp2_with fail
      refine (eqField_same x0 x1 x2 x3 _).mono ?_
      rintro e w3 ⟨rfl, hb3⟩
      have hB3 := hide (Below.trans' hB2.out hb3)
      clear hb3
      go_wp2_with fail
      go_ret
      exact ⟨rfl, hB3.out⟩

set_option maxRecDepth 100000 in
theorem lifted (os : Os) (started : os.Started) (H : Type) (enc : TypeId × Value → H) :
    ReturnsInHanded {} Try.checked os 12 .any (Rows.fnExactUnionOfSpec.pre6 enc Try.prog Try.f12 Rows.fnExactUnionOfRow.domain false) (Rows.fnExactUnionOfSpec.post enc Try.prog Try.f12 false true false false) := by
  refine returnsInHanded_of_change (C := Try.checked) own started (by kernel_rfl) Try.func12
    (ChangeSpec.witness6 (enc := enc) (C := Try.checked) false ⟨#[], #[.agg #[.int .i64 0, .int .i64 0, .int .i64 0, .int .i64 0], .agg #[.int .i64 0, .int .i64 0, .int .i64 0, .int .i64 0]], []⟩ 8 (by kernel_rfl) (by kernel_rfl) (by kernel_rfl) (by kernel_rfl)) ?_
  intro W base args ds gs before hval0 hW hcnd _
  have hval : ∀ (j : Nat) t v, Try.f12.params[j]? = some t → args[j]? = some v → Value.okWide Try.prog W .any base t v := hval0
  have hW' := hW
  obtain ⟨p, q, hA0, hV, rfl, hfz, hnd⟩ := hW
  have hA : DataW.TrodAll enc Try.prog W 0 (fun _ => true) true Try.f12.params.toList args.toList ds p := hA0
  rw [Try.params12] at hA hval
  obtain ⟨v0, vs0, d0, ds0, p0, q0, hargs, rfl, rfl, h0, r0⟩ := trodAll_cons hA
  obtain ⟨v1, vs1, d1, ds1, p1, q1, rfl, rfl, rfl, h1, r1⟩ := trodAll_cons r0
  obtain ⟨rfl, rfl, rfl⟩ := trodAll_nil r1
  obtain rfl : args = #[v0, v1] := by cases args; simp_all
  obtain ⟨rfl, rfl⟩ := trodVars_none hV
  have k0 := h0
  have lt0 : ∀ x ∈ p0, x.block < W.heap.size := by obtain ⟨m, hm⟩ := k0; exact DataW.trod_lt m _ _ _ hm
  obtain ⟨n0, l0, rd0, bl0, rfl⟩ := open_field (hval 0 23 v0 rfl rfl) h0
  have k1 := h1
  have lt1 : ∀ x ∈ p1, x.block < W.heap.size := by obtain ⟨m, hm⟩ := k1; exact DataW.trod_lt m _ _ _ hm
  obtain ⟨n1, l1, rd1, bl1, rfl⟩ := open_field (hval 1 23 v1 rfl rfl) h1
  clear hA0 hval0
  refine (walk n0 l0 rd0 bl0 n1 l1 rd1 bl1 W).mono fun e W' ⟨he, bel⟩ => ?_
  subst he
  exact ⟨_, rfl, _, _, _, [], _, [], hW', trodAll_mk1 (shut_bool Try.underlying4 _), (trodAll_cons_mk (Below.trod laidOut (by kernel_rfl) (of_decide_eq_true (by kernel_rfl)) k0 bel lt0) (trodAll_cons_mk (Below.trod laidOut (by kernel_rfl) (of_decide_eq_true (by kernel_rfl)) k1 bel lt1) trodAll_mk0)), rfl, bel.frame _, fun h => by cases h⟩

theorem over : Rows.fnExactUnionOfRow.holds Try.pinned (OpenSpec.ofChange Rows.fnExactUnionOfSpec) :=
  OpenClaim.holds_of_wide 12 Try.f12 rfl rfl rfl rfl rfl rfl rfl ⟨rfl, rfl, rfl, rfl, rfl⟩ rfl rfl rfl rfl rfl (by kernel_rfl) Try.func12 (by kernel_rfl)
    (of_decide_eq_true (by kernel_rfl)) (by unfold Func.isWrapper; first | (rw [if_pos (by decide +kernel)]; kernel_rfl) | (rw [if_neg (by decide +kernel)]; exact ⟨rfl, rfl⟩))
    (fun os started H enc _ => lifted os started H enc)

theorem proved : Rows.FnExactUnionOfSaid := over
end Go.Proofs.Ytdimmlpnfghndaa.LawUnionOf
