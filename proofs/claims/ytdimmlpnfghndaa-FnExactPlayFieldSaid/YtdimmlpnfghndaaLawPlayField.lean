/-
  FnExactPlayField: for every argument the law returns true and leaves its arguments as they were. No condition.
-/
import Derived.Test.YtdimmlpnfghndaaGu
import Derived.Test.YtdimmlpnfghndaaFo
namespace Go.Proofs.Ytdimmlpnfghndaa.LawPlayField
open Go.ChangeShapes Go.WideShapes Go.ChangeAt Go.RowKit
set_option linter.unusedVariables false

set_option maxRecDepth 100000 in
set_option maxHeartbeats 2000000 in
theorem walk (n L R B p q : Int) (W : World) : Calls Try.prog 10 #[.agg #[.int .i64 n, .int .i64 L, .int .i64 R, .int .i64 B], .int .i64 p, .int .i64 q] W fun e w' => e = .returned (.bool true) ∧ Below W.heap.size W w' := by
  have hB0 := hide (below_alloc W (.cells #[.int .i64 n, .int .i64 L, .int .i64 R, .int .i64 B] 23))
  have hX0 := hide (fieldIn_new W n L R B 23)
  obtain ⟨r, hr⟩ : ∃ r, r = plR n L R B p q := ⟨_, rfl⟩
  have hrl : r.1.length ≤ 1048576 := by rw [hr]; exact plR_le _ _ _ _ _ _
  have HR := hide hr
  clear hr
  go_enter Try.func10, Try.ntmps10
  go_wp2_with fail
  refine (toField_any n L R B _).mono ?_
  rintro e w1 ⟨rfl, hb1⟩
  have hX1 := hide (hX0.out.keep hb1)
  have hB1 := hide (Below.trans' hB0.out hb1)
  clear hb1
  go_wp2_with fail
  refine (specPlay_any n L R B p q _).mono ?_
  rw [← HR.out]
  rintro e w2 ⟨aw, cw, rfl, how, hb2⟩
  obtain ⟨c0, c1, c2, c3⟩ := hX1.out.keep hb2
  have hX2 := hide (hX1.out.keep hb2)
  have hB2 := hide (Below.trans' hB1.out hb2)
  have hW2 := hide (intsAt_of_ownsRow how)
  clear hb2 how
  go_wp2_with fail
  refine (toField_any n L R B _).mono ?_
  rintro e w3 ⟨rfl, hb3⟩
  have hX3 := hide (hX2.out.keep hb3)
  have hB3 := hide (Below.trans' hB2.out hb3)
  have hW3 := hide (hW2.out.keep hb3)
  clear hb3 c0 c1 c2 c3
  go_wp2_with fail
  refine (implPlay_any n L R B p q _).mono ?_
  rw [← HR.out]
  rintro e w4 ⟨ag, cg, rfl, hog, hb4⟩
  have hX4 := hide (hX3.out.keep hb4)
  have hB4 := hide (Below.trans' hB3.out hb4)
  have hW4 := hide (hW3.out.keep hb4)
  have hG4 := hide hog
  have hW3' := hide (Below.trans' (Below.refl _ w3) hb4)
  clear hb4 hog
  go_wp2_with fail
  refine (eqInt64S_same _ _ _ _ r.1 _ (intsAt_of_ownsRow hG4.out) hW4.out hrl).mono ?_
  rintro e w5 ⟨rfl, hb5⟩
  have hX5 := hide (hX4.out.keep hb5)
  have hB5 := hide (Below.trans' hB4.out hb5)
  have hG5 := hide (ownsRow_keep hG4.out hb5)
  have hD5 := hide (Below.trans' hW3'.out hb5)
  clear hb5
  go_wp2_with fail
  refine (markInt64S_any _ _ _ _ _ (owned_room hG5.out) hrl (by omega) (by omega)).mono ?_
  rintro e w6 hp
  obtain ⟨hog6, hM6⟩ := marked_owned hG5.out hp
  have hD6 := hide (hD5.out.trans (hM6.below (fun k hk => hk.1)))
  have hG6 := hide hog6
  obtain ⟨rfl, _⟩ := hp
  have hX6 := hide (hX3.out.keep hD6.out)
  have hB6 := hide (Below.trans' hB3.out hD6.out)
  have hW6 := hide (hW3.out.keep hD6.out)
  clear hog6 hM6
  go_wp2_with fail
  refine (heldInt64S_any _ _ _ _ _ (intsAt_of_ownsRow hG6.out) hrl (by omega) (by omega)).mono ?_
  rintro e w7 ⟨rfl, hq7⟩
  have hb7 : Below w6.heap.size w6 w7 := hq7.below
  obtain ⟨c0, c1, c2, c3⟩ := hX6.out.keep hb7
  have hX7 := hide (hX6.out.keep hb7)
  have hB7 := hide (Below.trans' hB6.out hb7)
  have hW7 := hide (hW6.out.keep hb7)
  have hG7 := hide (ownsRow_keep hG6.out hb7)
  clear hb7 hq7
  go_wp2_with fail
  refine (toField_any n L R B _).mono ?_
  rintro e w8 ⟨rfl, hb8⟩
  have hB8 := hide (Below.trans' hB7.out hb8)
  have hW8 := hide (hW7.out.keep hb8)
  have hG8 := hide (ownsRow_keep hG7.out hb8)
  clear hb8 c0 c1 c2 c3
  go_wp2_with fail
  refine (implPlay_any n L R B p q _).mono ?_
  rw [← HR.out]
  rintro e w9 ⟨ah, ch, rfl, hoh, hb9⟩
  have hB9 := hide (Below.trans' hB8.out hb9)
  have hW9 := hide (hW8.out.keep hb9)
  have hG9 := hide (ownsRow_keep hG8.out hb9)
  have hH9 := hide (intsAt_of_ownsRow hoh)
  clear hb9 hoh
  go_wp2_with fail
  refine (eqInt64S_same _ _ _ _ r.1 _ hH9.out hW9.out hrl).mono ?_
  rintro e w10 ⟨rfl, hb10⟩
  have hB10 := hide (Below.trans' hB9.out hb10)
  have hG10 := hide (ownsRow_keep hG9.out hb10)
  clear hb10
  go_wp2_with fail
  refine (heldInt64S_any _ _ _ _ _ (intsAt_of_ownsRow hG10.out) hrl (by omega) (by omega)).mono ?_
  rintro e w11 ⟨rfl, hq11⟩
  have hB11 := hide (Below.trans' hB10.out hq11.below)
  clear hq11
  go_wp2_with fail
  go_ret
  exact ⟨rfl, hB11.out⟩

set_option maxRecDepth 100000 in
theorem lifted (os : Os) (started : os.Started) (H : Type) (enc : TypeId × Value → H) :
    ReturnsInHanded {} Try.checked os 10 .any (Rows.fnExactPlayFieldSpec.pre6 enc Try.prog Try.f10 Rows.fnExactPlayFieldRow.domain false) (Rows.fnExactPlayFieldSpec.post enc Try.prog Try.f10 false true false false) := by
  refine returnsInHanded_of_change (C := Try.checked) own started (by kernel_rfl) Try.func10
    (ChangeSpec.witness6 (enc := enc) (C := Try.checked) false ⟨#[], #[.agg #[.int .i64 0, .int .i64 0, .int .i64 0, .int .i64 0], .int .i64 0, .int .i64 0], []⟩ 8 (by kernel_rfl) (by kernel_rfl) (by kernel_rfl) (by kernel_rfl)) ?_
  intro W base args ds gs before hval0 hW hcnd _
  have hval : ∀ (j : Nat) t v, Try.f10.params[j]? = some t → args[j]? = some v → Value.okWide Try.prog W .any base t v := hval0
  have hW' := hW
  obtain ⟨p, q, hA0, hV, rfl, hfz, hnd⟩ := hW
  have hA : DataW.TrodAll enc Try.prog W 0 (fun _ => true) true Try.f10.params.toList args.toList ds p := hA0
  rw [Try.params10] at hA hval
  obtain ⟨v0, vs0, d0, ds0, p0, q0, hargs, rfl, rfl, h0, r0⟩ := trodAll_cons hA
  obtain ⟨v1, vs1, d1, ds1, p1, q1, rfl, rfl, rfl, h1, r1⟩ := trodAll_cons r0
  obtain ⟨v2, vs2, d2, ds2, p2, q2, rfl, rfl, rfl, h2, r2⟩ := trodAll_cons r1
  obtain ⟨rfl, rfl, rfl⟩ := trodAll_nil r2
  obtain rfl : args = #[v0, v1, v2] := by cases args; simp_all
  obtain ⟨rfl, rfl⟩ := trodVars_none hV
  have k0 := h0
  have lt0 : ∀ x ∈ p0, x.block < W.heap.size := by obtain ⟨m, hm⟩ := k0; exact DataW.trod_lt m _ _ _ hm
  obtain ⟨n0, l0, rd0, bl0, rfl⟩ := open_field (hval 0 23 v0 rfl rfl) h0
  obtain ⟨x1, rfl, rfl, rfl, w1⟩ := open_int Try.underlying2 (hval 1 2 v1 rfl rfl) h1
  obtain ⟨x2, rfl, rfl, rfl, w2⟩ := open_int Try.underlying2 (hval 2 2 v2 rfl rfl) h2
  clear hA0 hval0
  refine (walk n0 l0 rd0 bl0 x1 x2 W).mono fun e W' ⟨he, bel⟩ => ?_
  subst he
  exact ⟨_, rfl, _, _, _, [], _, [], hW', trodAll_mk1 (shut_bool Try.underlying4 _), (trodAll_cons_mk (Below.trod laidOut (by kernel_rfl) (of_decide_eq_true (by kernel_rfl)) k0 bel lt0) (trodAll_cons_mk (shut_int Try.underlying2 w1) (trodAll_cons_mk (shut_int Try.underlying2 w2) trodAll_mk0))), rfl, bel.frame _, fun h => by cases h⟩

theorem over : Rows.fnExactPlayFieldRow.holds Try.pinned (OpenSpec.ofChange Rows.fnExactPlayFieldSpec) :=
  OpenClaim.holds_of_wide 10 Try.f10 rfl rfl rfl rfl rfl rfl rfl ⟨rfl, rfl, rfl, rfl, rfl⟩ rfl rfl rfl rfl rfl (by kernel_rfl) Try.func10 (by kernel_rfl)
    (of_decide_eq_true (by kernel_rfl)) (by unfold Func.isWrapper; first | (rw [if_pos (by decide +kernel)]; kernel_rfl) | (rw [if_neg (by decide +kernel)]; exact ⟨rfl, rfl⟩))
    (fun os started H enc _ => lifted os started H enc)

theorem proved : Rows.FnExactPlayFieldSaid := over
end Go.Proofs.Ytdimmlpnfghndaa.LawPlayField
