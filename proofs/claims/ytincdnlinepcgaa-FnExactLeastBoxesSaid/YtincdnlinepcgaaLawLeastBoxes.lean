/-
  FnExactLeastBoxes: for every argument the law returns true and leaves its argument as it was. No condition.
-/
import Derived.Test.YtincdnlinepcgaaLy
import Derived.Test.YtincdnlinepcgaaBxOpen
namespace Go.Proofs.Ytincdnlinepcgaa.LawLeastBoxes
open Go.ChangeShapes Go.WideShapes Go.ChangeAt Go.RowKit
set_option linter.unusedVariables false

set_option maxRecDepth 100000 in
set_option maxHeartbeats 1000000 in
theorem walk (w h E : Int) (W : World) : Calls Try.prog 12 #[.agg #[.int .i64 w, .int .i64 h, .int .i64 E]] W fun e w' => e = .returned (.bool true) ∧ Below W.heap.size W w' := by
  have hB0 := hide (below_alloc W (.cells #[.int .i64 w, .int .i64 h, .int .i64 E] 23))
  have hX0 := hide (boxIn_new W w h E 23)
  obtain ⟨x, y, z, t0, hr⟩ : ∃ x y z t0 : Int, leR w h E = (x, y, z, t0) := ⟨_, _, _, _, rfl⟩
  have HR := hide hr
  clear hr
  go_enter Try.func12, Try.ntmps12
  go_wp2_with fail
  refine (toBoxes_any w h E _).mono ?_
  rintro e w1 ⟨rfl, hb1⟩
  have hX1 := hide (hX0.out.keep hb1)
  have hB1 := hide (Below.trans' hB0.out hb1)
  clear hb1
  go_wp2_with fail
  refine (specLeast_any w h E _).mono ?_
  rw [HR.out]
  simp only [leV]
  rintro e w2 ⟨rfl, hb2⟩
  have hb2' := hb2.alloc hb2.size (.cells #[.int .i64 x, .int .i64 y, .int .i64 z] 25)
  obtain ⟨c0, c1, c2⟩ := hX1.out.keep hb2'
  have hX2 := hide (hX1.out.keep hb2')
  have hB2 := hide (Below.trans' hB1.out hb2')
  have hY2 := hide (boxIn_new w2 x y z 25)
  clear hb2 hb2'
  go_wp2_with fail
  refine (toBoxes_any w h E _).mono ?_
  rintro e w3 ⟨rfl, hb3⟩
  have hB3 := hide (Below.trans' hB2.out hb3)
  have hY3 := hide (hY2.out.keep hb3)
  clear hb3 c0 c1 c2
  go_wp2_with fail
  refine (implLeast_any w h E _).mono ?_
  rw [HR.out]
  simp only [leV]
  rintro e w4 ⟨rfl, hb4⟩
  have hb4' := hb4.alloc hb4.size (.cells #[.int .i64 x, .int .i64 y, .int .i64 z] 25)
  have hB4 := hide (Below.trans' hB3.out hb4')
  obtain ⟨c0, c1, c2⟩ := hY3.out.keep hb4'
  obtain ⟨d0, d1, d2⟩ := boxIn_new w4 x y z 25
  clear hb4 hb4'
  go_wp2_with fail
  refine (eqBoxes_same x y z _).mono ?_
  rintro e w5 ⟨rfl, hb5⟩
  have hB5 := hide (Below.trans' hB4.out hb5)
  clear hb5 c0 c1 c2 d0 d1 d2
  go_wp2_with fail
  go_ret
  exact ⟨rfl, hB5.out⟩

set_option maxRecDepth 100000 in
theorem lifted (os : Os) (started : os.Started) (H : Type) (enc : TypeId × Value → H) :
    ReturnsInHanded {} Try.checked os 12 .any (Rows.fnExactLeastBoxesSpec.pre6 enc Try.prog Try.f12 Rows.fnExactLeastBoxesRow.domain false) (Rows.fnExactLeastBoxesSpec.post enc Try.prog Try.f12 false true false false) := by
  refine returnsInHanded_of_change (C := Try.checked) own started (by kernel_rfl) Try.func12
    (ChangeSpec.witness6 (enc := enc) (C := Try.checked) false ⟨#[], #[.agg #[.int .i64 0, .int .i64 0, .int .i64 0]], []⟩ 8 (by kernel_rfl) (by kernel_rfl) (by kernel_rfl) (by kernel_rfl)) ?_
  intro W base args ds gs before hval0 hW hcnd _
  have hval : ∀ (j : Nat) t v, Try.f12.params[j]? = some t → args[j]? = some v → Value.okWide Try.prog W .any base t v := hval0
  have hW' := hW
  obtain ⟨p, q, hA0, hV, rfl, hfz, hnd⟩ := hW
  have hA : DataW.TrodAll enc Try.prog W 0 (fun _ => true) true Try.f12.params.toList args.toList ds p := hA0
  rw [Try.params12] at hA hval
  obtain ⟨v0, vs0, d0, ds0, p0, q0, hargs, rfl, rfl, h0, r0⟩ := trodAll_cons hA
  obtain ⟨rfl, rfl, rfl⟩ := trodAll_nil r0
  obtain rfl : args = #[v0] := by cases args; simp_all
  obtain ⟨rfl, rfl⟩ := trodVars_none hV
  have k0 := h0
  have lt0 : ∀ x ∈ p0, x.block < W.heap.size := by obtain ⟨m, hm⟩ := k0; exact DataW.trod_lt m _ _ _ hm
  obtain ⟨w0, h0b, x0, rfl⟩ := open_boxes (hval 0 23 v0 rfl rfl) h0
  clear hA0 hval0
  refine (walk w0 h0b x0 W).mono fun e W' ⟨he, bel⟩ => ?_
  subst he
  exact ⟨_, rfl, _, _, _, [], _, [], hW', trodAll_mk1 (shut_bool Try.underlying4 _), (trodAll_cons_mk (Below.trod laidOut (by kernel_rfl) (of_decide_eq_true (by kernel_rfl)) k0 bel lt0) trodAll_mk0), rfl, bel.frame _, fun h => by cases h⟩

theorem over : Rows.fnExactLeastBoxesRow.holds Try.pinned (OpenSpec.ofChange Rows.fnExactLeastBoxesSpec) :=
  OpenClaim.holds_of_wide 12 Try.f12 rfl rfl rfl rfl rfl rfl rfl ⟨rfl, rfl, rfl, rfl, rfl⟩ rfl rfl rfl rfl rfl (by kernel_rfl) Try.func12 (by kernel_rfl)
    (of_decide_eq_true (by kernel_rfl)) (by unfold Func.isWrapper; first | (rw [if_pos (by decide +kernel)]; kernel_rfl) | (rw [if_neg (by decide +kernel)]; exact ⟨rfl, rfl⟩))
    (fun os started H enc _ => lifted os started H enc)

theorem proved : Rows.FnExactLeastBoxesSaid := over
end Go.Proofs.Ytincdnlinepcgaa.LawLeastBoxes
