/-
  FnExactFieldText: for every argument the law returns true and leaves its arguments as they were. No condition.
-/
import Derived.Test.YtdimmlpnfghndabHf
import Derived.Test.YtdimmlpnfghndabFo
namespace Go.Proofs.Ytdimmlpnfghndab.LawFieldText
open Go.ChangeShapes Go.WideShapes Go.ChangeAt Go.RowKit
set_option linter.unusedVariables false

set_option maxRecDepth 100000 in
set_option maxHeartbeats 1000000 in
theorem walk (n L R B : Int) (W : World) : Calls Try.prog 3 #[.agg #[.int .i64 n, .int .i64 L, .int .i64 R, .int .i64 B]] W fun e w' => e = .returned (.bool true) ∧ Below W.heap.size W w' := by
  have hB0 := hide (below_alloc W (.cells #[.int .i64 n, .int .i64 L, .int .i64 R, .int .i64 B] 23))
  have hX0 := hide (fieldIn_new W n L R B 23)
  obtain ⟨z0, z1, hr⟩ : ∃ (z0 : List UInt8) (z1 : Int), txtR n L R B = (z0, z1) := ⟨_, _, rfl⟩
  have HR := hide hr
  clear hr
  go_enter Try.func3, Try.ntmps3
  go_wp2_with fail
  refine (toField_any n L R B _).mono ?_
  rintro e w1 ⟨rfl, hb1⟩
  (try clear X0 X1 X2 X3)
  have hX1 := hide (hX0.out.keep hb1)
  obtain ⟨X0, X1, X2, X3⟩ := hX1.out
  have hB1 := hide (Below.trans' hB0.out hb1)
  clear hb1
  go_wp2_with fail
  refine (specText_any n L R B _).mono ?_
  rw [HR.out]; simp only [txtV]
  rintro e w2 ⟨rfl, hb2⟩
  (try clear X0 X1 X2 X3)
  have hX2 := hide (hX1.out.keep hb2)
  obtain ⟨X0, X1, X2, X3⟩ := hX2.out
  have hB2 := hide (Below.trans' hB1.out hb2)
  clear hb2
  go_wp2_with fail
  refine (toField_any n L R B _).mono ?_
  rintro e w3 ⟨rfl, hb3⟩
  (try clear X0 X1 X2 X3)
  have hX3 := hide (hX2.out.keep hb3)
  obtain ⟨X0, X1, X2, X3⟩ := hX3.out
  have hB3 := hide (Below.trans' hB2.out hb3)
  clear hb3
  go_wp2_with fail
  refine (implText_any n L R B _).mono ?_
  rw [HR.out]; simp only [txtV]
  rintro e w4 ⟨rfl, hb4⟩
  have hB4 := hide (Below.trans' hB3.out hb4)
  clear hb4
  go_wp2_with fail
  go_ret
  exact ⟨rfl, hB4.out⟩

set_option maxRecDepth 100000 in
theorem lifted (os : Os) (started : os.Started) (H : Type) (enc : TypeId × Value → H) :
    ReturnsInHanded {} Try.checked os 3 .any (Rows.fnExactFieldTextSpec.pre6 enc Try.prog Try.f3 Rows.fnExactFieldTextRow.domain false) (Rows.fnExactFieldTextSpec.post enc Try.prog Try.f3 false true false false) := by
  refine returnsInHanded_of_change (C := Try.checked) own started (by kernel_rfl) Try.func3
    (ChangeSpec.witness6 (enc := enc) (C := Try.checked) false ⟨#[], #[.agg #[.int .i64 0, .int .i64 0, .int .i64 0, .int .i64 0]], []⟩ 8 (by kernel_rfl) (by kernel_rfl) (by kernel_rfl) (by kernel_rfl)) ?_
  intro W base args ds gs before hval0 hW hcnd _
  have hval : ∀ (j : Nat) t v, Try.f3.params[j]? = some t → args[j]? = some v → Value.okWide Try.prog W .any base t v := hval0
  have hW' := hW
  obtain ⟨p, q, hA0, hV, rfl, hfz, hnd⟩ := hW
  have hA : DataW.TrodAll enc Try.prog W 0 (fun _ => true) true Try.f3.params.toList args.toList ds p := hA0
  rw [Try.params3] at hA hval
  obtain ⟨v0, vs0, d0, ds0, p0, q0, hargs, rfl, rfl, h0, r0⟩ := trodAll_cons hA
  obtain ⟨rfl, rfl, rfl⟩ := trodAll_nil r0
  obtain rfl : args = #[v0] := by cases args; simp_all
  obtain ⟨rfl, rfl⟩ := trodVars_none hV
  have k0 := h0
  have lt0 : ∀ x ∈ p0, x.block < W.heap.size := by obtain ⟨m, hm⟩ := k0; exact DataW.trod_lt m _ _ _ hm
  obtain ⟨n0, l0, rd0, bl0, rfl⟩ := open_field (hval 0 23 v0 rfl rfl) h0
  clear hA0 hval0
  refine (walk n0 l0 rd0 bl0 W).mono fun e W' ⟨he, bel⟩ => ?_
  subst he
  exact ⟨_, rfl, _, _, _, [], _, [], hW', trodAll_mk1 (shut_bool Try.underlying4 _), (trodAll_cons_mk (Below.trod laidOut (by kernel_rfl) (of_decide_eq_true (by kernel_rfl)) k0 bel lt0) trodAll_mk0), rfl, bel.frame _, fun h => by cases h⟩

theorem over : Rows.fnExactFieldTextRow.holds Try.pinned (OpenSpec.ofChange Rows.fnExactFieldTextSpec) :=
  OpenClaim.holds_of_wide 3 Try.f3 rfl rfl rfl rfl rfl rfl rfl ⟨rfl, rfl, rfl, rfl, rfl⟩ rfl rfl rfl rfl rfl (by kernel_rfl) Try.func3 (by kernel_rfl)
    (of_decide_eq_true (by kernel_rfl)) (by unfold Func.isWrapper; first | (rw [if_pos (by decide +kernel)]; kernel_rfl) | (rw [if_neg (by decide +kernel)]; exact ⟨rfl, rfl⟩))
    (fun os started H enc _ => lifted os started H enc)

theorem proved : Rows.FnExactFieldTextSaid := over
end Go.Proofs.Ytdimmlpnfghndab.LawFieldText
