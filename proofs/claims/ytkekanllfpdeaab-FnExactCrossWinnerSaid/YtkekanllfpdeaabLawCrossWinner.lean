/-
  FnExactCrossWinner: for every list the law returns true and leaves the list as it was. No condition.
-/
import Derived.Test.YtkekanllfpdeaabXm
import Derived.Test.YtkekanllfpdeaabOpen
namespace Go.Proofs.Ytkekanllfpdeaab.LawCrossWinner
open Go.ChangeShapes Go.WideShapes Go.ChangeAt Go.RowKit
set_option linter.unusedVariables false

set_option maxHeartbeats 400000 in
theorem walk (a : Option Addr) (c : Nat) (zs : List Int) (w : World) (ha : IntsAt w a zs) (hm : zs.length ≤ 9223372036854775807) :
    Calls Try.prog 5 #[.slice a zs.length c] w fun e w' => e = .returned (.bool true) ∧ Below w.heap.size w w' := by
  by_cases hbig : 1048576 < zs.length
  · go_enter Try.func5, Try.ntmps5
    go_wp2_with fail
    go_ret
    exact ⟨rfl, Below.refl _ _⟩
  · have hl : zs.length ≤ 1048576 := by omega
    go_enter Try.func5, Try.ntmps5
    go_wp2_with fail
    refine (toInt64S_any _ _ zs _ ha hl).mono ?_; rintro e w1 ⟨g1, c1, rfl, ho1, hB1⟩
    go_wp2_with fail
    refine (specCrossWin_any _ _ zs _ (intsAt_of_ownsRow ho1) hl).mono ?_; rintro e w2 ⟨rfl, hB2⟩
    go_wp2_with fail
    have ha2 := (ha.keep hB1).keep hB2
    refine (toInt64S_any _ _ zs _ ha2 hl).mono ?_; rintro e w3 ⟨g3, c3, rfl, ho3, hB3⟩
    go_wp2_with fail
    refine (implCrossWin_any _ _ zs _ (intsAt_of_ownsRow ho3) hl).mono ?_; rintro e w4 ⟨rfl, hB4⟩
    go_wp2_with fail
    have ha4 := (ha2.keep hB3).keep hB4
    have hx4 := (intsAt_of_ownsRow ho3).keep hB4
    refine (toInt64S_any _ _ zs _ ha4 hl).mono ?_; rintro e w5 ⟨g5, c5, rfl, ho5, hB5⟩
    go_wp2_with fail
    refine (eqInt64S_same _ _ _ _ zs _ (hx4.keep hB5) (intsAt_of_ownsRow ho5) hl).mono ?_; rintro e w6 ⟨rfl, hB6⟩
    go_wp2_with fail
    go_ret
    exact ⟨rfl, Below.trans' (Below.trans' (Below.trans' (Below.trans' (Below.trans' hB1 hB2) hB3) hB4) hB5) hB6⟩

set_option maxRecDepth 100000 in
theorem lifted (os : Os) (started : os.Started) (H : Type) (enc : TypeId × Value → H) :
    ReturnsInHanded {} Try.checked os 5 .any (Rows.fnExactCrossWinnerSpec.pre6 enc Try.prog Try.f5 Rows.fnExactCrossWinnerRow.domain false) (Rows.fnExactCrossWinnerSpec.post enc Try.prog Try.f5 false true false false) := by
  refine returnsInHanded_of_change (C := Try.checked) own started (by kernel_rfl) Try.func5
    (ChangeSpec.witness6 (enc := enc) (C := Try.checked) false ⟨#[], #[.slice none 0 0], []⟩ 8 (by kernel_rfl) (by kernel_rfl) (by kernel_rfl) (by kernel_rfl)) ?_
  intro W base args ds gs before hval0 hW hcnd _
  have hval : ∀ (j : Nat) t v, Try.f5.params[j]? = some t → args[j]? = some v → Value.okWide Try.prog W .any base t v := hval0
  have hW' := hW
  obtain ⟨p, q, hA0, hV, rfl, hfz, hnd⟩ := hW
  have hA : DataW.TrodAll enc Try.prog W 0 (fun _ => true) true Try.f5.params.toList args.toList ds p := hA0
  rw [Try.params5] at hA hval
  obtain ⟨v0, vs0, d0, ds0, p0, q0, hargs, rfl, rfl, h0, r0⟩ := trodAll_cons hA
  obtain ⟨rfl, rfl, rfl⟩ := trodAll_nil r0
  obtain rfl : args = #[v0] := by cases args; simp_all
  obtain ⟨rfl, rfl⟩ := trodVars_none hV
  have k0 := h0
  have lt0 : ∀ x ∈ p0, x.block < W.heap.size := by obtain ⟨m, hm⟩ := k0; exact DataW.trod_lt m _ _ _ hm
  obtain ⟨a0, c0, x0, rfl, e0, n0⟩ := open_list (hval 0 22 v0 rfl rfl) h0
  clear hA0 hval0
  refine (walk a0 c0 x0 W e0 n0).mono fun e W' ⟨he, bel⟩ => ?_
  subst he
  exact ⟨_, rfl, _, _, _, [], _, [], hW', trodAll_mk1 (shut_bool Try.underlying4 _), (trodAll_cons_mk (Below.trod laidOut (by kernel_rfl) (of_decide_eq_true (by kernel_rfl)) k0 bel lt0) trodAll_mk0), rfl, bel.frame _, fun h => by cases h⟩

theorem over : Rows.fnExactCrossWinnerRow.holds Try.pinned (OpenSpec.ofChange Rows.fnExactCrossWinnerSpec) :=
  OpenClaim.holds_of_wide 5 Try.f5 rfl rfl rfl rfl rfl rfl rfl ⟨rfl, rfl, rfl, rfl, rfl⟩ rfl rfl rfl rfl rfl (by kernel_rfl) Try.func5 (by kernel_rfl)
    (of_decide_eq_true (by kernel_rfl)) (by unfold Func.isWrapper; first | (rw [if_pos (by decide +kernel)]; kernel_rfl) | (rw [if_neg (by decide +kernel)]; exact ⟨rfl, rfl⟩))
    (fun os started H enc _ => lifted os started H enc)

theorem proved : Rows.FnExactCrossWinnerSaid := over
end Go.Proofs.Ytkekanllfpdeaab.LawCrossWinner
