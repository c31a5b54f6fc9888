/-
  FnExactHexNeighbours: for every argument the law returns true. No condition.
-/
import Derived.Test.YtidcpocfdppobaaHq
import Derived.Test.YtidcpocfdppobaaHk
namespace Go.Proofs.Ytidcpocfdppobaa.LawHexNeighbours
open Go.ChangeShapes Go.WideShapes Go.ChangeAt Go.RowKit
set_option linter.unusedVariables false

set_option maxRecDepth 100000 in
set_option maxHeartbeats 2000000 in
theorem walk (n a : Int) (W : World) : Calls Try.prog 4 #[.int .i64 n, .int .i64 a] W fun e w' => e = .returned (.bool true) ∧ Below W.heap.size W w' := by
  obtain ⟨r, hr⟩ : ∃ r, r = hxn n a := ⟨_, rfl⟩
  have hrl : r.1.length ≤ 1048576 := by rw [hr]; exact hxn_le n a
  have HC1 : Hid (∀ V : World, Calls Try.prog 20 #[.int .i64 n, .int .i64 a] V (NewList r V)) := hide (fun V => by rw [hr]; exact specHexN_any n a V)
  have HC2 : Hid (∀ V : World, Calls Try.prog 21 #[.int .i64 n, .int .i64 a] V (NewList r V)) := hide (fun V => by rw [hr]; exact implHexN_any n a V)
  have e1 : (r.2 != r.2) = false := by simp
  clear hr
  go_enter Try.func4, Try.ntmps4
  go_wp2_with fail
  refine (HC1.out _).mono ?_
  rintro e w3 ⟨aw, kw, rfl, how, hb3⟩
  have hO3 := hide how
  have hB3 := hide hb3
  clear hb3 how
  go_wp2_with fail
  refine (HC2.out _).mono ?_
  rintro e wi ⟨ag, kg, rfl, hog, hbi⟩
  have hOg := hide hog
  have hPi := hide (ownsRow_keep hO3.out hbi)
  have hBi := hide (Below.trans' hB3.out hbi)
  have hpw := hide (own_lt' hO3.out)
  have hpg := hide (own_ge hog)
  have hW3 := hB3.out.size
  clear hbi hog
  go_wp2_with fail
  refine (eqInt64S_same _ _ _ _ r.1 _ (intsAt_of_ownsRow hOg.out) (intsAt_of_ownsRow hPi.out) hrl).mono ?_
  rintro e w5 ⟨rfl, hb5⟩
  have hBW9 := hide (Below.trans' hBi.out hb5)
  have hOg9 := hide (ownsRow_keep hOg.out hb5)
  have hP9 := hide (ownsRow_keep hPi.out hb5)
  clear hb5
  go_wp2_with fail
  -- the answer's marks
  refine (markInt64S_any _ _ _ _ _ (owned_room hOg9.out) hrl (by omega) (by omega)).mono ?_
  rintro e w10 hp
  obtain ⟨he, ho10, hM10⟩ := mk1_of_marked hOg9.out hp
  subst he
  have hP10 := hide (hM10.owns hP9.out (fun g hg e => by have := hpg.out g e; have := hpw.out g hg; omega))
  have hBW10 := hide (hBW9.out.trans (hM10.old hBW9.out.size (fun g e => by have := hpg.out g e; omega)))
  have hG10 := hide ho10
  clear hp hM10 ho10
  go_wp2_with fail
  refine (heldInt64S_any _ _ _ _ _ (intsAt_of_ownsRow hG10.out) hrl (by omega) (by omega)).mono ?_
  rintro e w11 ⟨rfl, hq11⟩
  have hb11 : Below w10.heap.size w10 w11 := hq11.below
  have hP11 := hide (ownsRow_keep hP10.out hb11)
  have hG11 := hide (ownsRow_keep hG10.out hb11)
  have hBW11 := hide (Below.trans' hBW10.out hb11)
  clear hb11 hq11
  go_wp2_with fail
  -- once more
  refine (HC2.out _).mono ?_
  rintro e w13 ⟨ah, kh, rfl, hoh, hb13⟩
  have hH13 := hide (intsAt_of_ownsRow hoh)
  have hP13 := hide (ownsRow_keep hP11.out hb13)
  have hG13 := hide (ownsRow_keep hG11.out hb13)
  have hBW13 := hide (Below.trans' hBW11.out hb13)
  clear hb13 hoh
  go_wp2_with fail
  refine (eqInt64S_same _ _ _ _ r.1 _ hH13.out (intsAt_of_ownsRow hP13.out) hrl).mono ?_
  rintro e w14 ⟨rfl, hb14⟩
  have hG14 := hide (ownsRow_keep hG13.out hb14)
  have hBW14 := hide (Below.trans' hBW13.out hb14)
  clear hb14
  go_wp2_with fail
  refine (heldInt64S_any _ _ _ _ _ (intsAt_of_ownsRow hG14.out) hrl (by omega) (by omega)).mono ?_
  rintro e w15 ⟨rfl, hq15⟩
  have hBW15 := hide (Below.trans' hBW14.out hq15.below)
  clear hq15
  go_wp2_with fail
  go_ret
  exact ⟨rfl, hBW15.out⟩

set_option maxRecDepth 100000 in
theorem lifted (os : Os) (started : os.Started) (H : Type) (enc : TypeId × Value → H) :
    ReturnsInHanded {} Try.checked os 4 .any (Rows.fnExactHexNeighboursSpec.pre6 enc Try.prog Try.f4 Rows.fnExactHexNeighboursRow.domain false) (Rows.fnExactHexNeighboursSpec.post enc Try.prog Try.f4 false true false false) := by
  refine returnsInHanded_of_change (C := Try.checked) own started (by kernel_rfl) Try.func4
    (ChangeSpec.witness6 (enc := enc) (C := Try.checked) false ⟨#[], #[.int .i64 0, .int .i64 0], []⟩ 8 (by kernel_rfl) (by kernel_rfl) (by kernel_rfl) (by kernel_rfl)) ?_
  intro W base args ds gs before hval0 hW hcnd _
  have hval : ∀ (j : Nat) t v, Try.f4.params[j]? = some t → args[j]? = some v → Value.okWide Try.prog W .any base t v := hval0
  have hW' := hW
  obtain ⟨p, q, hA0, hV, rfl, hfz, hnd⟩ := hW
  have hA : DataW.TrodAll enc Try.prog W 0 (fun _ => true) true Try.f4.params.toList args.toList ds p := hA0
  rw [Try.params4] at hA hval
  obtain ⟨v0, vs0, d0, ds0, p0, q0, hargs, rfl, rfl, h0, r0⟩ := trodAll_cons hA
  obtain ⟨v1, vs1, d1, ds1, p1, q1, rfl, rfl, rfl, h1, r1⟩ := trodAll_cons r0
  obtain ⟨rfl, rfl, rfl⟩ := trodAll_nil r1
  obtain rfl : args = #[v0, v1] := by cases args; simp_all
  obtain ⟨rfl, rfl⟩ := trodVars_none hV
  obtain ⟨x0, rfl, rfl, rfl, w0⟩ := open_int Try.underlying2 (hval 0 2 v0 rfl rfl) h0
  obtain ⟨x1, rfl, rfl, rfl, w1⟩ := open_int Try.underlying2 (hval 1 2 v1 rfl rfl) h1
  clear hA0 hval0
  refine (walk x0 x1 W).mono fun e W' ⟨he, bel⟩ => ?_
  subst he
  exact ⟨_, rfl, _, _, _, [], _, [], hW', trodAll_mk1 (shut_bool Try.underlying4 _), (trodAll_cons_mk (shut_int Try.underlying2 w0) (trodAll_cons_mk (shut_int Try.underlying2 w1) trodAll_mk0)), rfl, bel.frame _, fun h => by cases h⟩

theorem over : Rows.fnExactHexNeighboursRow.holds Try.pinned (OpenSpec.ofChange Rows.fnExactHexNeighboursSpec) :=
  OpenClaim.holds_of_wide 4 Try.f4 rfl rfl rfl rfl rfl rfl rfl ⟨rfl, rfl, rfl, rfl, rfl⟩ rfl rfl rfl rfl rfl (by kernel_rfl) Try.func4 (by kernel_rfl)
    (of_decide_eq_true (by kernel_rfl)) (by unfold Func.isWrapper; first | (rw [if_pos (by decide +kernel)]; kernel_rfl) | (rw [if_neg (by decide +kernel)]; exact ⟨rfl, rfl⟩))
    (fun os started H enc _ => lifted os started H enc)

theorem proved : Rows.FnExactHexNeighboursSaid := over
end Go.Proofs.Ytidcpocfdppobaa.LawHexNeighbours
