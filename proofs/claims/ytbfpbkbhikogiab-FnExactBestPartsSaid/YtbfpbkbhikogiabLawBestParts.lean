/-
  FnExactBestParts: for every argument the law returns true. No condition.
-/
import Derived.Test.YtbfpbkbhikogiabBw
import Derived.Test.YtbfpbkbhikogiabBs2
import Derived.Test.YtbfpbkbhikogiabMk
import Derived.Test.YtbfpbkbhikogiabEp
namespace Go.Proofs.Ytbfpbkbhikogiab.LawBestParts
open Go.ChangeShapes Go.WideShapes Go.ChangeAt Go.RowKit
set_option linter.unusedVariables false

theorem bpR_le (n k : Int) : (bpR n k).1.length ≤ 1048576 := by
  unfold bpR
  by_cases h : okP n k = true
  · rw [if_pos h]
    have hk : k ≤ 6 := by
      unfold okP at h
      simp only [decide_eq_true_eq] at h
      omega
    show (bestP (pt k.toNat 1 n.toNat)).length ≤ 1048576
    unfold bestP
    cases hz : (pt k.toNat 1 n.toNat)[(mxI (vI (pt k.toNat 1 n.toNat)) (pt k.toNat 1 n.toNat).length).getD 0]? with
    | none => show ([] : List Int).length ≤ 1048576; simp
    | some zs =>
      have := pt_rows _ _ _ zs (List.mem_of_getElem? hz)
      show zs.length ≤ 1048576
      omega
  · rw [if_neg h]
    show ([] : List Int).length ≤ 1048576
    simp

set_option maxRecDepth 100000 in
set_option maxHeartbeats 4000000 in
theorem walk (n k : Int) (W : World) : Calls Try.prog 3 #[.int .i64 n, .int .i64 k] W fun e w' => e = .returned (.bool true) ∧ Below W.heap.size W w' := by
  obtain ⟨r, hr⟩ : ∃ r, r = bpR n k := ⟨_, rfl⟩
  have hrl : r.1.length ≤ 1048576 := by rw [hr]; exact bpR_le n k
  have HR := hide hr
  clear hr
  go_enter Try.func3, Try.ntmps3
  go_wp2_with fail
  refine (specParts_any n k _).mono ?_
  rw [← HR.out]
  rintro e w1 ⟨aw, cw, rfl, how, hb1⟩
  have hW1 := hide (intsAt_of_ownsRow how)
  have HB1 := hide hb1
  clear how hb1
  go_wp2_with fail
  refine (implParts_any n k _).mono ?_
  rw [← HR.out]
  rintro e w2 ⟨ag, cg, rfl, hog, hb2⟩
  have HG2 := hide hog
  have hW2 := hide (hW1.out.keep hb2)
  have hD2 := hide hb2
  clear hog hb2
  go_wp2_with fail
  refine (eqInt64S_same _ _ _ _ r.1 _ (intsAt_of_ownsRow HG2.out) hW2.out hrl).mono ?_
  rintro e w3 ⟨rfl, hb3⟩
  have HG3 := hide (ownsRow_keep HG2.out hb3)
  have hD3 := hide (Below.trans' hD2.out hb3)
  clear hb3
  go_wp2_with fail
  refine (markInt64S_any _ _ _ _ _ (owned_room HG3.out) hrl (by omega) (by omega)).mono ?_
  rintro e w4 hp
  obtain ⟨hog4, hM4⟩ := marked_owned HG3.out hp
  have hD4 := hide (hD3.out.trans (hM4.below (fun k hk => hk.1)))
  have HG4 := hide hog4
  obtain ⟨rfl, _⟩ := hp
  clear hog4 hM4
  go_wp2_with fail
  refine (heldInt64S_any _ _ _ _ _ (intsAt_of_ownsRow HG4.out) hrl (by omega) (by omega)).mono ?_
  rintro e w5 ⟨rfl, hq5⟩
  have hb5 : Below w4.heap.size w4 w5 := hq5.below
  have HG5 := hide (ownsRow_keep HG4.out hb5)
  have hD5 := hide (Below.trans' hD4.out hb5)
  clear hb5 hq5
  go_wp2_with fail
  refine (implParts_any n k _).mono ?_
  rw [← HR.out]
  rintro e w6 ⟨ah, ch, rfl, hoh, hb6⟩
  have HG6 := hide (ownsRow_keep HG5.out hb6)
  have hD6 := hide (Below.trans' hD5.out hb6)
  have hW6 := hide (hW1.out.keep hD6.out)
  have HH6 := hide (intsAt_of_ownsRow hoh)
  clear hoh hb6
  go_wp2_with fail
  refine (eqInt64S_same _ _ _ _ r.1 _ HH6.out hW6.out hrl).mono ?_
  rintro e w7 ⟨rfl, hb7⟩
  have HG7 := hide (ownsRow_keep HG6.out hb7)
  have hD7 := hide (Below.trans' hD6.out hb7)
  clear hb7
  go_wp2_with fail
  refine (heldInt64S_any _ _ _ _ _ (intsAt_of_ownsRow HG7.out) hrl (by omega) (by omega)).mono ?_
  rintro e w8 ⟨rfl, hq8⟩
  have hfin := hide (Below.trans' HB1.out (Below.trans' hD7.out hq8.below))
  clear hq8
  go_wp2_with fail
  go_ret
  exact ⟨rfl, hfin.out⟩

set_option maxRecDepth 100000 in
theorem lifted (os : Os) (started : os.Started) (H : Type) (enc : TypeId × Value → H) :
    ReturnsInHanded {} Try.checked os 3 .any (Rows.fnExactBestPartsSpec.pre6 enc Try.prog Try.f3 Rows.fnExactBestPartsRow.domain false) (Rows.fnExactBestPartsSpec.post enc Try.prog Try.f3 false true false false) := by
  refine returnsInHanded_of_change (C := Try.checked) own started (by kernel_rfl) Try.func3
    (ChangeSpec.witness6 (enc := enc) (C := Try.checked) false ⟨#[], #[.int .i64 0, .int .i64 0], []⟩ 8 (by kernel_rfl) (by kernel_rfl) (by kernel_rfl) (by kernel_rfl)) ?_
  intro W base args ds gs before hval0 hW hcnd _
  have hval : ∀ (j : Nat) t v, Try.f3.params[j]? = some t → args[j]? = some v → Value.okWide Try.prog W .any base t v := hval0
  have hW' := hW
  obtain ⟨p, q, hA0, hV, rfl, hfz, hnd⟩ := hW
  have hA : DataW.TrodAll enc Try.prog W 0 (fun _ => true) true Try.f3.params.toList args.toList ds p := hA0
  rw [Try.params3] at hA hval
  obtain ⟨v0, vs0, d0, ds0, p0, q0, hargs, rfl, rfl, h0, r0⟩ := trodAll_cons hA
  obtain ⟨v1, vs1, d1, ds1, p1, q1, rfl, rfl, rfl, h1, r1⟩ := trodAll_cons r0
  obtain ⟨rfl, rfl, rfl⟩ := trodAll_nil r1
  obtain rfl : args = #[v0, v1] := by cases args; simp_all
  obtain ⟨rfl, rfl⟩ := trodVars_none hV
  obtain ⟨x0, rfl, rfl, rfl, w0⟩ := open_int Try.underlying2 (hval 0 2 v0 rfl rfl) h0
  obtain ⟨x1, rfl, rfl, rfl, w1⟩ := open_int Try.underlying2 (hval 1 2 v1 rfl rfl) h1
  clear hA0 hval0
  refine (walk x0 x1 W).mono fun e W' ⟨he, bel⟩ => ?_
  subst he
  exact ⟨_, rfl, _, _, _, [], _, [], hW', trodAll_mk1 (shut_bool Try.underlying4 _), (trodAll_cons_mk (shut_int Try.underlying2 w0) (trodAll_cons_mk (shut_int Try.underlying2 w1) trodAll_mk0)), rfl, bel.frame _, fun h => by cases h⟩

theorem over : Rows.fnExactBestPartsRow.holds Try.pinned (OpenSpec.ofChange Rows.fnExactBestPartsSpec) :=
  OpenClaim.holds_of_wide 3 Try.f3 rfl rfl rfl rfl rfl rfl rfl ⟨rfl, rfl, rfl, rfl, rfl⟩ rfl rfl rfl rfl rfl (by kernel_rfl) Try.func3 (by kernel_rfl)
    (of_decide_eq_true (by kernel_rfl)) (by unfold Func.isWrapper; first | (rw [if_pos (by decide +kernel)]; kernel_rfl) | (rw [if_neg (by decide +kernel)]; exact ⟨rfl, rfl⟩))
    (fun os started H enc _ => lifted os started H enc)

theorem proved : Rows.FnExactBestPartsSaid := over
end Go.Proofs.Ytbfpbkbhikogiab.LawBestParts
