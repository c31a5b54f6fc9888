/-
  FnExactReduceTriangle: for every argument the law returns true and leaves its arguments as they were. No condition.
-/
import Derived.Test.YtidcpocfdppobaaHr
import Derived.Test.YtidcpocfdppobaaHk
namespace Go.Proofs.Ytidcpocfdppobaa.LawReduceTriangle
open Go.ChangeShapes Go.WideShapes Go.ChangeAt Go.RowKit
set_option linter.unusedVariables false

set_option maxRecDepth 100000 in
set_option maxHeartbeats 2000000 in
theorem walk (n : Int) (a : Option Addr) (c : Nat) (cs : List Int) (W : World) (ha : IntsAt W a cs) (hn : cs.length ≤ 9223372036854775807) :
    Calls Try.prog 13 #[.int .i64 n, .slice a cs.length c] W fun e w' => e = .returned (.bool true) ∧ Below W.heap.size W w' := by
  have HA := hide ha
  clear ha
  by_cases hbig : 1048576 < cs.length
  · have hd : decide ((cs.length : Int) > 1048576) = true := by simp; omega
    go_enter Try.func13, Try.ntmps13
    go_wp2_with fail
    go_ret
    exact ⟨rfl, Below.refl _ _⟩
  have hl : cs.length ≤ 1048576 := by omega
  have hd : decide ((cs.length : Int) > 1048576) = false := by simp; omega
  have HL := hide hl
  obtain ⟨r, hr⟩ : ∃ r, r = rdR n cs := ⟨_, rfl⟩
  have hrl : r.1.length ≤ 1048576 := by rw [hr]; exact rdR_le n cs
  have HR := hide hr
  clear hr
  have HC1 : Hid (∀ (V : World) (a : Option Addr) (c : Nat), cs.length ≤ c → IntsAt V a cs → Calls Try.prog 46 #[.int .i64 n, .slice a cs.length c] V (NewList r V)) := hide (fun V a c hc ha => by have h := specReduce_any n a c cs V ha hl; rw [← HR.out] at h; exact h)
  have HC2 : Hid (∀ (V : World) (a : Option Addr) (c : Nat), cs.length ≤ c → IntsAt V a cs → Calls Try.prog 48 #[.int .i64 n, .slice a cs.length c] V (NewList r V)) := hide (fun V a c hc ha => by have h := implReduce_any n a c cs hc V ha hl; rw [← HR.out] at h; exact h)
  clear HR hbig
  go_enter Try.func13, Try.ntmps13
  go_wp2_with fail
  refine (toInt64S_any _ _ cs _ HA.out HL.out).mono ?_
  rintro e w2 ⟨g2, k2, rfl, ho2, hb2⟩
  have hB2 := hide hb2
  have hI2 := hide (And.intro (own_cap ho2) (intsAt_of_ownsRow ho2))
  clear hb2 ho2
  go_wp2_with fail
  -- the model
  refine (HC1.out _ _ _ hI2.out.1 hI2.out.2).mono ?_
  rintro e w3 ⟨aw, kw, rfl, how, hb3⟩
  have hO3 := hide how
  have hB3 := hide (Below.trans' hB2.out hb3)
  clear hb3 how
  go_wp2_with fail
  refine (toInt64S_any _ _ cs _ (HA.out.keep hB3.out) HL.out).mono ?_
  rintro e w4 ⟨g4, k4, rfl, ho4, hb4⟩
  have hO4 := hide ho4
  have hB4 := hide (Below.trans' hB3.out hb4)
  have hg4 := hide (ho4.lt g4 rfl)
  have hP4 := hide (ownsRow_keep hO3.out hb4)
  clear hb4 ho4
  go_wp2_with fail
  -- the program
  refine (HC2.out _ _ _ (own_cap hO4.out) (intsAt_of_ownsRow hO4.out)).mono ?_
  rintro e wi ⟨ag, kg, rfl, hog, hbi⟩
  have hzi : w4.heap.size ≤ wi.heap.size := hbi.size
  have hOg := hide hog
  have hPi := hide (ownsRow_keep hP4.out hbi)
  have hOi := hide (ownsRow_keep hO4.out hbi)
  have hBi := hide (Below.trans' hB4.out hbi)
  have hpw := hide (own_lt' hO3.out)
  have hpg := hide (own_ge hog)
  have hW3 := hB3.out.size
  have e1 : (r.2 != r.2) = false := by simp
  clear hbi hog
  go_wp2_with fail
  refine (eqInt64S_same _ _ _ _ r.1 _ (intsAt_of_ownsRow hOg.out) (intsAt_of_ownsRow hPi.out) hrl).mono ?_
  rintro e w5 ⟨rfl, hb5⟩
  have hB5 := hide (Below.trans' hBi.out hb5)
  have hO5 := hide (ownsRow_keep hOi.out hb5)
  have hOg5 := hide (ownsRow_keep hOg.out hb5)
  have hP5 := hide (ownsRow_keep hPi.out hb5)
  clear hb5
  go_wp2_with fail
  refine (toInt64S_any _ _ cs _ (HA.out.keep hB5.out) HL.out).mono ?_
  rintro e w6 ⟨g6, k6, rfl, ho6, hb6⟩
  have hB6 := hide (Below.trans' hB5.out hb6)
  have hI6 := hide (intsAt_of_ownsRow ho6)
  have hO6 := hide (ownsRow_keep hO5.out hb6)
  have hOg6 := hide (ownsRow_keep hOg5.out hb6)
  have hP6 := hide (ownsRow_keep hP5.out hb6)
  clear hb6 ho6
  go_wp2_with fail
  refine (eqInt64S_same _ _ _ _ cs _ (intsAt_of_ownsRow hO6.out) hI6.out HL.out).mono ?_
  rintro e w7 ⟨rfl, hb7⟩
  have hB7' := hide (Below.trans' hB6.out hb7)
  have hO7 := hide (ownsRow_keep hO6.out hb7)
  have hOg7 := hide (ownsRow_keep hOg6.out hb7)
  have hP7 := hide (ownsRow_keep hP6.out hb7)
  clear hb7
  go_wp2_with fail
  -- the argument's marks
  refine (markInt64S_any _ _ _ _ _ (owned_room hO7.out) HL.out (by omega) (by omega)).mono ?_
  rintro e w8 hp
  obtain ⟨he, ho8, hM8⟩ := mk1_of_marked hO7.out hp
  subst he
  have hb4 := hg4.out
  have hOg8 := hide (hM8.owns hOg7.out (fun g hg e => by have h1 := hpg.out g hg; simp [Value.ownBlock] at e; omega))
  have hP8 := hide (hM8.owns hP7.out (fun g hg e => by have h1 := hpw.out g hg; simp [Value.ownBlock] at e; omega))
  have hBW8 := hide (hB7'.out.trans (hM8.old hB7'.out.size (fun g e => by simp [Value.ownBlock] at e; omega)))
  clear hp hM8 ho8
  go_wp2_with fail
  refine (eqInt64S_same _ _ _ _ r.1 _ (intsAt_of_ownsRow hOg8.out) (intsAt_of_ownsRow hP8.out) hrl).mono ?_
  rintro e w9 ⟨rfl, hb9⟩
  have hOg9 := hide (ownsRow_keep hOg8.out hb9)
  have hP9 := hide (ownsRow_keep hP8.out hb9)
  have hBW9 := hide (Below.trans' hBW8.out hb9)
  clear hb9
  go_wp2_with fail
  -- the answer's marks
  refine (markInt64S_any _ _ _ _ _ (owned_room hOg9.out) hrl (by omega) (by omega)).mono ?_
  rintro e w10 hp
  obtain ⟨he, ho10, hM10⟩ := mk1_of_marked hOg9.out hp
  subst he
  have hP10 := hide (hM10.owns hP9.out (fun g hg e => by have := hpg.out g e; have := hpw.out g hg; omega))
  have hBW10 := hide (hBW9.out.trans (hM10.old hBW9.out.size (fun g e => by have := hpg.out g e; omega)))
  have hG10 := hide ho10
  clear hp hM10 ho10
  go_wp2_with fail
  refine (heldInt64S_any _ _ _ _ _ (intsAt_of_ownsRow hG10.out) hrl (by omega) (by omega)).mono ?_
  rintro e w11 ⟨rfl, hq11⟩
  have hb11 : Below w10.heap.size w10 w11 := hq11.below
  have hP11 := hide (ownsRow_keep hP10.out hb11)
  have hG11 := hide (ownsRow_keep hG10.out hb11)
  have hBW11 := hide (Below.trans' hBW10.out hb11)
  clear hb11 hq11
  go_wp2_with fail
  -- once more
  refine (toInt64S_any _ _ cs _ (HA.out.keep hBW11.out) HL.out).mono ?_
  rintro e w12 ⟨g12, k12, rfl, ho12, hb12⟩
  have hI12 := hide (And.intro (own_cap ho12) (intsAt_of_ownsRow ho12))
  have hP12 := hide (ownsRow_keep hP11.out hb12)
  have hG12 := hide (ownsRow_keep hG11.out hb12)
  have hBW12 := hide (Below.trans' hBW11.out hb12)
  clear hb12 ho12
  go_wp2_with fail
  refine (HC2.out _ _ _ hI12.out.1 hI12.out.2).mono ?_
  rintro e w13 ⟨ah, kh, rfl, hoh, hb13⟩
  have hH13 := hide (intsAt_of_ownsRow hoh)
  have hP13 := hide (ownsRow_keep hP12.out hb13)
  have hG13 := hide (ownsRow_keep hG12.out hb13)
  have hBW13 := hide (Below.trans' hBW12.out hb13)
  clear hb13 hoh
  go_wp2_with fail
  refine (eqInt64S_same _ _ _ _ r.1 _ hH13.out (intsAt_of_ownsRow hP13.out) hrl).mono ?_
  rintro e w14 ⟨rfl, hb14⟩
  have hG14 := hide (ownsRow_keep hG13.out hb14)
  have hBW14 := hide (Below.trans' hBW13.out hb14)
  clear hb14
  go_wp2_with fail
  refine (heldInt64S_any _ _ _ _ _ (intsAt_of_ownsRow hG14.out) hrl (by omega) (by omega)).mono ?_
  rintro e w15 ⟨rfl, hq15⟩
  have hBW15 := hide (Below.trans' hBW14.out hq15.below)
  clear hq15
  go_wp2_with fail
  go_ret
  exact ⟨rfl, hBW15.out⟩

set_option maxRecDepth 100000 in
theorem lifted (os : Os) (started : os.Started) (H : Type) (enc : TypeId × Value → H) :
    ReturnsInHanded {} Try.checked os 13 .any (Rows.fnExactReduceTriangleSpec.pre6 enc Try.prog Try.f13 Rows.fnExactReduceTriangleRow.domain false) (Rows.fnExactReduceTriangleSpec.post enc Try.prog Try.f13 false true false false) := by
  refine returnsInHanded_of_change (C := Try.checked) own started (by kernel_rfl) Try.func13
    (ChangeSpec.witness6 (enc := enc) (C := Try.checked) false ⟨#[], #[.int .i64 0, .slice none 0 0], []⟩ 8 (by kernel_rfl) (by kernel_rfl) (by kernel_rfl) (by kernel_rfl)) ?_
  intro W base args ds gs before hval0 hW hcnd _
  have hval : ∀ (j : Nat) t v, Try.f13.params[j]? = some t → args[j]? = some v → Value.okWide Try.prog W .any base t v := hval0
  have hW' := hW
  obtain ⟨p, q, hA0, hV, rfl, hfz, hnd⟩ := hW
  have hA : DataW.TrodAll enc Try.prog W 0 (fun _ => true) true Try.f13.params.toList args.toList ds p := hA0
  rw [Try.params13] at hA hval
  obtain ⟨v0, vs0, d0, ds0, p0, q0, hargs, rfl, rfl, h0, r0⟩ := trodAll_cons hA
  obtain ⟨v1, vs1, d1, ds1, p1, q1, rfl, rfl, rfl, h1, r1⟩ := trodAll_cons r0
  obtain ⟨rfl, rfl, rfl⟩ := trodAll_nil r1
  obtain rfl : args = #[v0, v1] := by cases args; simp_all
  obtain ⟨rfl, rfl⟩ := trodVars_none hV
  obtain ⟨x0, rfl, rfl, rfl, w0⟩ := open_int Try.underlying2 (hval 0 2 v0 rfl rfl) h0
  have k1 := h1
  have lt1 : ∀ x ∈ p1, x.block < W.heap.size := by obtain ⟨m, hm⟩ := k1; exact DataW.trod_lt m _ _ _ hm
  obtain ⟨a1, c1, x1, rfl, e1, n1⟩ := open_list (hval 1 22 v1 rfl rfl) h1
  clear hA0 hval0
  refine (walk x0 a1 c1 x1 W e1 n1).mono fun e W' ⟨he, bel⟩ => ?_
  subst he
  exact ⟨_, rfl, _, _, _, [], _, [], hW', trodAll_mk1 (shut_bool Try.underlying4 _), (trodAll_cons_mk (shut_int Try.underlying2 w0) (trodAll_cons_mk (Below.trod laidOut (by kernel_rfl) (of_decide_eq_true (by kernel_rfl)) k1 bel lt1) trodAll_mk0)), rfl, bel.frame _, fun h => by cases h⟩

theorem over : Rows.fnExactReduceTriangleRow.holds Try.pinned (OpenSpec.ofChange Rows.fnExactReduceTriangleSpec) :=
  OpenClaim.holds_of_wide 13 Try.f13 rfl rfl rfl rfl rfl rfl rfl ⟨rfl, rfl, rfl, rfl, rfl⟩ rfl rfl rfl rfl rfl (by kernel_rfl) Try.func13 (by kernel_rfl)
    (of_decide_eq_true (by kernel_rfl)) (by unfold Func.isWrapper; first | (rw [if_pos (by decide +kernel)]; kernel_rfl) | (rw [if_neg (by decide +kernel)]; exact ⟨rfl, rfl⟩))
    (fun os started H enc _ => lifted os started H enc)

theorem proved : Rows.FnExactReduceTriangleSaid := over
end Go.Proofs.Ytidcpocfdppobaa.LawReduceTriangle
