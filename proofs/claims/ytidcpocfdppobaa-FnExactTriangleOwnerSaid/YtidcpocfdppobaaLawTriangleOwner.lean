/-
  FnExactTriangleOwner: for every argument the law returns true and leaves its arguments as they were. No condition.
-/
import Derived.Test.YtidcpocfdppobaaHr
import Derived.Test.YtidcpocfdppobaaHk
namespace Go.Proofs.Ytidcpocfdppobaa.LawTriangleOwner
open Go.ChangeShapes Go.WideShapes Go.ChangeAt Go.RowKit
set_option linter.unusedVariables false

set_option maxRecDepth 100000 in
set_option maxHeartbeats 2000000 in
theorem walk (n : Int) (a : Option Addr) (c : Nat) (cs : List Int) (W : World) (ha : IntsAt W a cs) (hn : cs.length ≤ 9223372036854775807) :
    Calls Try.prog 14 #[.int .i64 n, .slice a cs.length c] W fun e w' => e = .returned (.bool true) ∧ Below W.heap.size W w' := by
  have HA := hide ha
  clear ha
  by_cases hbig : 1048576 < cs.length
  · have hd : decide ((cs.length : Int) > 1048576) = true := by simp; omega
    go_enter Try.func14, Try.ntmps14
    go_wp2_with fail
    go_ret
    exact ⟨rfl, Below.refl _ _⟩
  have hl : cs.length ≤ 1048576 := by omega
  have hd : decide ((cs.length : Int) > 1048576) = false := by simp; omega
  have HL := hide hl
  obtain ⟨r0, r1, hr⟩ : ∃ r0 r1 : Int, owR n cs = (r0, r1) := ⟨_, _, rfl⟩
  have HR := hide hr
  clear hr
  have HC1 : Hid (∀ (V : World) (a : Option Addr) (c : Nat), cs.length ≤ c → IntsAt V a cs → Calls Try.prog 49 #[.int .i64 n, .slice a cs.length c] V (RetB (.tuple #[.int .i64 r0, .int .i64 r1]) V)) := hide (fun V a c hc ha => by have h := specOwner_any n a c cs hc V ha hl; rw [HR.out] at h; exact h)
  have HC2 : Hid (∀ (V : World) (a : Option Addr) (c : Nat), cs.length ≤ c → IntsAt V a cs → Calls Try.prog 50 #[.int .i64 n, .slice a cs.length c] V (RetB (.tuple #[.int .i64 r0, .int .i64 r1]) V)) := hide (fun V a c hc ha => by have h := implOwner_any n a c cs hc V ha hl; rw [HR.out] at h; exact h)
  clear HR hbig
  go_enter Try.func14, Try.ntmps14
  go_wp2_with fail
  refine (toInt64S_any _ _ cs _ HA.out HL.out).mono ?_
  rintro e w2 ⟨g2, k2, rfl, ho2, hb2⟩
  have hB2 := hide hb2
  have hI2 := hide (And.intro (own_cap ho2) (intsAt_of_ownsRow ho2))
  clear hb2 ho2
  go_wp2_with fail
  -- the model
  refine (HC1.out _ _ _ hI2.out.1 hI2.out.2).mono ?_
  rintro e w3 ⟨rfl, hb3⟩
  have hB3 := hide (Below.trans' hB2.out hb3)
  clear hb3
  go_wp2_with fail
  refine (toInt64S_any _ _ cs _ (HA.out.keep hB3.out) HL.out).mono ?_
  rintro e w4 ⟨g4, k4, rfl, ho4, hb4⟩
  have hO4 := hide ho4
  have hB4 := hide (Below.trans' hB3.out hb4)
  have hg4 := hide (ho4.lt g4 rfl)
  clear hb4 ho4
  go_wp2_with fail
  -- the program
  refine (HC2.out _ _ _ (own_cap hO4.out) (intsAt_of_ownsRow hO4.out)).mono ?_
  rintro e w5 ⟨rfl, hb5⟩
  have hB5 := hide (Below.trans' hB4.out hb5)
  have hO5 := hide (ownsRow_keep hO4.out hb5)
  have e0 : (r0 != r0) = false := by simp
  have e1 : (r1 != r1) = false := by simp
  clear hb5
  go_wp2_with fail
  refine (toInt64S_any _ _ cs _ (HA.out.keep hB5.out) HL.out).mono ?_
  rintro e w6 ⟨g6, k6, rfl, ho6, hb6⟩
  have hB6 := hide (Below.trans' hB5.out hb6)
  have hI6 := hide (intsAt_of_ownsRow ho6)
  have hO6 := hide (ownsRow_keep hO5.out hb6)
  clear hb6 ho6
  go_wp2_with fail
  refine (eqInt64S_same _ _ _ _ cs _ (intsAt_of_ownsRow hO6.out) hI6.out HL.out).mono ?_
  rintro e w7 ⟨rfl, hb7⟩
  have hB7 := hide (Below.trans' hB6.out hb7)
  clear hb7
  go_wp2_with fail
  go_ret
  exact ⟨rfl, hB7.out⟩

set_option maxRecDepth 100000 in
theorem lifted (os : Os) (started : os.Started) (H : Type) (enc : TypeId × Value → H) :
    ReturnsInHanded {} Try.checked os 14 .any (Rows.fnExactTriangleOwnerSpec.pre6 enc Try.prog Try.f14 Rows.fnExactTriangleOwnerRow.domain false) (Rows.fnExactTriangleOwnerSpec.post enc Try.prog Try.f14 false true false false) := by
  refine returnsInHanded_of_change (C := Try.checked) own started (by kernel_rfl) Try.func14
    (ChangeSpec.witness6 (enc := enc) (C := Try.checked) false ⟨#[], #[.int .i64 0, .slice none 0 0], []⟩ 8 (by kernel_rfl) (by kernel_rfl) (by kernel_rfl) (by kernel_rfl)) ?_
  intro W base args ds gs before hval0 hW hcnd _
  have hval : ∀ (j : Nat) t v, Try.f14.params[j]? = some t → args[j]? = some v → Value.okWide Try.prog W .any base t v := hval0
  have hW' := hW
  obtain ⟨p, q, hA0, hV, rfl, hfz, hnd⟩ := hW
  have hA : DataW.TrodAll enc Try.prog W 0 (fun _ => true) true Try.f14.params.toList args.toList ds p := hA0
  rw [Try.params14] at hA hval
  obtain ⟨v0, vs0, d0, ds0, p0, q0, hargs, rfl, rfl, h0, r0⟩ := trodAll_cons hA
  obtain ⟨v1, vs1, d1, ds1, p1, q1, rfl, rfl, rfl, h1, r1⟩ := trodAll_cons r0
  obtain ⟨rfl, rfl, rfl⟩ := trodAll_nil r1
  obtain rfl : args = #[v0, v1] := by cases args; simp_all
  obtain ⟨rfl, rfl⟩ := trodVars_none hV
  obtain ⟨x0, rfl, rfl, rfl, w0⟩ := open_int Try.underlying2 (hval 0 2 v0 rfl rfl) h0
  have k1 := h1
  have lt1 : ∀ x ∈ p1, x.block < W.heap.size := by obtain ⟨m, hm⟩ := k1; exact DataW.trod_lt m _ _ _ hm
  obtain ⟨a1, c1, x1, rfl, e1, n1⟩ := open_list (hval 1 22 v1 rfl rfl) h1
  clear hA0 hval0
  refine (walk x0 a1 c1 x1 W e1 n1).mono fun e W' ⟨he, bel⟩ => ?_
  subst he
  exact ⟨_, rfl, _, _, _, [], _, [], hW', trodAll_mk1 (shut_bool Try.underlying4 _), (trodAll_cons_mk (shut_int Try.underlying2 w0) (trodAll_cons_mk (Below.trod laidOut (by kernel_rfl) (of_decide_eq_true (by kernel_rfl)) k1 bel lt1) trodAll_mk0)), rfl, bel.frame _, fun h => by cases h⟩

theorem over : Rows.fnExactTriangleOwnerRow.holds Try.pinned (OpenSpec.ofChange Rows.fnExactTriangleOwnerSpec) :=
  OpenClaim.holds_of_wide 14 Try.f14 rfl rfl rfl rfl rfl rfl rfl ⟨rfl, rfl, rfl, rfl, rfl⟩ rfl rfl rfl rfl rfl (by kernel_rfl) Try.func14 (by kernel_rfl)
    (of_decide_eq_true (by kernel_rfl)) (by unfold Func.isWrapper; first | (rw [if_pos (by decide +kernel)]; kernel_rfl) | (rw [if_neg (by decide +kernel)]; exact ⟨rfl, rfl⟩))
    (fun os started H enc _ => lifted os started H enc)

theorem proved : Rows.FnExactTriangleOwnerSaid := over
end Go.Proofs.Ytidcpocfdppobaa.LawTriangleOwner
