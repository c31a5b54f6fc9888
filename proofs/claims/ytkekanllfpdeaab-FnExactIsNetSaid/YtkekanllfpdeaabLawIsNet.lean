/-
  FnExactIsNet: for every value of the type the law returns true and leaves its argument as it was. No condition.
-/
import Derived.Test.YtkekanllfpdeaabIm
import Derived.Test.YtkekanllfpdeaabLv
namespace Go.Proofs.Ytkekanllfpdeaab.LawIsNet
open Go.ChangeShapes Go.WideShapes Go.ChangeAt Go.RowKit
set_option linter.unusedVariables false

set_option maxRecDepth 100000 in
set_option maxHeartbeats 2000000 in
theorem walk (s0 : Int) (a : Option Addr) (c : Nat) (xss : List (List Int)) (w : World) (ha : RowsAt w a xss) (hn : xss.length ≤ 9223372036854775807) (hf : Fits xss) :
    Calls Try.prog 6 #[.agg #[.int .i64 s0, .slice a xss.length c]] w fun e w' => e = .returned (.bool true) ∧ Below w.heap.size w w' := by
  obtain ⟨s, hs⟩ : ∃ s, s = szAll xss 1048576 := ⟨_, rfl⟩
  have HS := hide hs
  clear hs
  have hB0 : Below w.heap.size w (w.alloc (.cells #[.int .i64 s0, .slice a xss.length c] 42)) := (Below.refl _ _).alloc (Nat.le_refl _) _
  have hbox : (w.alloc (.cells #[.int .i64 s0, .slice a xss.length c] 42)).cell? ⟨w.heap.size, 1, none⟩ = some (.slice a xss.length c) := by simp [go_sem]
  have hboxz : (w.alloc (.cells #[.int .i64 s0, .slice a xss.length c] 42)).cell? ⟨w.heap.size, 0, none⟩ = some (.int .i64 s0) := by simp [go_sem]
  by_cases hneg : s < 0
  · go_enter Try.func6, Try.ntmps6
    go_wp2_with fail
    refine (szNet_any _ _ _ xss _ (ha.keep hB0) hn hf).mono ?_
    rintro e w1 ⟨he, hB1⟩
    rw [← HS.out] at he
    subst he
    go_wp2_with fail
    go_ret
    exact ⟨rfl, Below.trans' hB0 hB1⟩
  · have hsm : Small xss := szAll_small (by rw [← HS.out]; omega)
    go_enter Try.func6, Try.ntmps6
    go_wp2_with fail
    refine (szNet_any _ _ _ xss _ (ha.keep hB0) hn hf).mono ?_
    rintro e w1 ⟨he, hB1⟩
    rw [← HS.out] at he
    subst he
    have ha1 := (ha.keep hB0).keep hB1
    have hb1 := cell_keep hB1 hbox
    have hb1z := cell_keep hB1 hboxz
    go_wp2_with fail
    refine (toNet_any _ _ _ xss _ ha1 hsm).mono ?_
    rintro e w2 ⟨a2, c2, rfl, hg2, hB2⟩
    go_wp2_with fail
    refine (specIsNet_any _ _ _ xss _ hg2.reads hsm).mono ?_
    rintro e w3 ⟨rfl, hB3⟩
    have ha3 := (ha1.keep hB2).keep hB3
    have hb3 := cell_keep hB3 (cell_keep hB2 hb1)
    have hb3z := cell_keep hB3 (cell_keep hB2 hb1z)
    clear ha1 hb1 hb1z
    go_wp2_with fail
    refine (toNet_any _ _ _ xss _ ha3 hsm).mono ?_
    rintro e w4 ⟨a4, c4, rfl, hg4, hB4⟩
    go_wp2_with fail
    have hBx : Below w4.heap.size w4 (w4.alloc (.cells #[.int .i64 s0, .slice a4 xss.length c4] 45)) := (Below.refl _ _).alloc (Nat.le_refl _) _
    have hx : (w4.alloc (.cells #[.int .i64 s0, .slice a4 xss.length c4] 45)).cell? ⟨w4.heap.size, 1, none⟩ = some (.slice a4 xss.length c4) := by simp [go_sem]
    have hxz : (w4.alloc (.cells #[.int .i64 s0, .slice a4 xss.length c4] 45)).cell? ⟨w4.heap.size, 0, none⟩ = some (.int .i64 s0) := by simp [go_sem]
    refine (implIsNet_any _ _ _ xss _ (hg4.reads.keep hBx) hsm).mono ?_
    rintro e w5 ⟨rfl, hB5⟩
    have ha5 := ((ha3.keep hB4).keep hBx).keep hB5
    have hb5 := cell_keep hB5 (cell_keep hBx (cell_keep hB4 hb3))
    have hb5z := cell_keep hB5 (cell_keep hBx (cell_keep hB4 hb3z))
    have hx5 := cell_keep hB5 hx
    have hx5z := cell_keep hB5 hxz
    have hr5 := (hg4.reads.keep hBx).keep hB5
    clear ha3 hb3 hx hg4 hb3z hxz
    go_wp2_with fail
    have hd5 : Below w5.heap.size w5 w5.drew := Below.drew (Below.refl _ _)
    have hbd := cell_keep hd5 hb5
    have hbdz := cell_keep hd5 hb5z
    have hxd := cell_keep hd5 hx5
    have hxdz := cell_keep hd5 hx5z
    have had := ha5.keep hd5
    have hrd := hr5.keep hd5
    go_region_held3 (fun W => W.cell? ⟨w.heap.size, 0, none⟩ = some (.int .i64 s0) ∧ W.cell? ⟨w.heap.size, 1, none⟩ = some (.slice a xss.length c) ∧ W.cell? ⟨w4.heap.size, 0, none⟩ = some (.int .i64 s0) ∧ W.cell? ⟨w4.heap.size, 1, none⟩ = some (.slice a4 xss.length c4) ∧ Below w5.heap.size w5 W) (first | (exact ⟨hbdz, hbd, hxdz, hxd, hd5⟩) | (exact ⟨cell_keep hB6 hbdz, cell_keep hB6 hbd, cell_keep hB6 hxdz, cell_keep hB6 hxd, Below.trans' hd5 hB6⟩) | (exact ⟨cell_keep hB7 (cell_keep hB6 hbdz), cell_keep hB7 (cell_keep hB6 hbd), cell_keep hB7 (cell_keep hB6 hxdz), cell_keep hB7 (cell_keep hB6 hxd), Below.trans' (Below.trans' hd5 hB6) hB7⟩)) (first | (go_at_call 26; refine (toNet_any _ _ _ xss _ had hsm).mono ?_; rintro e w6 ⟨a6, c6, rfl, hg6, hB6⟩) | (go_at_call 28; refine (eqNet_same _ _ _ _ _ xss _ (hrd.keep hB6) hg6.reads hsm).mono ?_; rintro e w7 ⟨rfl, hB7⟩))
    go_wp2_with fail
    go_ret
    exact ⟨rfl, Below.trans' (Below.trans' (Below.trans' (Below.trans' (Below.trans' (Below.trans' (Below.trans' (Below.trans' (Below.trans' hB0 hB1) hB2) hB3) hB4) hBx) hB5) hd5) hB6) hB7⟩


set_option maxRecDepth 100000 in
theorem lifted (os : Os) (started : os.Started) (H : Type) (enc : TypeId × Value → H) :
    ReturnsInHanded {} Try.checked os 6 .any (Rows.fnExactIsNetSpec.pre6 enc Try.prog Try.f6 Rows.fnExactIsNetRow.domain false) (Rows.fnExactIsNetSpec.post enc Try.prog Try.f6 false true false false) := by
  refine returnsInHanded_of_change (C := Try.checked) own started (by kernel_rfl) Try.func6
    (ChangeSpec.witness6 (enc := enc) (C := Try.checked) false ⟨#[], #[.agg #[.int .i64 0, .slice none 0 0]], []⟩ 8 (by kernel_rfl) (by kernel_rfl) (by kernel_rfl) (by kernel_rfl)) ?_
  intro W base args ds gs before hval0 hW hcnd _
  have hval : ∀ (j : Nat) t v, Try.f6.params[j]? = some t → args[j]? = some v → Value.okWide Try.prog W .any base t v := hval0
  have hW' := hW
  obtain ⟨p, q, hA0, hV, rfl, hfz, hnd⟩ := hW
  have hA : DataW.TrodAll enc Try.prog W 0 (fun _ => true) true Try.f6.params.toList args.toList ds p := hA0
  rw [Try.params6] at hA hval
  obtain ⟨v0, vs0, d0, ds0, p0, q0, hargs, rfl, rfl, h0, r0⟩ := trodAll_cons hA
  obtain ⟨rfl, rfl, rfl⟩ := trodAll_nil r0
  obtain rfl : args = #[v0] := by cases args; simp_all
  obtain ⟨rfl, rfl⟩ := trodVars_none hV
  have k0 := h0
  have lt0 : ∀ x ∈ p0, x.block < W.heap.size := by obtain ⟨m, hm⟩ := k0; exact DataW.trod_lt m _ _ _ hm
  obtain ⟨s0, a0, c0, x0, rfl, e0, n0, f0, _⟩ := open_net (hval 0 42 v0 rfl rfl) h0
  clear hA0 hval0
  refine (walk s0 a0 c0 x0 W e0 n0 f0).mono fun e W' ⟨he, bel⟩ => ?_
  subst he
  exact ⟨_, rfl, _, _, _, [], _, [], hW', trodAll_mk1 (shut_bool Try.underlying4 _), (trodAll_cons_mk (Below.trod laidOut (by kernel_rfl) (of_decide_eq_true (by kernel_rfl)) k0 bel lt0) trodAll_mk0), rfl, bel.frame _, fun h => by cases h⟩

theorem over : Rows.fnExactIsNetRow.holds Try.pinned (OpenSpec.ofChange Rows.fnExactIsNetSpec) :=
  OpenClaim.holds_of_wide_leaving 6 Try.f6 rfl rfl rfl rfl rfl rfl rfl ⟨rfl, rfl, rfl, rfl, rfl⟩ rfl rfl rfl rfl rfl (by kernel_rfl) Try.func6 (by kernel_rfl)
    (of_decide_eq_true (by kernel_rfl)) (by unfold Func.isWrapper; first | (rw [if_pos (by decide +kernel)]; kernel_rfl) | (rw [if_neg (by decide +kernel)]; exact ⟨rfl, rfl⟩))
    (fun os started H enc _ => leaving_of_handed (lifted os started H enc))

theorem proved : Rows.FnExactIsNetSaid := over

end Go.Proofs.Ytkekanllfpdeaab.LawIsNet
