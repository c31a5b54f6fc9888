/-
  FnExactLengthsOf: for every argument the law returns true and leaves its argument as it was. No condition.
-/
import Derived.Test.YtlgogpphlnogoaaLenS
import Derived.Test.YtlgogpphlnogoaaMarks
import Derived.Test.YtlgogpphlnogoaaOpen
namespace Go.Proofs.Ytlgogpphlnogoaa.LawLengthsOf
open Go.ChangeShapes Go.WideShapes Go.ChangeAt Go.RowKit
set_option linter.unusedVariables false

theorem sz_of (r : List Int × Int) : r.1.length = r.1.length := rfl

set_option maxRecDepth 100000 in
set_option maxHeartbeats 2000000 in
theorem walk (a : Option Addr) (c : Nat) (xss : List (List Int)) (w : World) (ha : RowsAt w a xss) (hn : xss.length ≤ 9223372036854775807) (hf : Fits xss) :
    Calls Try.prog 5 #[.agg #[.slice a xss.length c]] w fun e w' => e = .returned (.bool true) ∧ Below w.heap.size w w' := by
  obtain ⟨s, hs⟩ : ∃ s, s = szAll xss 1048576 := ⟨_, rfl⟩
  have HS := hide hs
  clear hs
  have hB0 : Below w.heap.size w (w.alloc (.cells #[.slice a xss.length c] 24)) := (Below.refl _ _).alloc (Nat.le_refl _) _
  have hbox : (w.alloc (.cells #[.slice a xss.length c] 24)).cell? ⟨w.heap.size, 0, none⟩ = some (.slice a xss.length c) := by simp [go_sem]
  by_cases hneg : s < 0
  · go_enter Try.func5, Try.ntmps5
    go_wp2_with fail
    refine (szGame_any _ _ xss _ (ha.keep hB0) hn hf).mono ?_
    rintro e w1 ⟨he, hB1⟩
    rw [← HS.out] at he
    subst he
    go_wp2_with fail
    go_ret
    exact ⟨rfl, Below.trans' hB0 hB1⟩
  · have hsm : Small xss := szAll_small (by rw [← HS.out]; omega)
    obtain ⟨r, hr⟩ : ∃ r, r = chkR lenV xss := ⟨_, rfl⟩
    have HR := hide hr
    have hrl : r.1.length ≤ 1048576 := by rw [hr]; exact chkR_le lenV xss hsm
    clear hr
    go_enter Try.func5, Try.ntmps5
    go_wp2_with fail
    refine (szGame_any _ _ xss _ (ha.keep hB0) hn hf).mono ?_
    rintro e w1 ⟨he, hB1⟩
    rw [← HS.out] at he
    subst he
    have ha1 := (ha.keep hB0).keep hB1
    have hb1 := cell_keep hB1 hbox
    clear hbox
    go_wp2_with fail
    -- the model
    refine (toGame_any _ _ xss _ ha1 hsm).mono ?_
    rintro e w2 ⟨a2, c2, rfl, hg2, hB2⟩
    go_wp2_with fail
    refine (L.spec_any _ _ xss _ hg2.reads hsm).mono ?_
    rintro e w3 ⟨aw, cw, rfl, how, hB3⟩
    rw [← HR.out] at how
    rw [← HR.out]
    have hB13 := Below.trans' hB2 hB3
    have ha3 := ha1.keep hB13
    have hb3 := cell_keep hB13 hb1
    have hw3 := intsAt_of_ownsRow how
    clear hg2 how
    go_wp2_with fail
    -- the program
    refine (toGame_any _ _ xss _ ha3 hsm).mono ?_
    rintro e w4 ⟨a4, c4, rfl, hg4, hB4⟩
    go_wp2_with fail
    have hBx : Below w4.heap.size w4 (w4.alloc (.cells #[.slice a4 xss.length c4] 29)) := (Below.refl _ _).alloc (Nat.le_refl _) _
    have hx : (w4.alloc (.cells #[.slice a4 xss.length c4] 29)).cell? ⟨w4.heap.size, 0, none⟩ = some (.slice a4 xss.length c4) := by simp [go_sem]
    refine (L.impl_any _ _ xss _ (hg4.reads.keep hBx) hsm).mono ?_
    rintro e w5 ⟨ag, cg, rfl, hog, hB5⟩
    rw [← HR.out] at hog
    rw [← HR.out]
    have hB4x := Below.trans' hBx hB5
    have hB35 := Below.trans' hB4 hB4x
    have hb5 := cell_keep hB35 hb3
    have hx5 := cell_keep hB5 hx
    have ha5 := ha3.keep hB35
    have hw5 := hw3.keep hB35
    have hgx5 := hg4.keep hB4x
    have hlo : w3.heap.size ≤ w4.heap.size := hB4.size
    have hbase : w4.heap.size + 1 ≤ w5.heap.size := by have := hB5.size; simp at this; omega
    simp at hog
    have hB15 := Below.trans' hB13 hB35
    clear ha3 hb3 hx hg4
    go_wp2_with fail
    refine (eqInt64S_same _ _ _ _ r.1 _ (intsAt_of_ownsRow hog) hw5 hrl).mono ?_
    rintro e w6 ⟨rfl, hB6⟩
    have hb6 := cell_keep hB6 hb5
    have hx6 := cell_keep hB6 hx5
    have ha6 := ha5.keep hB6
    have hw6 := hw5.keep hB6
    have hgx6 := hgx5.keep hB6
    have hog6 := ownsRow_keep hog hB6
    have hB16 := Below.trans' hB15 hB6
    have hB36 := Below.trans' hB35 hB6
    clear hb5 hx5 ha5 hw5 hgx5 hog
    go_wp2_with fail
    -- the argument is as it was
    have hd6 : Below w6.heap.size w6 w6.drew := Below.drew (Below.refl _ _)
    have hbd := cell_keep hd6 hb6
    have hxd := cell_keep hd6 hx6
    have had := ha6.keep hd6
    have hrd := hgx6.reads.keep hd6
    go_region_held3 (fun W => W.cell? ⟨w.heap.size, 0, none⟩ = some (.slice a xss.length c) ∧ W.cell? ⟨w4.heap.size, 0, none⟩ = some (.slice a4 xss.length c4) ∧ Below w6.heap.size w6 W) (first | (exact ⟨hbd, hxd, hd6⟩) | (exact ⟨cell_keep hB7 hbd, cell_keep hB7 hxd, Below.trans' hd6 hB7⟩) | (exact ⟨cell_keep hB8 (cell_keep hB7 hbd), cell_keep hB8 (cell_keep hB7 hxd), Below.trans' (Below.trans' hd6 hB7) hB8⟩)) (first | (go_at_call 12; refine (toGame_any _ _ xss _ had hsm).mono ?_; rintro e w7 ⟨a7, c7, rfl, hg7, hB7⟩) | (go_at_call 15; refine (eqGame_same _ _ _ _ xss _ (hrd.keep hB7) hg7.reads hsm).mono ?_; rintro e w8 ⟨rfl, hB8⟩))
    have hB68 := Below.trans' (Below.trans' hd6 hB7) hB8
    have hB18 := Below.trans' hB16 hB68
    have hB38 := Below.trans' hB36 hB68
    have hx8 := cell_keep hB68 hx6
    have hgx8 := hgx6.keep hB68
    have hog8 := ownsRow_keep hog6 hB68
    have hlo1 : w1.heap.size ≤ w3.heap.size := hB13.size
    have hhi8 : w4.heap.size ≤ w8.heap.size := Nat.le_trans (by omega) (Nat.le_trans hB6.size hB68.size)
    clear hb6 hx6 ha6 hw6 hgx6 hog6 hbd hxd had hrd
    go_wp2_with fail
    -- the argument marked: the answer is as it was
    refine (markGame_any _ _ xss w3.heap.size w4.heap.size _ hgx8 hsm hhi8).mono ?_
    rintro e w9 ⟨t, rfl, ht, hM⟩
    have hBm : Below w8.heap.size w8 (w8.alloc (.cells #[.slice a4 xss.length c4] 29)) := (Below.refl _ _).alloc (Nat.le_refl _) _
    have hB19 : Below w1.heap.size w1 w9 := (Below.trans' hB18 hBm).trans (hM.below (fun k hk => Nat.le_trans hlo1 hk.1))
    have hB39 : Below w3.heap.size w3 w9 := (Below.trans' hB38 hBm).trans (hM.below (fun k hk => hk.1))
    have hog9 := hM.owns (ownsRow_keep hog8 hBm) (fun g e hS => by subst e; have := (hog8.lt g rfl).1; have := hS.2.1; omega)
    have hw9 := hw3.keep hB39
    clear hM hx8 hgx8 hog8 hBm hB18 hB38
    go_wp2_with fail
    refine (eqInt64S_same _ _ _ _ r.1 _ (intsAt_of_ownsRow hog9) hw9 hrl).mono ?_
    rintro e w10 ⟨rfl, hB10⟩
    have hB1_10 := Below.trans' hB19 hB10
    have hB3_10 := Below.trans' hB39 hB10
    have hog10 := ownsRow_keep hog9 hB10
    clear hog9 hw9 hB19 hB39
    go_wp2_with fail
    -- the answer marked
    refine (markInt64S_any _ _ _ _ _ (owned_room hog10) hrl (by omega) (by omega)).mono ?_
    rintro e w11 hp
    obtain ⟨hog11, hM11⟩ := marked_owned hog10 hp
    have hB1_11 : Below w1.heap.size w1 w11 := hB1_10.trans (hM11.below (fun k hk => by have := hk.1; omega))
    have hB3_11 : Below w3.heap.size w3 w11 := hB3_10.trans (hM11.below (fun k hk => by have := hk.1; omega))
    obtain ⟨rfl, _⟩ := hp
    clear hog10 hM11 hB1_10 hB3_10
    go_wp2_with fail
    refine (heldInt64S_any _ _ _ _ _ (intsAt_of_ownsRow hog11) hrl (by omega) (by omega)).mono ?_
    rintro e w12 ⟨rfl, hq12⟩
    have hB12 : Below w11.heap.size w11 w12 := hq12.below
    have hB1_12 := Below.trans' hB1_11 hB12
    have hB3_12 := Below.trans' hB3_11 hB12
    have hog12 := ownsRow_keep hog11 hB12
    have ha12 := ha1.keep hB1_12
    have hb12 := cell_keep hB1_12 hb1
    clear hog11 hB1_11 hB3_11 hq12
    go_wp2_with fail
    -- called again
    refine (toGame_any _ _ xss _ ha12 hsm).mono ?_
    rintro e w13 ⟨a13, c13, rfl, hg13, hB13'⟩
    go_wp2_with fail
    refine (L.impl_any _ _ xss _ hg13.reads hsm).mono ?_
    rintro e w14 ⟨ah, ch, rfl, hoh, hB14⟩
    rw [← HR.out] at hoh
    rw [← HR.out]
    have hB12_14 := Below.trans' hB13' hB14
    have hw14 := hw3.keep (Below.trans' hB3_12 hB12_14)
    have hog14 := ownsRow_keep hog12 hB12_14
    have hB1_14 := Below.trans' hB1_12 hB12_14
    clear hg13 hog12 ha12 hb12
    go_wp2_with fail
    refine (eqInt64S_same _ _ _ _ r.1 _ (intsAt_of_ownsRow hoh) hw14 hrl).mono ?_
    rintro e w15 ⟨rfl, hB15'⟩
    have hog15 := ownsRow_keep hog14 hB15'
    have hB1_15 := Below.trans' hB1_14 hB15'
    clear hog14 hoh hw14
    go_wp2_with fail
    refine (heldInt64S_any _ _ _ _ _ (intsAt_of_ownsRow hog15) hrl (by omega) (by omega)).mono ?_
    rintro e w16 ⟨rfl, hq16⟩
    go_wp2_with fail
    go_ret
    exact ⟨rfl, Below.trans' (Below.trans' (Below.trans' hB0 hB1) hB1_15) hq16.below⟩

set_option maxRecDepth 100000 in
theorem lifted (os : Os) (started : os.Started) (H : Type) (enc : TypeId × Value → H) :
    ReturnsInHanded {} Try.checked os 5 .any (Rows.fnExactLengthsOfSpec.pre6 enc Try.prog Try.f5 Rows.fnExactLengthsOfRow.domain false) (Rows.fnExactLengthsOfSpec.post enc Try.prog Try.f5 false true false false) := by
  refine returnsInHanded_of_change (C := Try.checked) own started (by kernel_rfl) Try.func5
    (ChangeSpec.witness6 (enc := enc) (C := Try.checked) false ⟨#[], #[.agg #[.slice none 0 0]], []⟩ 8 (by kernel_rfl) (by kernel_rfl) (by kernel_rfl) (by kernel_rfl)) ?_
  intro W base args ds gs before hval0 hW hcnd _
  have hval : ∀ (j : Nat) t v, Try.f5.params[j]? = some t → args[j]? = some v → Value.okWide Try.prog W .any base t v := hval0
  have hW' := hW
  obtain ⟨p, q, hA0, hV, rfl, hfz, hnd⟩ := hW
  have hA : DataW.TrodAll enc Try.prog W 0 (fun _ => true) true Try.f5.params.toList args.toList ds p := hA0
  rw [Try.params5] at hA hval
  obtain ⟨v0, vs0, d0, ds0, p0, q0, hargs, rfl, rfl, h0, r0⟩ := trodAll_cons hA
  obtain ⟨rfl, rfl, rfl⟩ := trodAll_nil r0
  obtain rfl : args = #[v0] := by cases args; simp_all
  obtain ⟨rfl, rfl⟩ := trodVars_none hV
  have k0 := h0
  have lt0 : ∀ x ∈ p0, x.block < W.heap.size := by obtain ⟨m, hm⟩ := k0; exact DataW.trod_lt m _ _ _ hm
  obtain ⟨a0, c0, x0, rfl, e0, n0, f0⟩ := open_game (hval 0 24 v0 rfl rfl) h0
  clear hA0 hval0
  refine (walk a0 c0 x0 W e0 n0 f0).mono fun e W' ⟨he, bel⟩ => ?_
  subst he
  exact ⟨_, rfl, _, _, _, [], _, [], hW', trodAll_mk1 (shut_bool Try.underlying4 _), (trodAll_cons_mk (Below.trod laidOut (by kernel_rfl) (of_decide_eq_true (by kernel_rfl)) k0 bel lt0) trodAll_mk0), rfl, bel.frame _, fun h => by cases h⟩

theorem over : Rows.fnExactLengthsOfRow.holds Try.pinned (OpenSpec.ofChange Rows.fnExactLengthsOfSpec) :=
  OpenClaim.holds_of_wide 5 Try.f5 rfl rfl rfl rfl rfl rfl rfl ⟨rfl, rfl, rfl, rfl, rfl⟩ rfl rfl rfl rfl rfl (by kernel_rfl) Try.func5 (by kernel_rfl)
    (of_decide_eq_true (by kernel_rfl)) (by unfold Func.isWrapper; first | (rw [if_pos (by decide +kernel)]; kernel_rfl) | (rw [if_neg (by decide +kernel)]; exact ⟨rfl, rfl⟩))
    (fun os started H enc _ => lifted os started H enc)

theorem proved : Rows.FnExactLengthsOfSaid := over
end Go.Proofs.Ytlgogpphlnogoaa.LawLengthsOf
