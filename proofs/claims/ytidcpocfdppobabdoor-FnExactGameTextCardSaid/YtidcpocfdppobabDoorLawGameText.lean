/-
  FnExactGameText: for every argument the law returns true and leaves its argument as it was. No condition. The row lists tables of Go's own library, which the law's road never reads; the tied card closes the row.
-/
import Derived.Test.YtidcpocfdppobabDoorGs
import Derived.Test.YtidcpocfdppobabDoorOpen
import Derived.Test.YtidcpocfdppobabDoorTie
import Derived.Test.YtidcpocfdppobabDoorCards
import Derived.SevenTiedAt
import Derived.LaidMore
import Derived.Stop.Joined
namespace Go.Proofs.YtidcpocfdppobabDoor.LawGameText
open Go.ChangeShapes Go.WideShapes Go.ChangeAt Go.RowKit
set_option linter.unusedVariables false

set_option maxRecDepth 100000 in
set_option maxHeartbeats 2000000 in
theorem walk (a : Option Addr) (c : Nat) (xss : List (List Int)) (w : World) (ha : RowsAt w a xss) (hn : xss.length ≤ 9223372036854775807) (hf : Fits xss) :
    Calls Tryd.prog 3 #[.agg #[.slice a xss.length c]] w fun e w' => e = .returned (.bool true) ∧ Below w.heap.size w w' := by
  obtain ⟨s, hs⟩ : ∃ s, s = szAll xss 1048576 := ⟨_, rfl⟩
  have HS := hide hs
  clear hs
  have hB0 : Below w.heap.size w (w.alloc (.cells #[.slice a xss.length c] 24)) := (Below.refl _ _).alloc (Nat.le_refl _) _
  have hbox : (w.alloc (.cells #[.slice a xss.length c] 24)).cell? ⟨w.heap.size, 0, none⟩ = some (.slice a xss.length c) := by simp [go_sem]
  by_cases hneg : s < 0
  · go_enter Tryd.func3, Tryd.ntmps3
    go_wp2_with fail
    refine (szGame_any _ _ xss _ (ha.keep hB0) hn hf).mono ?_
    rintro e w1 ⟨he, hB1⟩
    rw [← HS.out] at he
    subst he
    go_wp2_with fail
    go_ret
    exact ⟨rfl, Below.trans' hB0 hB1⟩
  · have hsm : Small xss := szAll_small (by rw [← HS.out]; omega)
    obtain ⟨l, cc, hr⟩ : ∃ (l : List UInt8) (cc : Int), txtR xss = (l, cc) := ⟨_, _, rfl⟩
    have HR := hide hr
    clear hr
    go_enter Tryd.func3, Tryd.ntmps3
    go_wp2_with fail
    refine (szGame_any _ _ xss _ (ha.keep hB0) hn hf).mono ?_
    rintro e w1 ⟨he, hB1⟩
    rw [← HS.out] at he
    subst he
    have ha1 := (ha.keep hB0).keep hB1
    have hb1 := cell_keep hB1 hbox
    go_wp2_with fail
    refine (toGame_any _ _ xss _ ha1 hsm).mono ?_
    rintro e w2 ⟨a2, c2, rfl, hg2, hB2⟩
    go_wp2_with fail
    refine (specText_any _ _ xss _ hg2.reads hsm).mono ?_
    rw [HR.out]
    simp only [txtV]
    rintro e w3 ⟨rfl, hB3⟩
    have ha3 := (ha1.keep hB2).keep hB3
    have hb3 := cell_keep hB3 (cell_keep hB2 hb1)
    clear ha1 hb1
    go_wp2_with fail
    refine (toGame_any _ _ xss _ ha3 hsm).mono ?_
    rintro e w4 ⟨a4, c4, rfl, hg4, hB4⟩
    go_wp2_with fail
    have hBx : Below w4.heap.size w4 (w4.alloc (.cells #[.slice a4 xss.length c4] 28)) := (Below.refl _ _).alloc (Nat.le_refl _) _
    have hx : (w4.alloc (.cells #[.slice a4 xss.length c4] 28)).cell? ⟨w4.heap.size, 0, none⟩ = some (.slice a4 xss.length c4) := by simp [go_sem]
    refine (implText_any _ _ xss _ (hg4.reads.keep hBx) hsm).mono ?_
    rw [HR.out]
    simp only [txtV]
    rintro e w5 ⟨rfl, hB5⟩
    have ha5 := ((ha3.keep hB4).keep hBx).keep hB5
    have hb5 := cell_keep hB5 (cell_keep hBx (cell_keep hB4 hb3))
    have hx5 := cell_keep hB5 hx
    have hr5 := (hg4.reads.keep hBx).keep hB5
    clear ha3 hb3 hx hg4
    go_wp2_with fail
    have hd5 : Below w5.heap.size w5 w5.drew := Below.drew (Below.refl _ _)
    have hbd := cell_keep hd5 hb5
    have hxd := cell_keep hd5 hx5
    have had := ha5.keep hd5
    have hrd := hr5.keep hd5
    go_region_held3 (fun W => W.cell? ⟨w.heap.size, 0, none⟩ = some (.slice a xss.length c) ∧ W.cell? ⟨w4.heap.size, 0, none⟩ = some (.slice a4 xss.length c4) ∧ Below w5.heap.size w5 W) (first | (exact ⟨hbd, hxd, hd5⟩) | (exact ⟨cell_keep hB6 hbd, cell_keep hB6 hxd, Below.trans' hd5 hB6⟩) | (exact ⟨cell_keep hB7 (cell_keep hB6 hbd), cell_keep hB7 (cell_keep hB6 hxd), Below.trans' (Below.trans' hd5 hB6) hB7⟩)) (first | (go_at_call 6; refine (toGame_any _ _ xss _ had hsm).mono ?_; rintro e w6 ⟨a6, c6, rfl, hg6, hB6⟩) | (go_at_call 8; refine (eqGame_same _ _ _ _ xss _ (hrd.keep hB6) hg6.reads hsm).mono ?_; rintro e w7 ⟨rfl, hB7⟩))
    go_wp2_with fail
    go_ret
    exact ⟨rfl, Below.trans' (Below.trans' (Below.trans' (Below.trans' (Below.trans' (Below.trans' (Below.trans' (Below.trans' (Below.trans' hB0 hB1) hB2) hB3) hB4) hBx) hB5) hd5) hB6) hB7⟩


/-- The listed tables. -/
abbrev laidT : List (String × DataW Unit) := Rows.fnExactGameTextRow.laid
theorem door_met (os : Os) (args : Array Value) : laidMetH Tryd.prog laidT ((World.doorLaid Tryd.prog 400 os).forCall (fun _ _ => 0) ⟨#[], args, []⟩).memory :=
  laidMetH_of_parts3 (fuel := 8) (laidMet_of_run' 8 (by kernel_rfl) (by kernel_rfl)) (by kernel_rfl) (by kernel_rfl)

set_option maxRecDepth 100000 in
theorem lifted (os : Os) (started : os.Started) (H : Type) (enc : TypeId × Value → H) :
    ReturnsInHanded {} Tryd.checked os 3 .any (fun w args => (Rows.fnExactGameTextSpec.pre enc Tryd.prog Tryd.f3 [] false w args ∧ laidMetH Tryd.prog laidT w) ∧ sizedMet enc Tryd.prog Tryd.f3 (OpenSpec.ofChange Rows.fnExactGameTextSpec) false w args)
      (Rows.fnExactGameTextSpec.post enc Tryd.prog Tryd.f3 false true false false) := by
  refine returnsInHanded_of_change_and (C := Tryd.checked) (X := fun w _ => laidMetH Tryd.prog laidT w) (fun _ _ _ hh h => h.of_heap hh) own started (by kernel_rfl) Tryd.func3
    (ChangeSpec.witness_shaped (enc := enc) (C := Tryd.checked) (os := os) (X := fun w _ => laidMetH Tryd.prog laidT w) false (World.doorLaid Tryd.prog 400 os) #[.agg #[.slice none 0 0]] 8 rfl (World.shaped_of_RefB (by kernel_rfl) (by kernel_rfl)) (by kernel_rfl) (by kernel_rfl) (by kernel_rfl) (door_met os _)) ?_
  intro W base args ds gs before hval0 hW _ _ _ _
  have hval : ∀ (j : Nat) t v, Tryd.f3.params[j]? = some t → args[j]? = some v → Value.okWide Tryd.prog W .any base t v := hval0
  have hW' := hW
  obtain ⟨p, q, hA0, hV, rfl, hfz, hnd⟩ := hW
  have hA : DataW.TrodAll enc Tryd.prog W 0 (fun _ => true) true Tryd.f3.params.toList args.toList ds p := hA0
  rw [Tryd.params3] at hA hval
  obtain ⟨v0, vs0, d0, ds0, p0, q0, hargs, rfl, rfl, h0, r0⟩ := trodAll_cons hA
  obtain ⟨rfl, rfl, rfl⟩ := trodAll_nil r0
  obtain rfl : args = #[v0] := by cases args; simp_all
  obtain ⟨rfl, rfl⟩ := trodVars_none hV
  have k0 := h0
  have lt0 : ∀ x ∈ p0, x.block < W.heap.size := by obtain ⟨m, hm⟩ := k0; exact DataW.trod_lt m _ _ _ hm
  obtain ⟨a0, c0, x0, rfl, e0, n0, f0⟩ := open_game (hval 0 24 v0 rfl rfl) h0
  clear hA0 hval0
  refine (walk a0 c0 x0 W e0 n0 f0).mono fun e W' ⟨he, bel⟩ => ?_
  subst he
  exact ⟨_, rfl, _, _, _, [], _, [], hW', trodAll_mk1 (shut_bool Tryd.underlying4 _), (trodAll_cons_mk (Below.trod laidOut (by kernel_rfl) (of_decide_eq_true (by kernel_rfl)) k0 bel lt0) trodAll_mk0), rfl, bel.frame _, fun h => by cases h⟩

theorem over : Rows.fnExactGameTextRow.holds Tryd.pinned (OpenSpec.ofChange Rows.fnExactGameTextSpec) :=
  OpenClaim.holds_of_wide 3 Tryd.f3 rfl rfl rfl rfl rfl rfl rfl ⟨rfl, rfl, rfl, rfl, rfl⟩ rfl rfl rfl rfl rfl (by kernel_rfl) Tryd.func3 (by kernel_rfl)
    (of_decide_eq_true (by kernel_rfl)) (by unfold Func.isWrapper; first | (rw [if_pos (by decide +kernel)]; kernel_rfl) | (rw [if_neg (by decide +kernel)]; exact ⟨rfl, rfl⟩))
    (fun os started H enc _ => lifted os started H enc)


theorem proved : Rows.FnExactGameTextCardSaid :=
  Claim7.holds_tied_plain_at .later [] [.data, .data, .data] true Rows.fnExactGameTextCard.stood.harness false
    over (fun _ h => by cases h) (by kernel_rfl) (fun _ h => by cases h) fnExactGameText_row_tie rfl ⟨rfl, rfl⟩ (by kernel_rfl) rfl
    (fun f fn hf hfn => by
      obtain rfl : f = 3 := Option.some.inj ((show Tryd.prog.funcNamed "loop.example/g01388/laws.FnExactGameText" = some 3 by kernel_rfl).symm.trans hf) |>.symm
      obtain rfl : fn = Tryd.f3 := (Option.some.inj (Tryd.func3.symm.trans hfn)).symm
      exact ⟨by kernel_rfl, fun j t ht => by
        rw [Tryd.params3] at ht
        have hm : t ∈ [24] := by simpa using Array.mem_of_getElem? ht
        have hall : ([24].all fun u => !Tryd.prog.wantsStandIn u) = true := by kernel_rfl
        exact (show Tryd.prog.wantsStandIn t = false by simpa using List.all_eq_true.1 hall t hm)⟩)
    (by kernel_rfl)
end Go.Proofs.YtidcpocfdppobabDoor.LawGameText
