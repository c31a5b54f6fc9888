/-
  FnExactAreEqualGames: for every argument the law returns true and leaves its arguments as they were. No condition.
-/
import Derived.Test.YtlgogpphlnogoaaEqualS
import Derived.Test.YtlgogpphlnogoaaSize
import Derived.Test.YtlgogpphlnogoaaOpen
namespace Go.Proofs.Ytlgogpphlnogoaa.LawAreEqualGames
open Go.ChangeShapes Go.WideShapes Go.ChangeAt Go.RowKit
set_option linter.unusedVariables false

set_option maxRecDepth 100000 in
set_option maxHeartbeats 2000000 in
theorem walk (a : Option Addr) (c : Nat) (xss : List (List Int)) (p : Int) (b : Option Addr) (d : Nat) (yss : List (List Int)) (q : Int) (w : World) (ha : RowsAt w a xss) (hn : xss.length ≤ 9223372036854775807) (hf : Fits xss) (hp : (Lit.int .i64 p).wf = true) (hb : RowsAt w b yss) (hm : yss.length ≤ 9223372036854775807) (hg : Fits yss) (hq : (Lit.int .i64 q).wf = true) :
    Calls Try.prog 8 #[.agg #[.slice a xss.length c], .int .i64 p, .agg #[.slice b yss.length d], .int .i64 q] w fun e w' => e = .returned (.bool true) ∧ Below w.heap.size w w' := by
  obtain ⟨s, hs⟩ : ∃ s, s = szAll xss 1048576 := ⟨_, rfl⟩
  have HS := hide hs
  have hsb := szAll_bd xss 1048576
  rw [← hs] at hsb
  clear hs
  have hB0 : Below w.heap.size w ((w.alloc (.cells #[.slice a xss.length c] 24)).alloc (.cells #[.slice b yss.length d] 24)) := ((Below.refl _ _).alloc (Nat.le_refl _) _).alloc (by simp) _
  have hbx : ((w.alloc (.cells #[.slice a xss.length c] 24)).alloc (.cells #[.slice b yss.length d] 24)).cell? ⟨w.heap.size, 0, none⟩ = some (.slice a xss.length c) := by simp [go_sem, World.cell?_alloc_past]
  have hby : ((w.alloc (.cells #[.slice a xss.length c] 24)).alloc (.cells #[.slice b yss.length d] 24)).cell? ⟨w.heap.size + 1, 0, none⟩ = some (.slice b yss.length d) := by simp [go_sem]
  have ha0 := ha.keep hB0
  have hb0 := hb.keep hB0
  clear ha hb
  by_cases hneg : s < 0
  · go_enter Try.func8, Try.ntmps8
    go_wp2_with fail
    refine (szGame_gen _ _ xss 1048576 _ ha0 (by decide) (by decide) hn hf).mono ?_
    rintro e w1 ⟨he, hB1⟩
    rw [← HS.out] at he
    subst he
    have hbx1 := cell_keep hB1 hbx
    have hby1 := cell_keep hB1 hby
    clear hbx hby
    go_wp2_with fail
    go_ret
    exact ⟨rfl, Below.trans' hB0 hB1⟩
  · have hsm : Small xss := szAll_small (by rw [← HS.out]; omega)
    obtain ⟨t, ht⟩ : ∃ t, t = szAll yss s := ⟨_, rfl⟩
    have HT := hide ht
    clear ht
    by_cases hneg2 : t < 0
    · go_enter Try.func8, Try.ntmps8
      go_wp2_with fail
      refine (szGame_gen _ _ xss 1048576 _ ha0 (by decide) (by decide) hn hf).mono ?_
      rintro e w1 ⟨he, hB1⟩
      rw [← HS.out] at he
      subst he
      have hbx1 := cell_keep hB1 hbx
      have hby1 := cell_keep hB1 hby
      clear hbx hby
      go_wp2_with fail
      refine (szGame_gen _ _ yss s _ (hb0.keep hB1) (by omega) (by omega) hm hg).mono ?_
      rintro e w2 ⟨he, hB2⟩
      rw [← HT.out] at he
      subst he
      go_wp2_with fail
      go_ret
      exact ⟨rfl, Below.trans' (Below.trans' hB0 hB1) hB2⟩
    · have hst : Small yss := szAll_small2 (l := s) (by omega) (by rw [← HT.out]; omega)
      obtain ⟨r, hr⟩ : ∃ r, r = equalR xss p yss q := ⟨_, rfl⟩
      have HR := hide hr
      clear hr
      go_enter Try.func8, Try.ntmps8
      go_wp2_with fail
      refine (szGame_gen _ _ xss 1048576 _ ha0 (by decide) (by decide) hn hf).mono ?_
      rintro e w1 ⟨he, hB1⟩
      rw [← HS.out] at he
      subst he
      have hbx1 := cell_keep hB1 hbx
      have hby1 := cell_keep hB1 hby
      clear hbx hby
      go_wp2_with fail
      refine (szGame_gen _ _ yss s _ (hb0.keep hB1) (by omega) (by omega) hm hg).mono ?_
      rintro e w2 ⟨he, hB2⟩
      rw [← HT.out] at he
      subst he
      have hbx2 := cell_keep hB2 hbx1
      have hby2 := cell_keep hB2 hby1
      have hB12 := Below.trans' hB1 hB2
      have ha2 := ha0.keep hB12
      have hb2 := hb0.keep hB12
      have hBa := Below.trans' hB0 hB12
      clear hbx1 hby1 ha0 hb0 hB0 hB1 hB2 hB12
      go_wp2_with fail
      -- the model
      have hd2 : Below w2.heap.size w2 w2.drew := Below.drew (Below.refl _ _)
      have hbxd := cell_keep hd2 hbx2
      have hbyd := cell_keep hd2 hby2
      have had := ha2.keep hd2
      have hbd := hb2.keep hd2
      have HRN := hide HR.out
      go_region_held3 (fun W => W.cell? ⟨w.heap.size, 0, none⟩ = some (.slice a xss.length c) ∧ W.cell? ⟨w.heap.size + 1, 0, none⟩ = some (.slice b yss.length d)) (first | (exact ⟨hbxd, hbyd⟩) | (exact ⟨cell_keep hB3 hbxd, cell_keep hB3 hbyd⟩) | (exact ⟨cell_keep hB4 (cell_keep hB3 hbxd), cell_keep hB4 (cell_keep hB3 hbyd)⟩) | (exact ⟨cell_keep hB5 (cell_keep hB4 (cell_keep hB3 hbxd)), cell_keep hB5 (cell_keep hB4 (cell_keep hB3 hbyd))⟩)) (first | (go_at_call 12; (with_reducible refine (toGame_any _ _ xss _ had hsm).mono ?_); rintro e w3 ⟨a3, c3, rfl, hg3, hB3⟩) | (go_at_call 12; (with_reducible refine (toGame_any _ _ yss _ (hbd.keep hB3) hst).mono ?_); rintro e w4 ⟨a4, c4, rfl, hg4, hB4⟩) | (go_at_call 29; (with_reducible refine (specEqual_any _ _ _ _ xss yss p q _ (hg3.keep hB4).reads hsm hg4.reads hst).mono ?_); rw [← HR.out]; rintro e w5 ⟨rfl, hB5⟩))
      have hB25 := Below.trans' (Below.trans' (Below.trans' hd2 hB3) hB4) hB5
      have hbx5 := cell_keep hB25 hbx2
      have hby5 := cell_keep hB25 hby2
      have ha5 := ha2.keep hB25
      have hb5 := hb2.keep hB25
      have hBb := Below.trans' hBa hB25
      clear hbx2 hby2 ha2 hb2 hbxd hbyd had hbd hd2 hB25 hg3 hg4 hBa hB3 hB4 hB5
      go_wp2_with fail
      -- the program
      refine (toGame_any _ _ xss _ ha5 hsm).mono ?_
      rintro e w6 ⟨a6, c6, rfl, hg6, hB6⟩
      have hBx : Below w6.heap.size w6 (w6.alloc (.cells #[.slice a6 xss.length c6] 29)) := (Below.refl _ _).alloc (Nat.le_refl _) _
      have hx : (w6.alloc (.cells #[.slice a6 xss.length c6] 29)).cell? ⟨w6.heap.size, 0, none⟩ = some (.slice a6 xss.length c6) := by simp [go_sem]
      have hB6x := Below.trans' hB6 hBx
      have hbx6 := cell_keep hB6x hbx5
      have hby6 := cell_keep hB6x hby5
      have ha6 := ha5.keep hB6x
      have hb6 := hb5.keep hB6x
      have hg6' := hg6.keep hBx
      clear hbx5 hby5 ha5 hb5 hg6
      go_wp2_with fail
      refine (toGame_any _ _ yss _ hb6 hst).mono ?_
      rintro e w7 ⟨a7, c7, rfl, hg7, hB7⟩
      have hBy : Below w7.heap.size w7 (w7.alloc (.cells #[.slice a7 yss.length c7] 29)) := (Below.refl _ _).alloc (Nat.le_refl _) _
      have hy : (w7.alloc (.cells #[.slice a7 yss.length c7] 29)).cell? ⟨w7.heap.size, 0, none⟩ = some (.slice a7 yss.length c7) := by simp [go_sem]
      have hB7y := Below.trans' hB7 hBy
      have hbx7 := cell_keep hB7y hbx6
      have hby7 := cell_keep hB7y hby6
      have hx7 := cell_keep hB7y hx
      have ha7 := ha6.keep hB7y
      have hb7 := hb6.keep hB7y
      have hg67 := hg6'.keep hB7y
      have hg77 := hg7.keep hBy
      clear hbx6 hby6 ha6 hb6 hg6' hx hg7
      go_wp2_with fail
      refine (implEqual_any _ _ _ _ xss yss p q _ hg67.reads hsm hg77.reads hst).mono ?_
      rw [← HR.out]
      rintro e w8 ⟨rfl, hB8⟩
      have hbx8 := cell_keep hB8 hbx7
      have hby8 := cell_keep hB8 hby7
      have hx8 := cell_keep hB8 hx7
      have hy8 := cell_keep hB8 hy
      have ha8 := ha7.keep hB8
      have hb8 := hb7.keep hB8
      have hr6 := hg67.reads.keep hB8
      have hr7 := hg77.reads.keep hB8
      have hBc := Below.trans' (Below.trans' (Below.trans' hBb hB6x) hB7y) hB8
      clear hbx7 hby7 hx7 hy ha7 hb7 hg67 hg77 hBb hB6 hB6x hB7 hB7y hB8 hBx hBy
      go_wp2_with fail
      -- the first argument is as it was
      have hd8 : Below w8.heap.size w8 w8.drew := Below.drew (Below.refl _ _)
      have hbxd := cell_keep hd8 hbx8
      have hxd := cell_keep hd8 hx8
      have had := ha8.keep hd8
      have hrd := hr6.keep hd8
      go_region_held3 (fun W => W.cell? ⟨w.heap.size, 0, none⟩ = some (.slice a xss.length c) ∧ W.cell? ⟨w6.heap.size, 0, none⟩ = some (.slice a6 xss.length c6) ∧ Below w8.heap.size w8 W) (first | (exact ⟨hbxd, hxd, hd8⟩) | (exact ⟨cell_keep hB9 hbxd, cell_keep hB9 hxd, Below.trans' hd8 hB9⟩) | (exact ⟨cell_keep hB10 (cell_keep hB9 hbxd), cell_keep hB10 (cell_keep hB9 hxd), Below.trans' (Below.trans' hd8 hB9) hB10⟩)) (first | (go_at_call 12; refine (toGame_any _ _ xss _ had hsm).mono ?_; rintro e w9 ⟨a9, c9, rfl, hg9, hB9⟩) | (go_at_call 15; refine (eqGame_same _ _ _ _ xss _ (hrd.keep hB9) hg9.reads hsm).mono ?_; rintro e w10 ⟨rfl, hB10⟩))
      have hB810 := Below.trans' (Below.trans' hd8 hB9) hB10
      have hby10 := cell_keep hB810 hby8
      have hy10 := cell_keep hB810 hy8
      have hb10 := hb8.keep hB810
      have hr10 := hr7.keep hB810
      have hBd := Below.trans' hBc hB810
      clear hbxd hxd had hrd hd8 hbx8 hby8 hx8 hy8 ha8 hb8 hr6 hr7 hBc hB810 hg9 hB9 hB10
      go_wp2_with fail
      -- the second argument is as it was
      have hd10 : Below w10.heap.size w10 w10.drew := Below.drew (Below.refl _ _)
      have hbyd := cell_keep hd10 hby10
      have hyd := cell_keep hd10 hy10
      have hbd := hb10.keep hd10
      have hrd := hr10.keep hd10
      go_region_held3 (fun W => W.cell? ⟨w.heap.size + 1, 0, none⟩ = some (.slice b yss.length d) ∧ W.cell? ⟨w7.heap.size, 0, none⟩ = some (.slice a7 yss.length c7) ∧ Below w10.heap.size w10 W) (first | (exact ⟨hbyd, hyd, hd10⟩) | (exact ⟨cell_keep hB11 hbyd, cell_keep hB11 hyd, Below.trans' hd10 hB11⟩) | (exact ⟨cell_keep hB12 (cell_keep hB11 hbyd), cell_keep hB12 (cell_keep hB11 hyd), Below.trans' (Below.trans' hd10 hB11) hB12⟩)) (first | (go_at_call 12; refine (toGame_any _ _ yss _ hbd hst).mono ?_; rintro e w11 ⟨a11, c11, rfl, hg11, hB11⟩) | (go_at_call 15; refine (eqGame_same _ _ _ _ yss _ (hrd.keep hB11) hg11.reads hst).mono ?_; rintro e w12 ⟨rfl, hB12⟩))
      have hBe := Below.trans' hBd (Below.trans' (Below.trans' hd10 hB11) hB12)
      clear hbyd hyd hbd hrd hd10 hby10 hy10 hb10 hr10 hBd hg11 hB11 hB12
      go_wp2_with fail
      go_ret
      exact ⟨rfl, hBe⟩

set_option maxRecDepth 100000 in
theorem lifted (os : Os) (started : os.Started) (H : Type) (enc : TypeId × Value → H) :
    ReturnsInHanded {} Try.checked os 8 .any (Rows.fnExactAreEqualGamesSpec.pre6 enc Try.prog Try.f8 Rows.fnExactAreEqualGamesRow.domain false) (Rows.fnExactAreEqualGamesSpec.post enc Try.prog Try.f8 false true false false) := by
  refine returnsInHanded_of_change (C := Try.checked) own started (by kernel_rfl) Try.func8
    (ChangeSpec.witness6 (enc := enc) (C := Try.checked) false ⟨#[], #[.agg #[.slice none 0 0], .int .i64 0, .agg #[.slice none 0 0], .int .i64 0], []⟩ 8 (by kernel_rfl) (by kernel_rfl) (by kernel_rfl) (by kernel_rfl)) ?_
  intro W base args ds gs before hval0 hW hcnd _
  have hval : ∀ (j : Nat) t v, Try.f8.params[j]? = some t → args[j]? = some v → Value.okWide Try.prog W .any base t v := hval0
  have hW' := hW
  obtain ⟨p, q, hA0, hV, rfl, hfz, hnd⟩ := hW
  have hA : DataW.TrodAll enc Try.prog W 0 (fun _ => true) true Try.f8.params.toList args.toList ds p := hA0
  rw [Try.params8] at hA hval
  obtain ⟨v0, vs0, d0, ds0, p0, q0, hargs, rfl, rfl, h0, r0⟩ := trodAll_cons hA
  obtain ⟨v1, vs1, d1, ds1, p1, q1, rfl, rfl, rfl, h1, r1⟩ := trodAll_cons r0
  obtain ⟨v2, vs2, d2, ds2, p2, q2, rfl, rfl, rfl, h2, r2⟩ := trodAll_cons r1
  obtain ⟨v3, vs3, d3, ds3, p3, q3, rfl, rfl, rfl, h3, r3⟩ := trodAll_cons r2
  obtain ⟨rfl, rfl, rfl⟩ := trodAll_nil r3
  obtain rfl : args = #[v0, v1, v2, v3] := by cases args; simp_all
  obtain ⟨rfl, rfl⟩ := trodVars_none hV
  have k0 := h0
  have lt0 : ∀ x ∈ p0, x.block < W.heap.size := by obtain ⟨m, hm⟩ := k0; exact DataW.trod_lt m _ _ _ hm
  obtain ⟨a0, c0, x0, rfl, e0, n0, f0⟩ := open_game (hval 0 24 v0 rfl rfl) h0
  obtain ⟨x1, rfl, rfl, rfl, w1⟩ := open_int Try.underlying2 (hval 1 2 v1 rfl rfl) h1
  have k2 := h2
  have lt2 : ∀ x ∈ p2, x.block < W.heap.size := by obtain ⟨m, hm⟩ := k2; exact DataW.trod_lt m _ _ _ hm
  obtain ⟨a2, c2, x2, rfl, e2, n2, f2⟩ := open_game (hval 2 24 v2 rfl rfl) h2
  obtain ⟨x3, rfl, rfl, rfl, w3⟩ := open_int Try.underlying2 (hval 3 2 v3 rfl rfl) h3
  clear hA0 hval0
  refine (walk a0 c0 x0 x1 a2 c2 x2 x3 W e0 n0 f0 w1 e2 n2 f2 w3).mono fun e W' ⟨he, bel⟩ => ?_
  subst he
  exact ⟨_, rfl, _, _, _, [], _, [], hW', trodAll_mk1 (shut_bool Try.underlying4 _), (trodAll_cons_mk (Below.trod laidOut (by kernel_rfl) (of_decide_eq_true (by kernel_rfl)) k0 bel lt0) (trodAll_cons_mk (shut_int Try.underlying2 w1) (trodAll_cons_mk (Below.trod laidOut (by kernel_rfl) (of_decide_eq_true (by kernel_rfl)) k2 bel lt2) (trodAll_cons_mk (shut_int Try.underlying2 w3) trodAll_mk0)))), rfl, bel.frame _, fun h => by cases h⟩

theorem over : Rows.fnExactAreEqualGamesRow.holds Try.pinned (OpenSpec.ofChange Rows.fnExactAreEqualGamesSpec) :=
  OpenClaim.holds_of_wide 8 Try.f8 rfl rfl rfl rfl rfl rfl rfl ⟨rfl, rfl, rfl, rfl, rfl⟩ rfl rfl rfl rfl rfl (by kernel_rfl) Try.func8 (by kernel_rfl)
    (of_decide_eq_true (by kernel_rfl)) (by unfold Func.isWrapper; first | (rw [if_pos (by decide +kernel)]; kernel_rfl) | (rw [if_neg (by decide +kernel)]; exact ⟨rfl, rfl⟩))
    (fun os started H enc _ => lifted os started H enc)

theorem proved : Rows.FnExactAreEqualGamesSaid := over
end Go.Proofs.Ytlgogpphlnogoaa.LawAreEqualGames
