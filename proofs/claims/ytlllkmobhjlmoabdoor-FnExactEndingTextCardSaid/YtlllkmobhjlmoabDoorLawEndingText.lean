/-
  FnExactEndingText: for every argument the law returns true and leaves its argument as it was. No condition. The row lists tables of Go's own library, which the law's road never reads; the tied card closes the row.
-/
import Derived.Test.YtlllkmobhjlmoabDoorZw
import Derived.Test.YtlllkmobhjlmoabDoorEp
import Derived.Test.YtlllkmobhjlmoabDoorTie
import Derived.Test.YtlllkmobhjlmoabDoorCards
import Derived.SevenTiedAt
import Derived.LaidMore
import Derived.Stop.Joined
namespace Go.Proofs.YtlllkmobhjlmoabDoor.LawEndingText
open Go.ChangeShapes Go.WideShapes Go.ChangeAt Go.RowKit
set_option linter.unusedVariables false

set_option maxRecDepth 100000 in
set_option maxHeartbeats 2000000 in
theorem walk (a : Option Addr) (c : Nat) (cs : List Int) (a' : Option Addr) (c' : Nat) (ls : List Int) (W : World) (ha : IntsAt W a cs) (ha' : IntsAt W a' ls) (hn : cs.length ≤ 9223372036854775807) (hn' : ls.length ≤ 9223372036854775807) :
    Calls Tryd.prog 4 #[.agg #[.slice a cs.length c, .slice a' ls.length c']] W fun e w' => e = .returned (.bool true) ∧ Below W.heap.size W w' := by
  obtain ⟨s, hs⟩ : ∃ s, s = szE cs.length ls.length := ⟨_, rfl⟩
  have HS := hide hs
  clear hs
  obtain ⟨W0, hW0⟩ : ∃ W0, W0 = W.alloc (.cells #[.slice a cs.length c, .slice a' ls.length c'] 33) := ⟨_, rfl⟩
  have hB0 : Hid (Below W.heap.size W W0) := by rw [hW0]; exact hide (below_alloc _ _)
  have hX0 : Hid (EndIn W0 W.heap.size a cs.length c a' ls.length c') := by rw [hW0]; exact hide (endIn_new _ _ _ _ _ _ _ _)
  have hA0 := hide (ha.keep hB0.out)
  have hA0' := hide (ha'.keep hB0.out)
  obtain ⟨c0, c1⟩ := hX0.out
  clear ha ha'
  by_cases hneg : s < 0
  · go_enter Tryd.func4, Tryd.ntmps4
    go_wp2_with fail
    rw [← hW0]
    clear hW0
    refine (szEnding_any _ _ _ _ _ _ _ hn hn').mono ?_
    rintro e w1 ⟨rfl, hb1⟩
    rw [← HS.out]
    have hB1 := hide (Below.trans' hB0.out hb1)
    clear hb1 c0 c1
    go_wp2_with fail
    go_ret
    exact ⟨rfl, hB1.out⟩
  · obtain ⟨hl, hl'⟩ : cs.length ≤ 1048576 ∧ ls.length ≤ 1048576 := by
      have := HS.out
      unfold szE at this
      split at this
      · omega
      · split at this <;> omega
    have HL := hide hl
    have HL' := hide hl'
    clear hl hl'
    obtain ⟨l, cc, hr⟩ : ∃ (l : List UInt8) (cc : Int), txtR cs ls = (l, cc) := ⟨_, _, rfl⟩
    have HR := hide hr
    clear hr
    go_enter Tryd.func4, Tryd.ntmps4
    go_wp2_with fail
    rw [← hW0]
    clear hW0
    refine (szEnding_any _ _ _ _ _ _ _ hn hn').mono ?_
    rintro e w1 ⟨rfl, hb1⟩
    rw [← HS.out]
    have hB1 := hide (Below.trans' hB0.out hb1)
    have hX1 := hide (hX0.out.keep hb1)
    have hA1 := hide (hA0.out.keep hb1)
    have hA1' := hide (hA0'.out.keep hb1)
    clear hb1 c0 c1
    obtain ⟨c0, c1⟩ := hX1.out
    go_wp2_with fail
    refine (toEnding_any _ _ cs _ _ ls _ hA1.out hA1'.out HL.out HL'.out).mono ?_
    rintro e w2 ⟨g2, k2, g2', k2', rfl, ho2, ho2', hne2, hb2⟩
    have hB2 := hide (Below.trans' hB1.out hb2)
    have hX2 := hide (hX1.out.keep hb2)
    have hA2 := hide (hA1.out.keep hb2)
    have hA2' := hide (hA1'.out.keep hb2)
    have hI2 := hide (intsAt_of_ownsRow ho2)
    have hI2' := hide (intsAt_of_ownsRow ho2')
    clear hb2 c0 c1 ho2 ho2' hne2
    go_wp2_with fail
    -- the model
    refine (specText_any _ _ cs _ _ ls _ hI2.out hI2'.out HL.out HL'.out).mono ?_
    rw [HR.out]
    simp only [txtV]
    rintro e w3 ⟨rfl, hb3⟩
    have hB3 := hide (Below.trans' hB2.out hb3)
    have hX3 := hide (hX2.out.keep hb3)
    have hA3 := hide (hA2.out.keep hb3)
    have hA3' := hide (hA2'.out.keep hb3)
    clear hb3
    obtain ⟨c0, c1⟩ := hX3.out
    go_wp2_with fail
    refine (toEnding_any _ _ cs _ _ ls _ hA3.out hA3'.out HL.out HL'.out).mono ?_
    rintro e w4 ⟨g4, k4, g4', k4', rfl, ho4, ho4', hne4, hb4⟩
    obtain ⟨W4, hW4⟩ : ∃ W4, W4 = w4.alloc (.cells #[.slice (some ⟨g4, 0, none⟩) cs.length k4, .slice (some ⟨g4', 0, none⟩) ls.length k4'] 36) := ⟨_, rfl⟩
    have hb4' : Below w3.heap.size w3 W4 := by rw [hW4]; exact hb4.alloc hb4.size _
    have hY4 : Hid (EndIn W4 w4.heap.size (some ⟨g4, 0, none⟩) cs.length k4 (some ⟨g4', 0, none⟩) ls.length k4') := by rw [hW4]; exact hide (endIn_new _ _ _ _ _ _ _ _)
    have hI4 : Hid (IntsAt W4 (some ⟨g4, 0, none⟩) cs) := by rw [hW4]; exact hide ((intsAt_of_ownsRow ho4).keep (below_alloc _ _))
    have hI4' : Hid (IntsAt W4 (some ⟨g4', 0, none⟩) ls) := by rw [hW4]; exact hide ((intsAt_of_ownsRow ho4').keep (below_alloc _ _))
    have hB4 := hide (Below.trans' hB3.out hb4')
    have hX4 := hide (hX3.out.keep hb4')
    have hA4 := hide (hA3.out.keep hb4')
    have hA4' := hide (hA3'.out.keep hb4')
    clear hb4 hb4' c0 c1 ho4 ho4' hne4
    go_wp2_with fail
    rw [← hW4]
    clear hW4
    obtain ⟨y0, y1⟩ := hY4.out
    (try go_wp2_with fail)
    -- the program
    refine (implText_any _ _ cs _ _ ls _ hI4.out hI4'.out HL.out HL'.out).mono ?_
    rw [HR.out]
    simp only [txtV]
    rintro e w5 ⟨rfl, hb5⟩
    have hB5 := hide (Below.trans' hB4.out hb5)
    obtain ⟨x0, x1⟩ := hX4.out.keep hb5
    obtain ⟨z0, z1⟩ := hY4.out.keep hb5
    have hA5 := hide (hA4.out.keep hb5)
    have hA5' := hide (hA4'.out.keep hb5)
    have hI5 := hide (hI4.out.keep hb5)
    have hI5' := hide (hI4'.out.keep hb5)
    clear hb5 y0 y1
    go_wp2_with fail
    have hd5 : Below w5.heap.size w5 w5.drew := Below.drew (Below.refl _ _)
    have hA6 := hide (hA5.out.keep hd5)
    have hA6' := hide (hA5'.out.keep hd5)
    have hI6 := hide (hI5.out.keep hd5)
    have hI6' := hide (hI5'.out.keep hd5)
    have xd0 := cell_keep hd5 x0
    have xd1 := cell_keep hd5 x1
    have zd0 := cell_keep hd5 z0
    have zd1 := cell_keep hd5 z1
    go_region_held3 (fun V => V.cell? ⟨W.heap.size, 0, none⟩ = some (.slice a cs.length c) ∧ V.cell? ⟨W.heap.size, 1, none⟩ = some (.slice a' ls.length c') ∧ V.cell? ⟨w4.heap.size, 0, none⟩ = some (.slice (some ⟨g4, 0, none⟩) cs.length k4) ∧ V.cell? ⟨w4.heap.size, 1, none⟩ = some (.slice (some ⟨g4', 0, none⟩) ls.length k4') ∧ Below w5.heap.size w5 V) (first | (exact ⟨xd0, xd1, zd0, zd1, hd5⟩) | (exact ⟨cell_keep hB6 xd0, cell_keep hB6 xd1, cell_keep hB6 zd0, cell_keep hB6 zd1, Below.trans' hd5 hB6⟩) | (exact ⟨cell_keep hB7 (cell_keep hB6 xd0), cell_keep hB7 (cell_keep hB6 xd1), cell_keep hB7 (cell_keep hB6 zd0), cell_keep hB7 (cell_keep hB6 zd1), Below.trans' (Below.trans' hd5 hB6) hB7⟩)) (first | (go_at_call 12; refine (toEnding_any _ _ cs _ _ ls _ hA6.out hA6'.out HL.out HL'.out).mono ?_; rintro e w6 ⟨g6, k6, g6', k6', rfl, ho6, ho6', hne6, hB6⟩) | (go_at_call 14; refine (eqEnding_same _ _ _ _ cs _ _ _ _ ls _ (hI6.out.keep hB6) (intsAt_of_ownsRow ho6) (hI6'.out.keep hB6) (intsAt_of_ownsRow ho6') HL.out HL'.out).mono ?_; rintro e w7 ⟨rfl, hB7⟩))
    go_wp2_with fail
    go_ret
    exact ⟨rfl, Below.trans' (Below.trans' (Below.trans' hB5.out hd5) hB6) hB7⟩


/-- The listed tables. -/
abbrev laidT : List (String × DataW Unit) := Rows.fnExactEndingTextRow.laid
theorem door_met (os : Os) (args : Array Value) : laidMetH Tryd.prog laidT ((World.doorLaid Tryd.prog 400 os).forCall (fun _ _ => 0) ⟨#[], args, []⟩).memory :=
  laidMetH_of_parts3 (fuel := 8) (laidMet_of_run' 8 (by kernel_rfl) (by kernel_rfl)) (by kernel_rfl) (by kernel_rfl)

set_option maxRecDepth 100000 in
theorem lifted (os : Os) (started : os.Started) (H : Type) (enc : TypeId × Value → H) :
    ReturnsInHanded {} Tryd.checked os 4 .any (fun w args => (Rows.fnExactEndingTextSpec.pre enc Tryd.prog Tryd.f4 [] false w args ∧ laidMetH Tryd.prog laidT w) ∧ sizedMet enc Tryd.prog Tryd.f4 (OpenSpec.ofChange Rows.fnExactEndingTextSpec) false w args)
      (Rows.fnExactEndingTextSpec.post enc Tryd.prog Tryd.f4 false true false false) := by
  refine returnsInHanded_of_change_and (C := Tryd.checked) (X := fun w _ => laidMetH Tryd.prog laidT w) (fun _ _ _ hh h => h.of_heap hh) own started (by kernel_rfl) Tryd.func4
    (ChangeSpec.witness_shaped (enc := enc) (C := Tryd.checked) (os := os) (X := fun w _ => laidMetH Tryd.prog laidT w) false (World.doorLaid Tryd.prog 400 os) #[.agg #[.slice none 0 0, .slice none 0 0]] 8 rfl (World.shaped_of_RefB (by kernel_rfl) (by kernel_rfl)) (by kernel_rfl) (by kernel_rfl) (by kernel_rfl) (door_met os _)) ?_
  intro W base args ds gs before hval0 hW _ _ _ _
  have hval : ∀ (j : Nat) t v, Tryd.f4.params[j]? = some t → args[j]? = some v → Value.okWide Tryd.prog W .any base t v := hval0
  have hW' := hW
  obtain ⟨p, q, hA0, hV, rfl, hfz, hnd⟩ := hW
  have hA : DataW.TrodAll enc Tryd.prog W 0 (fun _ => true) true Tryd.f4.params.toList args.toList ds p := hA0
  rw [Tryd.params4] at hA hval
  obtain ⟨v0, vs0, d0, ds0, p0, q0, hargs, rfl, rfl, h0, r0⟩ := trodAll_cons hA
  obtain ⟨rfl, rfl, rfl⟩ := trodAll_nil r0
  obtain rfl : args = #[v0] := by cases args; simp_all
  obtain ⟨rfl, rfl⟩ := trodVars_none hV
  have k0 := h0
  have lt0 : ∀ x ∈ p0, x.block < W.heap.size := by obtain ⟨m, hm⟩ := k0; exact DataW.trod_lt m _ _ _ hm
  obtain ⟨a0, c0, x0, a0b, c0b, x0b, rfl, e0, e0b, n0, n0b⟩ := open_ending (hval 0 33 v0 rfl rfl) h0
  clear hA0 hval0
  refine (walk a0 c0 x0 a0b c0b x0b W e0 e0b n0 n0b).mono fun e W' ⟨he, bel⟩ => ?_
  subst he
  exact ⟨_, rfl, _, _, _, [], _, [], hW', trodAll_mk1 (shut_bool Tryd.underlying4 _), (trodAll_cons_mk (Below.trod laidOut (by kernel_rfl) (of_decide_eq_true (by kernel_rfl)) k0 bel lt0) trodAll_mk0), rfl, bel.frame _, fun h => by cases h⟩

theorem over : Rows.fnExactEndingTextRow.holds Tryd.pinned (OpenSpec.ofChange Rows.fnExactEndingTextSpec) :=
  OpenClaim.holds_of_wide 4 Tryd.f4 rfl rfl rfl rfl rfl rfl rfl ⟨rfl, rfl, rfl, rfl, rfl⟩ rfl rfl rfl rfl rfl (by kernel_rfl) Tryd.func4 (by kernel_rfl)
    (of_decide_eq_true (by kernel_rfl)) (by unfold Func.isWrapper; first | (rw [if_pos (by decide +kernel)]; kernel_rfl) | (rw [if_neg (by decide +kernel)]; exact ⟨rfl, rfl⟩))
    (fun os started H enc _ => lifted os started H enc)


theorem proved : Rows.FnExactEndingTextCardSaid :=
  Claim7.holds_tied_plain_at .later [] [.data, .data, .data] true Rows.fnExactEndingTextCard.stood.harness false
    over (fun _ h => by cases h) (by kernel_rfl) (fun _ h => by cases h) fnExactEndingText_row_tie rfl ⟨rfl, rfl⟩ (by kernel_rfl) rfl
    (fun f fn hf hfn => by
      obtain rfl : f = 4 := Option.some.inj ((show Tryd.prog.funcNamed "loop.example/g01388/laws.FnExactEndingText" = some 4 by kernel_rfl).symm.trans hf) |>.symm
      obtain rfl : fn = Tryd.f4 := (Option.some.inj (Tryd.func4.symm.trans hfn)).symm
      exact ⟨by kernel_rfl, fun j t ht => by
        rw [Tryd.params4] at ht
        have hm : t ∈ [33] := by simpa using Array.mem_of_getElem? ht
        have hall : ([33].all fun u => !Tryd.prog.wantsStandIn u) = true := by kernel_rfl
        exact (show Tryd.prog.wantsStandIn t = false by simpa using List.all_eq_true.1 hall t hm)⟩)
    (by kernel_rfl)
end Go.Proofs.YtlllkmobhjlmoabDoor.LawEndingText
