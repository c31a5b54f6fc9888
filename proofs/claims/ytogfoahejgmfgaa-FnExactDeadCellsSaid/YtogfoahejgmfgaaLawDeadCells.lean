/-
  FnExactDeadCells: for every argument the law returns true and leaves its argument as it was. No condition.
-/
import Derived.Test.YtogfoahejgmfgaaDs
import Derived.Test.YtogfoahejgmfgaaHk
namespace Go.Proofs.Ytogfoahejgmfgaa.LawDeadCells
open Go.ChangeShapes Go.WideShapes Go.ChangeAt Go.RowKit
set_option linter.unusedVariables false

set_option maxRecDepth 100000 in
set_option maxHeartbeats 2000000 in
theorem walk (n : Int) (a : Option Addr) (c : Nat) (cs : List Int) (W : World) (ha : IntsAt W a cs) (hn : cs.length ≤ 9223372036854775807) :
    Calls Try.prog 5 #[.agg #[.int .i64 n, .slice a cs.length c]] W fun e w' => e = .returned (.bool true) ∧ Below W.heap.size W w' := by
  obtain ⟨s, hs⟩ : ∃ s, s = szH cs.length := ⟨_, rfl⟩
  have HS := hide hs
  obtain ⟨W0, hW0⟩ : ∃ W0, W0 = W.alloc (.cells #[.int .i64 n, .slice a cs.length c] 24) := ⟨_, rfl⟩
  have hB0 : Hid (Below W.heap.size W W0) := by rw [hW0]; exact hide (below_alloc _ _)
  have hX0 : Hid (HexIn W0 W.heap.size n a cs.length c) := by rw [hW0]; exact hide (hexIn_new _ _ _ _ _ _)
  have hA0 := hide (ha.keep hB0.out)
  obtain ⟨c0, c1⟩ := hX0.out
  have HA := hide ha
  clear ha
  by_cases hneg : s < 0
  · clear hs
    go_enter Try.func5, Try.ntmps5
    go_wp2_with fail
    rw [← hW0]
    clear hW0
    refine (szHex_any _ _ _ _ _ hn).mono ?_
    rintro e w1 ⟨rfl, hb1⟩
    rw [← HS.out]
    have hB1 := hide (Below.trans' hB0.out hb1)
    clear hb1 c0 c1
    go_wp2_with fail
    go_ret
    exact ⟨rfl, hB1.out⟩
  have hl : cs.length ≤ 1048576 := szH_le (by rw [← hs]; exact hneg)
  have HL := hide hl
  clear hs
  obtain ⟨r, hr⟩ : ∃ r, r = ddR n cs := ⟨_, rfl⟩
  have hrl : r.1.length ≤ 1048576 := by rw [hr]; exact ddR_le n cs
  have HR := hide hr
  clear hr
  have HC1 : Hid (∀ (V : World) (a : Option Addr) (c : Nat), IntsAt V a cs → Calls Try.prog 17 #[.agg #[.int .i64 n, .slice a cs.length c]] V (NewList r V)) := hide (fun V a c ha => by have h := specDead_any n a c cs V ha hl; rw [← HR.out] at h; exact h)
  have HC2 : Hid (∀ (V : World) (a : Option Addr) (c : Nat), IntsAt V a cs → Calls Try.prog 18 #[.agg #[.int .i64 n, .slice a cs.length c]] V (NewList r V)) := hide (fun V a c ha => by have h := implDead_any n a c cs V ha hl; rw [← HR.out] at h; exact h)
  clear HR
  go_enter Try.func5, Try.ntmps5
  go_wp2_with fail
  rw [← hW0]
  clear hW0
  refine (szHex_any _ _ _ _ _ hn).mono ?_
  rintro e w1 ⟨rfl, hb1⟩
  rw [← HS.out]
  have hB1 := hide (Below.trans' hB0.out hb1)
  have hX1 := hide (hX0.out.keep hb1)
  have hA1 := hide (hA0.out.keep hb1)
  clear hb1 c0 c1
  obtain ⟨c0, c1⟩ := hX1.out
  go_wp2_with fail
  refine (toHex_any _ _ _ cs _ hA1.out HL.out).mono ?_
  rintro e w2 ⟨g2, k2, rfl, ho2, hb2⟩
  have hB2 := hide (Below.trans' hB1.out hb2)
  have hX2 := hide (hX1.out.keep hb2)
  have hI2 := hide (intsAt_of_ownsRow ho2)
  clear hb2 c0 c1 ho2
  go_wp2_with fail
  -- the model
  refine (HC1.out _ _ _ hI2.out).mono ?_
  rintro e w3 ⟨aw, kw, rfl, how, hb3⟩
  have hO3 := hide how
  have hB3 := hide (Below.trans' hB2.out hb3)
  have hX3 := hide (hX2.out.keep hb3)
  clear hb3 how
  obtain ⟨c0, c1⟩ := hX3.out
  go_wp2_with fail
  refine (toHex_any _ _ _ cs _ (HA.out.keep hB3.out) HL.out).mono ?_
  rintro e w4 ⟨g4, k4, rfl, ho4, hb4⟩
  obtain ⟨W4, hW4⟩ : ∃ W4, W4 = w4.alloc (.cells #[.int .i64 n, .slice (some ⟨g4, 0, none⟩) cs.length k4] 28) := ⟨_, rfl⟩
  have hb44 : Below w4.heap.size w4 W4 := by rw [hW4]; exact below_alloc _ _
  have hb4' : Below w3.heap.size w3 W4 := Below.trans' hb4 hb44
  have hY4 : Hid (HexIn W4 w4.heap.size n (some ⟨g4, 0, none⟩) cs.length k4) := by rw [hW4]; exact hide (hexIn_new _ _ _ _ _ _)
  have hO4 := hide (ownsRow_keep ho4 hb44)
  have hB4 := hide (Below.trans' hB3.out hb4')
  have hX4 := hide (hX3.out.keep hb4')
  have hT4 := hide hb4'
  have hg4 := hide (ho4.lt g4 rfl)
  have hz34 : w3.heap.size ≤ w4.heap.size := hb4.size
  have hX3l : Hid (W.heap.size < w3.heap.size) := hide hX3.out.lt
  have hP4 := hide (ownsRow_keep hO3.out hb4')
  clear hb4 hb4' hb44 c0 c1 ho4
  obtain ⟨x0, x1⟩ := hX4.out
  go_wp2_with fail
  rw [← hW4]
  clear hW4
  obtain ⟨y0, y1⟩ := hY4.out
  (try go_wp2_with fail)
  -- the program
  refine (HC2.out _ _ _ (intsAt_of_ownsRow hO4.out)).mono ?_
  rintro e wi ⟨ag, kg, rfl, hog, hbi⟩
  have hzi : W4.heap.size ≤ wi.heap.size := hbi.size
  have hOg := hide hog
  have hPi := hide (ownsRow_keep hP4.out hbi)
  have hYi := hide (hY4.out.keep hbi)
  have hXi := hide (hX4.out.keep hbi)
  have hOi := hide (ownsRow_keep hO4.out hbi)
  have hBi := hide (Below.trans' hB4.out hbi)
  have hzW : Hid (w4.heap.size < W4.heap.size) := hide hY4.out.lt
  have hpw := hide (own_lt' hO3.out)
  have hpg := hide (own_ge hog)
  clear hbi hog y0 y1 x0 x1
  go_wp2_with fail
  refine (eqInt64S_same _ _ _ _ r.1 _ (intsAt_of_ownsRow hOg.out) (intsAt_of_ownsRow hPi.out) hrl).mono ?_
  rintro e w5 ⟨rfl, hb5⟩
  have hB5 := hide (Below.trans' hBi.out hb5)
  obtain ⟨x0, x1⟩ := hXi.out.keep hb5
  obtain ⟨z0, z1⟩ := hYi.out.keep hb5
  have hO5 := hide (ownsRow_keep hOi.out hb5)
  have hI5 := hide (intsAt_of_ownsRow hO5.out)
  have hOg5 := hide (ownsRow_keep hOg.out hb5)
  have hP5 := hide (ownsRow_keep hPi.out hb5)
  have hX5 := hide (hXi.out.keep hb5)
  have hY5 := hide (hYi.out.keep hb5)
  clear hb5
  go_wp2_with fail
  have hd5 : Below w5.heap.size w5 w5.drew := Below.drew (Below.refl _ _)
  have hA6 := hide (HA.out.keep (Below.trans' hB5.out hd5))
  have hI6 := hide (hI5.out.keep hd5)
  have xd0 := cell_keep hd5 x0
  have xd1 := cell_keep hd5 x1
  have zd0 := cell_keep hd5 z0
  have zd1 := cell_keep hd5 z1
  go_region_held3 (fun V => V.cell? ⟨W.heap.size, 0, none⟩ = some (.int .i64 n) ∧ V.cell? ⟨W.heap.size, 1, none⟩ = some (.slice a cs.length c) ∧ V.cell? ⟨w4.heap.size, 0, none⟩ = some (.int .i64 n) ∧ V.cell? ⟨w4.heap.size, 1, none⟩ = some (.slice (some ⟨g4, 0, none⟩) cs.length k4) ∧ Below w5.heap.size w5 V) (first | (exact ⟨xd0, xd1, zd0, zd1, hd5⟩) | (exact ⟨cell_keep hB6 xd0, cell_keep hB6 xd1, cell_keep hB6 zd0, cell_keep hB6 zd1, Below.trans' hd5 hB6⟩) | (exact ⟨cell_keep hB7 (cell_keep hB6 xd0), cell_keep hB7 (cell_keep hB6 xd1), cell_keep hB7 (cell_keep hB6 zd0), cell_keep hB7 (cell_keep hB6 zd1), Below.trans' (Below.trans' hd5 hB6) hB7⟩)) (first | (go_at_call 12; refine (toHex_any _ _ _ cs _ hA6.out HL.out).mono ?_; rintro e w6 ⟨g6, k6, rfl, ho6, hB6⟩) | (go_at_call 14; refine (eqHex_same _ _ _ _ _ cs _ (hI6.out.keep hB6) (intsAt_of_ownsRow ho6) HL.out).mono ?_; rintro e w7 ⟨rfl, hB7⟩))
  have hb57 := Below.trans' (Below.trans' hd5 hB6) hB7
  have hO7 := hide (ownsRow_keep hO5.out hb57)
  have hOg7 := hide (ownsRow_keep hOg5.out hb57)
  have hP7 := hide (ownsRow_keep hP5.out hb57)
  have hX7 := hide (hX5.out.keep hb57)
  have hY7 := hide (hY5.out.keep hb57)
  have hB7' := hide (Below.trans' hB5.out hb57)
  have hz7 := hb57.size
  have hz5 := hB5.out.size
  have HZ : Hid (w3.heap.size ≤ w4.heap.size ∧ w4.heap.size < W4.heap.size ∧ W4.heap.size ≤ wi.heap.size) := hide ⟨hz34, hzW.out, hzi⟩
  have hZ3 := hX3l.out
  clear xd0 xd1 zd0 zd1 x0 x1 z0 z1 hb57 hd5 hB6 hB7 ho6
  obtain ⟨y0, y1⟩ := hY7.out
  go_wp2_with fail
  -- the argument's marks
  refine (markHex_any _ _ _ _ _ _ _ hO7.out HL.out).mono ?_
  rintro e w8 ⟨rfl, ho8, hM8⟩
  have hZ := HZ.out
  have hb4 := hg4.out
  have hW8 : W.heap.size ≤ w7.heap.size := (Nat.le_of_lt hX7.out.lt)
  have hX8 := hide (hX7.out.mk1 hM8 (fun e => by simp [Value.ownBlock] at e; omega))
  have hOg8 := hide (hM8.owns hOg7.out (fun g hg e => by have h1 := hpg.out g hg; simp [Value.ownBlock] at e; omega))
  have hP8 := hide (hM8.owns hP7.out (fun g hg e => by have h1 := hpw.out g hg; simp [Value.ownBlock] at e; omega))
  have hBW8 := hide (hB7'.out.trans (hM8.old hW8 (fun g e => by simp [Value.ownBlock] at e; omega)))
  clear y0 y1 hM8 ho8
  go_wp2_with fail
  refine (eqInt64S_same _ _ _ _ r.1 _ (intsAt_of_ownsRow hOg8.out) (intsAt_of_ownsRow hP8.out) hrl).mono ?_
  rintro e w9 ⟨rfl, hb9⟩
  have hX9 := hide (hX8.out.keep hb9)
  have hOg9 := hide (ownsRow_keep hOg8.out hb9)
  have hP9 := hide (ownsRow_keep hP8.out hb9)
  have hBW9 := hide (Below.trans' hBW8.out hb9)
  clear hb9
  go_wp2_with fail
  -- the answer's marks
  refine (markInt64S_any _ _ _ _ _ (owned_room hOg9.out) hrl (by omega) (by omega)).mono ?_
  rintro e w10 hp
  obtain ⟨he, ho10, hM10⟩ := mk1_of_marked hOg9.out hp
  subst he
  have hX10 := hide (hX9.out.mk1 hM10 (fun e => by have := hpg.out _ e; omega))
  have hP10 := hide (hM10.owns hP9.out (fun g hg e => by have := hpg.out g e; have := hpw.out g hg; omega))
  have hBW10 := hide (hBW9.out.trans (hM10.old (Nat.le_of_lt hX9.out.lt) (fun g e => by have := hpg.out g e; omega)))
  have hG10 := hide ho10
  clear hp hM10 ho10
  go_wp2_with fail
  refine (heldInt64S_any _ _ _ _ _ (intsAt_of_ownsRow hG10.out) hrl (by omega) (by omega)).mono ?_
  rintro e w11 ⟨rfl, hq11⟩
  have hb11 : Below w10.heap.size w10 w11 := hq11.below
  have hX11 := hide (hX10.out.keep hb11)
  have hP11 := hide (ownsRow_keep hP10.out hb11)
  have hG11 := hide (ownsRow_keep hG10.out hb11)
  have hBW11 := hide (Below.trans' hBW10.out hb11)
  clear hb11 hq11
  obtain ⟨x0, x1⟩ := hX11.out
  go_wp2_with fail
  -- once more
  refine (toHex_any _ _ _ cs _ (HA.out.keep hBW11.out) HL.out).mono ?_
  rintro e w12 ⟨g12, k12, rfl, ho12, hb12⟩
  have hI12 := hide (intsAt_of_ownsRow ho12)
  have hP12 := hide (ownsRow_keep hP11.out hb12)
  have hG12 := hide (ownsRow_keep hG11.out hb12)
  have hBW12 := hide (Below.trans' hBW11.out hb12)
  clear hb12 x0 x1 ho12
  go_wp2_with fail
  refine (HC2.out _ _ _ hI12.out).mono ?_
  rintro e w13 ⟨ah, kh, rfl, hoh, hb13⟩
  have hH13 := hide (intsAt_of_ownsRow hoh)
  have hP13 := hide (ownsRow_keep hP12.out hb13)
  have hG13 := hide (ownsRow_keep hG12.out hb13)
  have hBW13 := hide (Below.trans' hBW12.out hb13)
  clear hb13 hoh
  go_wp2_with fail
  refine (eqInt64S_same _ _ _ _ r.1 _ hH13.out (intsAt_of_ownsRow hP13.out) hrl).mono ?_
  rintro e w14 ⟨rfl, hb14⟩
  have hG14 := hide (ownsRow_keep hG13.out hb14)
  have hBW14 := hide (Below.trans' hBW13.out hb14)
  clear hb14
  go_wp2_with fail
  refine (heldInt64S_any _ _ _ _ _ (intsAt_of_ownsRow hG14.out) hrl (by omega) (by omega)).mono ?_
  rintro e w15 ⟨rfl, hq15⟩
  have hBW15 := hide (Below.trans' hBW14.out hq15.below)
  clear hq15
  go_wp2_with fail
  go_ret
  exact ⟨rfl, hBW15.out⟩

set_option maxRecDepth 100000 in
theorem lifted (os : Os) (started : os.Started) (H : Type) (enc : TypeId × Value → H) :
    ReturnsInHanded {} Try.checked os 5 .any (Rows.fnExactDeadCellsSpec.pre6 enc Try.prog Try.f5 Rows.fnExactDeadCellsRow.domain false) (Rows.fnExactDeadCellsSpec.post enc Try.prog Try.f5 false true false false) := by
  refine returnsInHanded_of_change (C := Try.checked) own started (by kernel_rfl) Try.func5
    (ChangeSpec.witness6 (enc := enc) (C := Try.checked) false ⟨#[], #[.agg #[.int .i64 0, .slice none 0 0]], []⟩ 8 (by kernel_rfl) (by kernel_rfl) (by kernel_rfl) (by kernel_rfl)) ?_
  intro W base args ds gs before hval0 hW hcnd _
  have hval : ∀ (j : Nat) t v, Try.f5.params[j]? = some t → args[j]? = some v → Value.okWide Try.prog W .any base t v := hval0
  have hW' := hW
  obtain ⟨p, q, hA0, hV, rfl, hfz, hnd⟩ := hW
  have hA : DataW.TrodAll enc Try.prog W 0 (fun _ => true) true Try.f5.params.toList args.toList ds p := hA0
  rw [Try.params5] at hA hval
  obtain ⟨v0, vs0, d0, ds0, p0, q0, hargs, rfl, rfl, h0, r0⟩ := trodAll_cons hA
  obtain ⟨rfl, rfl, rfl⟩ := trodAll_nil r0
  obtain rfl : args = #[v0] := by cases args; simp_all
  obtain ⟨rfl, rfl⟩ := trodVars_none hV
  have k0 := h0
  have lt0 : ∀ x ∈ p0, x.block < W.heap.size := by obtain ⟨m, hm⟩ := k0; exact DataW.trod_lt m _ _ _ hm
  obtain ⟨n0, a0, c0, x0, rfl, e0, l0⟩ := open_hex (hval 0 24 v0 rfl rfl) h0
  clear hA0 hval0
  refine (walk n0 a0 c0 x0 W e0 l0).mono fun e W' ⟨he, bel⟩ => ?_
  subst he
  exact ⟨_, rfl, _, _, _, [], _, [], hW', trodAll_mk1 (shut_bool Try.underlying4 _), (trodAll_cons_mk (Below.trod laidOut (by kernel_rfl) (of_decide_eq_true (by kernel_rfl)) k0 bel lt0) trodAll_mk0), rfl, bel.frame _, fun h => by cases h⟩

theorem over : Rows.fnExactDeadCellsRow.holds Try.pinned (OpenSpec.ofChange Rows.fnExactDeadCellsSpec) :=
  OpenClaim.holds_of_wide 5 Try.f5 rfl rfl rfl rfl rfl rfl rfl ⟨rfl, rfl, rfl, rfl, rfl⟩ rfl rfl rfl rfl rfl (by kernel_rfl) Try.func5 (by kernel_rfl)
    (of_decide_eq_true (by kernel_rfl)) (by unfold Func.isWrapper; first | (rw [if_pos (by decide +kernel)]; kernel_rfl) | (rw [if_neg (by decide +kernel)]; exact ⟨rfl, rfl⟩))
    (fun os started H enc _ => lifted os started H enc)

theorem proved : Rows.FnExactDeadCellsSaid := over
end Go.Proofs.Ytogfoahejgmfgaa.LawDeadCells
