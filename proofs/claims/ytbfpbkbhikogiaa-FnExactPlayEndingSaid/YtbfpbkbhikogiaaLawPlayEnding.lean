/-
  FnExactPlayEnding: for every argument the law returns true and leaves its argument as it was. No condition.
-/
import Derived.Test.YtbfpbkbhikogiaaEm
import Derived.Test.YtbfpbkbhikogiaaPq
import Derived.Test.YtbfpbkbhikogiaaEp
namespace Go.Proofs.Ytbfpbkbhikogiaa.LawPlayEnding
open Go.ChangeShapes Go.WideShapes Go.ChangeAt Go.RowKit
set_option linter.unusedVariables false

set_option maxRecDepth 100000 in
set_option maxHeartbeats 4000000 in
theorem walk (a : Option Addr) (c : Nat) (cs : List Int) (a' : Option Addr) (c' : Nat) (ls : List Int) (W : World) (ha : IntsAt W a cs) (ha' : IntsAt W a' ls) (hn : cs.length ≤ 9223372036854775807) (hn' : ls.length ≤ 9223372036854775807) :
    Calls Try.prog 9 #[.agg #[.slice a cs.length c, .slice a' ls.length c']] W fun e w' => e = .returned (.bool true) ∧ Below W.heap.size W w' := by
  obtain ⟨s, hs⟩ : ∃ s, s = szE cs.length ls.length := ⟨_, rfl⟩
  have HS := hide hs
  clear hs
  obtain ⟨W0, hW0⟩ : ∃ W0, W0 = W.alloc (.cells #[.slice a cs.length c, .slice a' ls.length c'] 44) := ⟨_, rfl⟩
  have hB0 : Hid (Below W.heap.size W W0) := by rw [hW0]; exact hide (below_alloc _ _)
  have hX0 : Hid (EndIn W0 W.heap.size a cs.length c a' ls.length c') := by rw [hW0]; exact hide (endIn_new _ _ _ _ _ _ _ _)
  have hA0 := hide (ha.keep hB0.out)
  have hA0' := hide (ha'.keep hB0.out)
  have HA := hide ha
  have HA' := hide ha'
  obtain ⟨c0, c1⟩ := hX0.out
  clear ha ha'
  by_cases hneg : s < 0
  · go_enter Try.func9, Try.ntmps9
    go_wp2_with fail
    rw [← hW0]
    clear hW0
    refine (szEnding_any _ _ _ _ _ _ _ hn hn').mono ?_
    rintro e w1 ⟨rfl, hb1⟩
    rw [← HS.out]
    have hB1 := hide (Below.trans' hB0.out hb1)
    clear hb1 c0 c1
    go_wp2_with fail
    go_ret
    exact ⟨rfl, hB1.out⟩
  · obtain ⟨hl, hl'⟩ : cs.length ≤ 1048576 ∧ ls.length ≤ 1048576 := by
      have := HS.out
      unfold szE at this
      split at this
      · omega
      · split at this <;> omega
    have HL := hide hl
    have HL' := hide hl'
    obtain ⟨r, cd, hr⟩ : ∃ r cd, playR cs ls = (r, cd) := ⟨_, _, rfl⟩
    have hrl := playR_small cs ls
    rw [hr] at hrl
    dsimp only at hrl
    have HR := hide hr
    have HRM := hide hrl.1
    have HR8 := hide hrl.2
    have HSM : Hid (Small r) := hide ⟨by have := hrl.2; omega, fun zs hz => by have := hrl.1 zs hz; omega⟩
    clear hl hl' hr hrl
    go_enter Try.func9, Try.ntmps9
    go_wp2_with fail
    rw [← hW0]
    clear hW0
    refine (szEnding_any _ _ _ _ _ _ _ hn hn').mono ?_
    rintro e w1 ⟨rfl, hb1⟩
    rw [← HS.out]
    have hB1 := hide (Below.trans' hB0.out hb1)
    have hX1 := hide (hX0.out.keep hb1)
    have hA1 := hide (hA0.out.keep hb1)
    have hA1' := hide (hA0'.out.keep hb1)
    clear hb1 c0 c1
    obtain ⟨c0, c1⟩ := hX1.out
    go_wp2_with fail
    refine (toEnding_any _ _ cs _ _ ls _ hA1.out hA1'.out HL.out HL'.out).mono ?_
    rintro e w2 ⟨g2, k2, g2', k2', rfl, ho2, ho2', hne2, hb2⟩
    have hB2 := hide (Below.trans' hB1.out hb2)
    have hX2 := hide (hX1.out.keep hb2)
    have hI2 := hide (intsAt_of_ownsRow ho2)
    have hlt2 := hide (And.intro (ho2.lt g2 rfl).2 (ho2'.lt g2' rfl).2)
    have hI2' := hide (intsAt_of_ownsRow ho2')
    clear hb2 c0 c1 ho2 ho2' hne2
    go_wp2_with fail
    -- the model
    refine (specPlay_any _ _ cs _ _ ls _ hI2.out hI2'.out (fun g off e => by have := hlt2.out.1; simp at e; omega) (fun g off e => by have := hlt2.out.2; simp at e; omega) HL.out HL'.out).mono ?_
    rw [HR.out]
    dsimp only
    rintro e w3 ⟨a3, k3, gs3, rfl, ho3, hb3⟩
    have hJ3 := hide (ho3.leaves HRM.out (by have := HR8.out; omega)).reads
    have hB3 := hide (Below.trans' hB2.out hb3)
    have hX3 := hide (hX2.out.keep hb3)
    have hA3 := hide (HA.out.keep hB3.out)
    have hA3' := hide (HA'.out.keep hB3.out)
    have hXl : W.heap.size < w3.heap.size := by have := World.block_lt_of_cell? w3 _ hX3.out.1; simpa using this
    clear ho3 hb3
    obtain ⟨c0, c1⟩ := hX3.out
    go_wp2_with fail
    -- the argument
    refine (toEnding_any _ _ cs _ _ ls _ hA3.out hA3'.out HL.out HL'.out).mono ?_
    rintro e w5 ⟨g5, k5, g5', k5', rfl, ho5, ho5', hne5, hb5⟩
    obtain ⟨W6, hW6⟩ : ∃ W6, W6 = w5.alloc (.cells #[.slice (some ⟨g5, 0, none⟩) cs.length k5, .slice (some ⟨g5', 0, none⟩) ls.length k5'] 26) := ⟨_, rfl⟩
    have hb56 : Below w5.heap.size w5 W6 := by rw [hW6]; exact below_alloc _ _
    have hs6 : W6.heap.size = w5.heap.size + 1 := by rw [hW6]; simp
    have hY6 : Hid (EndIn W6 w5.heap.size (some ⟨g5, 0, none⟩) cs.length k5 (some ⟨g5', 0, none⟩) ls.length k5') := by rw [hW6]; exact hide (endIn_new _ _ _ _ _ _ _ _)
    have hT6 := hide (Below.trans' hb5 hb56)
    have hO5 := hide (ownsRow_keep ho5 hb56)
    have hO5' := hide (ownsRow_keep ho5' hb56)
    have hg5 := hide (And.intro (ho5.lt g5 rfl) (ho5'.lt g5' rfl))
    have hs35 : w3.heap.size ≤ w5.heap.size := hb5.size
    have hne := hide hne5
    clear hb5 hb56 ho5 ho5' hne5 c0 c1
    obtain ⟨y0, y1⟩ := hY6.out
    rw [hW6] at y0 y1
    go_wp2_with fail
    rw [← hW6]
    clear hW6
    (try go_wp2_with fail)
    -- the program
    refine (implPlay_any _ _ cs _ _ ls _ (intsAt_of_ownsRow hO5.out) (intsAt_of_ownsRow hO5'.out) HL.out HL'.out).mono ?_
    rw [HR.out]
    dsimp only
    rintro e w7 ⟨a7, k7, gs7, rfl, ho7, hb7⟩
    obtain ⟨lv, hlv⟩ : ∃ lv, lv = lfs gs7 r := ⟨_, rfl⟩
    have hG7 := ho7.leaves HRM.out (by have := HR8.out; omega)
    rw [← hlv] at hG7
    have hlen : Hid (lv.length = r.length) := hide hG7.len
    have hG := hide hG7
    have hT7 := hide (Below.trans' hT6.out hb7)
    have hT67 := hide hb7
    have hs67 : W6.heap.size ≤ w7.heap.size := hb7.size
    clear ho7 hb7 hlv hG7 y0 y1
    go_wp2_with fail
    -- the first comparison
    refine (eqInt64SS_same _ _ _ _ r _ hG.out.reads (hJ3.out.keep hT7.out) HSM.out).mono ?_
    rintro e w9 ⟨rfl, hq⟩
    have hb9 : Below w7.heap.size w7 w9 := hq.below
    have hT9 := hide (Below.trans' hT7.out hb9)
    have hT69 := hide (Below.trans' hT67.out hb9)
    have hG9 := hide (hG.out.keep hb9)
    clear hb9 hq
    have hd9 : Below w9.heap.size w9 w9.drew := Below.drew (Below.refl _ _)
    obtain ⟨x0, x1⟩ := hX3.out.keep hT9.out
    obtain ⟨y0, y1⟩ := hY6.out.keep hT69.out
    have xd0 := cell_keep hd9 x0
    have xd1 := cell_keep hd9 x1
    have yd0 := cell_keep hd9 y0
    have yd1 := cell_keep hd9 y1
    have hA9 := hide ((hA3.out.keep hT9.out).keep hd9)
    have hA9' := hide ((hA3'.out.keep hT9.out).keep hd9)
    have hI9 := hide (((intsAt_of_ownsRow hO5.out).keep hT69.out).keep hd9)
    have hI9' := hide (((intsAt_of_ownsRow hO5'.out).keep hT69.out).keep hd9)
    clear x0 x1 y0 y1
    go_wp2_with fail
    go_region_held3 (fun V => V.cell? ⟨W.heap.size, 0, none⟩ = some (.slice a cs.length c) ∧ V.cell? ⟨W.heap.size, 1, none⟩ = some (.slice a' ls.length c') ∧ V.cell? ⟨w5.heap.size, 0, none⟩ = some (.slice (some ⟨g5, 0, none⟩) cs.length k5) ∧ V.cell? ⟨w5.heap.size, 1, none⟩ = some (.slice (some ⟨g5', 0, none⟩) ls.length k5') ∧ Below w9.heap.size w9 V) (first | (exact ⟨xd0, xd1, yd0, yd1, hd9⟩) | (exact ⟨cell_keep hB6 xd0, cell_keep hB6 xd1, cell_keep hB6 yd0, cell_keep hB6 yd1, Below.trans' hd9 hB6⟩) | (exact ⟨cell_keep hB7 (cell_keep hB6 xd0), cell_keep hB7 (cell_keep hB6 xd1), cell_keep hB7 (cell_keep hB6 yd0), cell_keep hB7 (cell_keep hB6 yd1), Below.trans' (Below.trans' hd9 hB6) hB7⟩)) (first | (go_at_call 37; refine (toEnding_any _ _ cs _ _ ls _ hA9.out hA9'.out HL.out HL'.out).mono ?_; rintro e w10 ⟨g6, k6, g6', k6', rfl, ho6, ho6', hne6, hB6⟩) | (go_at_call 39; refine (eqEnding_same _ _ _ _ cs _ _ _ _ ls _ (hI9.out.keep hB6) (intsAt_of_ownsRow ho6) (hI9'.out.keep hB6) (intsAt_of_ownsRow ho6') HL.out HL'.out).mono ?_; rintro e w11 ⟨rfl, hB7⟩))
    have hT911 := hide (Below.trans' (Below.trans' hd9 hB6) hB7)
    clear hB6 hB7 hd9 xd0 xd1 yd0 yd1 ho6 ho6' hne6
    have hT11 := hide (Below.trans' hT9.out hT911.out)
    have hT611 := hide (Below.trans' hT69.out hT911.out)
    have hG11 := hide (hG9.out.keep hT911.out)
    obtain ⟨y0, y1⟩ := hY6.out.keep hT611.out
    go_wp2_with fail
    -- the argument marked
    refine (markEnding_any w3.heap.size _ _ _ _ _ _ _ _ _ (ownsRow_keep hO5.out hT611.out) (ownsRow_keep hO5'.out hT611.out) (fun g h1 h2 => hne.out (by simp [Value.ownBlock] at h1 h2; omega)) HL.out HL'.out).mono ?_
    rintro e w12 ⟨rfl, _, _, hm⟩
    have hT12 : Hid (Below w3.heap.size w3 w12) := hide (hT11.out.trans (hm.old (by have := hT11.out.size; omega) (fun g hg => by have := hg5.out.1.1; simp [Value.ownBlock] at hg; omega) (fun g hg => by have := hg5.out.2.1; simp [Value.ownBlock] at hg; omega)))
    have hG12 := hide (hG11.out.agree (w' := w12) (fun k hk hlt => hm.block k hlt (fun e => by have := hg5.out.1.2; simp [Value.ownBlock] at e; omega) (fun e => by have := hg5.out.2.2; simp [Value.ownBlock] at e; omega)))
    clear hm y0 y1
    have hk0 : ((1 : Int) + cs.length + ls.length < 0) = False := by simp; omega
    go_wp2_with fail
    refine (eqInt64SS_same _ _ _ _ r _ hG12.out.reads (hJ3.out.keep hT12.out) HSM.out).mono ?_
    rintro e w13 ⟨rfl, hq⟩
    have hb13 : Below w12.heap.size w12 w13 := hq.below
    have hT13 := hide (Below.trans' hT12.out hb13)
    have hG13 := hide (hG12.out.keep hb13)
    clear hb13 hq
    go_wp2_with fail
    -- the answer marked
    rw [← hlen.out]
    obtain ⟨tt, htt⟩ : ∃ tt, tt = total lv := ⟨_, rfl⟩
    have htb : tt ≤ 1048576 := by rw [htt]; exact hG.out.tot
    have hll : lv.length ≤ 1048576 := by rw [hlen.out]; have := HR8.out; omega
    refine (markInt64SS_leaves a7 k7 lv 1 (OwnNums w13 W6.heap.size) _ hG13.out.row (fun l hl => by obtain ⟨i, hi⟩ := List.mem_iff_getElem?.1 hl; obtain ⟨zs, _, _, _, hr, _⟩ := hG13.out.leaf i l hi; exact hr) (fun l hl b off hb hp => by
      obtain ⟨i, hi⟩ := List.mem_iff_getElem?.1 hl
      obtain ⟨zs, _, _, _, hr, hlo⟩ := hG13.out.leaf i l hi
      obtain ⟨b', off', e', hlo'⟩ := hlo hp
      rw [hb] at e'
      simp at e'
      refine ⟨by omega, ?_⟩
      rcases hr with h0 | ⟨b2, off2, cur, e2, hcur, _⟩
      · omega
      · rw [hb] at e2
        simp at e2
        rw [e2.1]
        exact ⟨cur, hcur⟩) (fun b off hb hS => by
      obtain ⟨_, cur, hcur⟩ := hS
      obtain ⟨_, cur2, hcur2⟩ := hG13.out.outer b off hb
      rw [hcur] at hcur2
      simp at hcur2) hG13.out.apart hll hG13.out.small (by omega) (by have := hG.out.tot; omega)).mono ?_
    rw [← htt]
    rintro e w14 ⟨rfl, hM, hcb, hmk⟩
    have hT14 : Hid (Below w3.heap.size w3 w14) := hide (hT13.out.trans ((hmk.below (B := W6.heap.size) (fun k hk => hk.1)).mono (by have := hT6.out.size; omega)))
    have hLR : Hid (LeafRow w14 a7 lv) := hide (fun hne2 => by
      obtain ⟨b, off, rfl, hi⟩ := hG13.out.row hne2
      refine ⟨b, off, rfl, fun i l hl => ?_⟩
      obtain ⟨c2, hc2⟩ := hi i l hl
      refine ⟨c2, (World.cell?_of_block (hmk.block b (fun hS => ?_))).trans hc2⟩
      obtain ⟨_, cur, hcur⟩ := hS
      obtain ⟨_, cur2, hcur2⟩ := hG13.out.outer b off rfl
      rw [hcur] at hcur2
      simp at hcur2)
    have hLM := hide hM
    have hsm := hide hG.out.small
    clear hM hcb hmk
    go_wp2_with fail
    refine (heldInt64SS_leaves a7 k7 lv 1 _ hLR.out hLM.out hll hsm.out (by omega) (by rw [← htt]; omega)).mono ?_
    rw [← htt]
    rintro e w15 ⟨rfl, hq⟩
    have hH15 : Hid (Below w14.heap.size w14 w15) := hide hq.below
    have hT15 := hide (Below.trans' hT14.out hH15.out)
    have HTT := hide htt
    clear hq htt
    (try rw [hlen.out])
    obtain ⟨c0, c1⟩ := hX3.out.keep hT15.out
    have hq0 : ((1 : Int) + tt < 0) = False := by simp; omega
    go_wp2_with fail
    -- once more
    refine (toEnding_any _ _ cs _ _ ls _ (hA3.out.keep hT15.out) (hA3'.out.keep hT15.out) HL.out HL'.out).mono ?_
    rintro e w16 ⟨g16, k16, g16', k16', rfl, ho16, ho16', hne16, hb16⟩
    have hI16 := hide (intsAt_of_ownsRow ho16)
    have hI16' := hide (intsAt_of_ownsRow ho16')
    have hT16 := hide (Below.trans' hT15.out hb16)
    have hH16 := hide (Below.trans' hH15.out hb16)
    clear hb16 c0 c1 ho16 ho16' hne16
    go_wp2_with fail
    refine (implPlay_any _ _ cs _ _ ls _ hI16.out hI16'.out HL.out HL'.out).mono ?_
    rw [HR.out]
    dsimp only
    rintro e w17 ⟨a17, k17, gs17, rfl, ho17, hb17⟩
    have hJ17 := hide (ho17.leaves HRM.out (by have := HR8.out; omega)).reads
    have hT17 := hide (Below.trans' hT16.out hb17)
    have hH17 := hide (Below.trans' hH16.out hb17)
    clear ho17 hb17
    go_wp2_with fail
    refine (eqInt64SS_same _ _ _ _ r _ hJ17.out (hJ3.out.keep hT17.out) HSM.out).mono ?_
    rintro e w19 ⟨rfl, hq⟩
    have hb19 : Below w17.heap.size w17 w19 := hq.below
    have hT19 := hide (Below.trans' hT17.out hb19)
    have hH19 := hide (Below.trans' hH17.out hb19)
    clear hb19 hq
    go_wp2_with fail
    (try rw [← hlen.out])
    refine (heldInt64SS_leaves a7 k7 lv 1 _ (hLR.out.keep hH19.out) (hLM.out.keep hH19.out) hll hsm.out (by omega) (by rw [← HTT.out]; omega)).mono ?_
    rw [← HTT.out]
    rintro e w20 ⟨rfl, hq⟩
    have hb20 : Below w19.heap.size w19 w20 := hq.below
    have hfin : Hid (Below W.heap.size W w20) := hide (Below.trans' hB3.out (Below.trans' hT19.out hb20))
    clear hb20 hq
    go_wp2_with fail
    go_ret
    exact ⟨rfl, hfin.out⟩

set_option maxRecDepth 100000 in
theorem lifted (os : Os) (started : os.Started) (H : Type) (enc : TypeId × Value → H) :
    ReturnsInHanded {} Try.checked os 9 .any (Rows.fnExactPlayEndingSpec.pre6 enc Try.prog Try.f9 Rows.fnExactPlayEndingRow.domain false) (Rows.fnExactPlayEndingSpec.post enc Try.prog Try.f9 false true false false) := by
  refine returnsInHanded_of_change (C := Try.checked) own started (by kernel_rfl) Try.func9
    (ChangeSpec.witness6 (enc := enc) (C := Try.checked) false ⟨#[], #[.agg #[.slice none 0 0, .slice none 0 0]], []⟩ 8 (by kernel_rfl) (by kernel_rfl) (by kernel_rfl) (by kernel_rfl)) ?_
  intro W base args ds gs before hval0 hW hcnd _
  have hval : ∀ (j : Nat) t v, Try.f9.params[j]? = some t → args[j]? = some v → Value.okWide Try.prog W .any base t v := hval0
  have hW' := hW
  obtain ⟨p, q, hA0, hV, rfl, hfz, hnd⟩ := hW
  have hA : DataW.TrodAll enc Try.prog W 0 (fun _ => true) true Try.f9.params.toList args.toList ds p := hA0
  rw [Try.params9] at hA hval
  obtain ⟨v0, vs0, d0, ds0, p0, q0, hargs, rfl, rfl, h0, r0⟩ := trodAll_cons hA
  obtain ⟨rfl, rfl, rfl⟩ := trodAll_nil r0
  obtain rfl : args = #[v0] := by cases args; simp_all
  obtain ⟨rfl, rfl⟩ := trodVars_none hV
  have k0 := h0
  have lt0 : ∀ x ∈ p0, x.block < W.heap.size := by obtain ⟨m, hm⟩ := k0; exact DataW.trod_lt m _ _ _ hm
  obtain ⟨a0, c0, x0, a0b, c0b, x0b, rfl, e0, e0b, n0, n0b⟩ := open_ending (hval 0 44 v0 rfl rfl) h0
  clear hA0 hval0
  refine (walk a0 c0 x0 a0b c0b x0b W e0 e0b n0 n0b).mono fun e W' ⟨he, bel⟩ => ?_
  subst he
  exact ⟨_, rfl, _, _, _, [], _, [], hW', trodAll_mk1 (shut_bool Try.underlying4 _), (trodAll_cons_mk (Below.trod laidOut (by kernel_rfl) (of_decide_eq_true (by kernel_rfl)) k0 bel lt0) trodAll_mk0), rfl, bel.frame _, fun h => by cases h⟩

theorem over : Rows.fnExactPlayEndingRow.holds Try.pinned (OpenSpec.ofChange Rows.fnExactPlayEndingSpec) :=
  OpenClaim.holds_of_wide 9 Try.f9 rfl rfl rfl rfl rfl rfl rfl ⟨rfl, rfl, rfl, rfl, rfl⟩ rfl rfl rfl rfl rfl (by kernel_rfl) Try.func9 (by kernel_rfl)
    (of_decide_eq_true (by kernel_rfl)) (by unfold Func.isWrapper; first | (rw [if_pos (by decide +kernel)]; kernel_rfl) | (rw [if_neg (by decide +kernel)]; exact ⟨rfl, rfl⟩))
    (fun os started H enc _ => lifted os started H enc)

theorem proved : Rows.FnExactPlayEndingSaid := over
end Go.Proofs.Ytbfpbkbhikogiaa.LawPlayEnding
