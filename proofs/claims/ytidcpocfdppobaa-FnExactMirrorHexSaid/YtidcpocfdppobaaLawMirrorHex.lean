/-
  FnExactMirrorHex: for every argument the law returns true and leaves its argument as it was. No condition.
-/
import Derived.Test.YtidcpocfdppobaaMs
import Derived.Test.YtidcpocfdppobaaHk
namespace Go.Proofs.Ytidcpocfdppobaa.LawMirrorHex
open Go.ChangeShapes Go.WideShapes Go.ChangeAt Go.RowKit
set_option linter.unusedVariables false

theorem mirR_le {n : Int} {cs : List Int} (h : cs.length ≤ 1048576) : (mirR n cs).2.1.length ≤ 1048576 := by
  unfold mirR
  split
  · show (mirH n cs).length ≤ _; rw [mirH_len]; exact h
  · simp
theorem newHexR_one {x k : Int} {ml : List Int} {W : World} {e : Ending} {W' : World} (h : NewHexR (x, ml, k) W e W') : ∃ a c, e = .returned (.tuple #[.agg #[.int .i64 x, .slice a ml.length c], .int .i64 k]) ∧ W'.ownsRow W.heap.size 2 1 (.slice a ml.length c) ml.length (ml.map intV) ∧ Below W.heap.size W W' := h

set_option maxRecDepth 100000 in
set_option maxHeartbeats 2000000 in
theorem walk (n : Int) (a : Option Addr) (c : Nat) (cs : List Int) (W : World) (ha : IntsAt W a cs) (hn : cs.length ≤ 9223372036854775807) :
    Calls Try.prog 12 #[.agg #[.int .i64 n, .slice a cs.length c]] W fun e w' => e = .returned (.bool true) ∧ Below W.heap.size W w' := by
  obtain ⟨s, hs⟩ : ∃ s, s = szH cs.length := ⟨_, rfl⟩
  have HS := hide hs
  obtain ⟨W0, hW0⟩ : ∃ W0, W0 = W.alloc (.cells #[.int .i64 n, .slice a cs.length c] 24) := ⟨_, rfl⟩
  have hB0 : Hid (Below W.heap.size W W0) := by rw [hW0]; exact hide (below_alloc _ _)
  have hX0 : Hid (HexIn W0 W.heap.size n a cs.length c) := by rw [hW0]; exact hide (hexIn_new _ _ _ _ _ _)
  have hA0 := hide (ha.keep hB0.out)
  obtain ⟨c0, c1⟩ := hX0.out
  have HA := hide ha
  clear ha
  by_cases hneg : s < 0
  · clear hs
    go_enter Try.func12, Try.ntmps12
    go_wp2_with fail
    rw [← hW0]
    clear hW0
    refine (szHex_any _ _ _ _ _ hn).mono ?_
    rintro e w1 ⟨rfl, hb1⟩
    rw [← HS.out]
    have hB1 := hide (Below.trans' hB0.out hb1)
    clear hb1 c0 c1
    go_wp2_with fail
    go_ret
    exact ⟨rfl, hB1.out⟩
  have hl : cs.length ≤ 1048576 := szH_le (by rw [← hs]; exact hneg)
  have HL := hide hl
  clear hs
  have hml0 := mirR_le (n := n) hl
  obtain ⟨x, ml, k, hr⟩ : ∃ (x : Int) (ml : List Int) (k : Int), mirR n cs = (x, ml, k) := ⟨_, _, _, rfl⟩
  have hml : ml.length ≤ 1048576 := by rw [hr] at hml0; exact hml0
  have HML := hide hml
  have HC1 : Hid (∀ (V : World) (a : Option Addr) (c : Nat), IntsAt V a cs → Calls Try.prog 43 #[.agg #[.int .i64 n, .slice a cs.length c]] V (NewHexR (x, ml, k) V)) := hide (fun V a c ha => by have h := specMirror_any n a c cs V ha hl; rw [hr] at h; exact h)
  have HC2 : Hid (∀ (V : World) (a : Option Addr) (c : Nat), cs.length ≤ c → IntsAt V a cs → Calls Try.prog 44 #[.agg #[.int .i64 n, .slice a cs.length c]] V (NewHexR (x, ml, k) V)) := hide (fun V a c hc ha => by have h := implMirror_any n a c cs hc V ha hl; rw [hr] at h; exact h)
  have ek : (k != k) = false := by simp
  clear hr hml0
  go_enter Try.func12, Try.ntmps12
  go_wp2_with fail
  rw [← hW0]
  clear hW0
  refine (szHex_any _ _ _ _ _ hn).mono ?_
  rintro e w1 ⟨rfl, hb1⟩
  rw [← HS.out]
  have hB1 := hide (Below.trans' hB0.out hb1)
  have hX1 := hide (hX0.out.keep hb1)
  have hA1 := hide (hA0.out.keep hb1)
  clear hb1 c0 c1
  obtain ⟨c0, c1⟩ := hX1.out
  go_wp2_with fail
  refine (toHex_any _ _ _ cs _ hA1.out HL.out).mono ?_
  rintro e w2 ⟨g2, k2, rfl, ho2, hb2⟩
  have hB2 := hide (Below.trans' hB1.out hb2)
  have hX2 := hide (hX1.out.keep hb2)
  have hI2 := hide (intsAt_of_ownsRow ho2)
  clear hb2 c0 c1 ho2
  go_wp2_with fail
  -- the model
  refine (HC1.out _ _ _ hI2.out).mono ?_
  intro e w3 hN
  obtain ⟨a3, k3, rfl, ho3, hb3⟩ := newHexR_one hN
  obtain ⟨W4, hW4⟩ : ∃ W4, W4 = w3.alloc (.cells #[.int .i64 x, .slice a3 ml.length k3] 27) := ⟨_, rfl⟩
  have hb34 : Below w3.heap.size w3 W4 := by rw [hW4]; exact below_alloc _ _
  have hs4 : W4.heap.size = w3.heap.size + 1 := by rw [hW4]; simp
  have hY4 : Hid (HexIn W4 w3.heap.size x a3 ml.length k3) := by rw [hW4]; exact hide (hexIn_new _ _ _ _ _ _)
  have hJ4 := hide ((intsAt_of_ownsRow ho3).keep hb34)
  have hB4 := hide (Below.trans' (Below.trans' hB2.out hb3) hb34)
  have hX4 := hide ((hX2.out.keep hb3).keep hb34)
  have hA4 := hide (HA.out.keep hB4.out)
  have hXl : W.heap.size < W4.heap.size := hX4.out.lt
  clear hN ho3 hb3 hb34
  obtain ⟨c0, c1⟩ := hX4.out
  rw [hW4] at c0 c1
  go_wp2_with fail
  rw [← hW4]
  clear hW4
  (try go_wp2_with fail)
  -- the argument
  refine (toHex_any _ _ _ cs _ hA4.out HL.out).mono ?_
  rintro e w5 ⟨g5, k5, rfl, ho5, hb5⟩
  obtain ⟨W6, hW6⟩ : ∃ W6, W6 = w5.alloc (.cells #[.int .i64 n, .slice (some ⟨g5, 0, none⟩) cs.length k5] 27) := ⟨_, rfl⟩
  have hb56 : Below w5.heap.size w5 W6 := by rw [hW6]; exact below_alloc _ _
  have hs6 : W6.heap.size = w5.heap.size + 1 := by rw [hW6]; simp
  have hY6 : Hid (HexIn W6 w5.heap.size n (some ⟨g5, 0, none⟩) cs.length k5) := by rw [hW6]; exact hide (hexIn_new _ _ _ _ _ _)
  have hT6 := hide (Below.trans' hb5 hb56)
  have hO5 := hide (ownsRow_keep ho5 hb56)
  have hg5 := hide (ho5.lt g5 rfl)
  have hs45 : W4.heap.size ≤ w5.heap.size := hb5.size
  clear hb5 hb56 ho5 c0 c1
  obtain ⟨y0, y1⟩ := hY6.out
  rw [hW6] at y0 y1
  go_wp2_with fail
  rw [← hW6]
  clear hW6
  (try go_wp2_with fail)
  -- the program
  refine (HC2.out _ _ _ (own_cap hO5.out) (intsAt_of_ownsRow hO5.out)).mono ?_
  intro e w7 hN
  obtain ⟨a7, k7, rfl, ho7, hb7⟩ := newHexR_one hN
  obtain ⟨W8, hW8⟩ : ∃ W8, W8 = w7.alloc (.cells #[.int .i64 x, .slice a7 ml.length k7] 27) := ⟨_, rfl⟩
  have hb78 : Below w7.heap.size w7 W8 := by rw [hW8]; exact below_alloc _ _
  have hs8 : W8.heap.size = w7.heap.size + 1 := by rw [hW8]; simp
  have hs67 : W6.heap.size ≤ w7.heap.size := hb7.size
  have hY8 : Hid (HexIn W8 w7.heap.size x a7 ml.length k7) := by rw [hW8]; exact hide (hexIn_new _ _ _ _ _ _)
  have hT68 := hide (Below.trans' hb7 hb78)
  have hO7 := hide (ownsRow_keep ho7 hb78)
  have hl7 := hide (own_lt' ho7)
  clear hN ho7 hb7 hb78 y0 y1
  have hT8 := hide (Below.trans' hT6.out hT68.out)
  obtain ⟨y0, y1⟩ := hY8.out
  obtain ⟨z0, z1⟩ := hY4.out.keep hT8.out
  rw [hW8] at y0 y1 z0 z1
  go_wp2_with fail
  rw [← hW8]
  clear hW8
  (try go_wp2_with fail)
  -- the first comparison
  refine (eqHex_same _ _ _ _ _ ml _ (intsAt_of_ownsRow hO7.out) (hJ4.out.keep hT8.out) HML.out).mono ?_
  rintro e w9 ⟨rfl, hb9⟩
  have hT9 := hide (Below.trans' hT8.out hb9)
  have hT69 := hide (Below.trans' hT68.out hb9)
  have hT89 := hide hb9
  clear hb9 y0 y1 z0 z1
  have hd9 : Below w9.heap.size w9 w9.drew := Below.drew (Below.refl _ _)
  obtain ⟨x0, x1⟩ := hX4.out.keep hT9.out
  obtain ⟨y0, y1⟩ := hY6.out.keep hT69.out
  have xd0 := cell_keep hd9 x0
  have xd1 := cell_keep hd9 x1
  have yd0 := cell_keep hd9 y0
  have yd1 := cell_keep hd9 y1
  have hA9 := hide ((hA4.out.keep hT9.out).keep hd9)
  have hI9 := hide (((intsAt_of_ownsRow hO5.out).keep hT69.out).keep hd9)
  clear x0 x1 y0 y1
  go_wp2_with fail
  go_region_held3 (fun V => V.cell? ⟨W.heap.size, 0, none⟩ = some (.int .i64 n) ∧ V.cell? ⟨W.heap.size, 1, none⟩ = some (.slice a cs.length c) ∧ V.cell? ⟨w5.heap.size, 0, none⟩ = some (.int .i64 n) ∧ V.cell? ⟨w5.heap.size, 1, none⟩ = some (.slice (some ⟨g5, 0, none⟩) cs.length k5) ∧ Below w9.heap.size w9 V) (first | (exact ⟨xd0, xd1, yd0, yd1, hd9⟩) | (exact ⟨cell_keep hB6 xd0, cell_keep hB6 xd1, cell_keep hB6 yd0, cell_keep hB6 yd1, Below.trans' hd9 hB6⟩) | (exact ⟨cell_keep hB7 (cell_keep hB6 xd0), cell_keep hB7 (cell_keep hB6 xd1), cell_keep hB7 (cell_keep hB6 yd0), cell_keep hB7 (cell_keep hB6 yd1), Below.trans' (Below.trans' hd9 hB6) hB7⟩)) (first | (go_at_call 17; refine (toHex_any _ _ _ cs _ hA9.out HL.out).mono ?_; rintro e w10 ⟨g6, k6, rfl, ho6, hB6⟩) | (go_at_call 19; refine (eqHex_same _ _ _ _ _ cs _ (hI9.out.keep hB6) (intsAt_of_ownsRow ho6) HL.out).mono ?_; rintro e w11 ⟨rfl, hB7⟩))
  have hT911 := hide (Below.trans' (Below.trans' hd9 hB6) hB7)
  clear hB6 hB7 hd9 xd0 xd1 yd0 yd1 ho6
  have hT11 := hide (Below.trans' hT9.out hT911.out)
  have hT611 := hide (Below.trans' hT69.out hT911.out)
  have hT811 := hide (Below.trans' hT89.out hT911.out)
  obtain ⟨y0, y1⟩ := hY6.out.keep hT611.out
  go_wp2_with fail
  -- the argument marked
  refine (markHex_any _ _ _ _ _ _ _ (ownsRow_keep hO5.out hT611.out) HL.out).mono ?_
  rintro e w12 ⟨rfl, _, hm⟩
  have hT12 : Hid (Below W4.heap.size W4 w12) := hide (hT11.out.trans (hm.old (by have := hT11.out.size; omega) (fun g hg => by have := hg5.out.1; simp [Value.ownBlock] at hg; omega)))
  have hn5 : Hid (∀ g, w5.heap.size ≤ g → (Value.slice (some ⟨g5, 0, none⟩) cs.length k5).ownBlock ≠ some g) := hide (fun g hg e => by have := hg5.out.2; simp [Value.ownBlock] at e; omega)
  have hY12 := hide ((hY8.out.keep hT811.out).mk1 hm (hn5.out _ (by omega)))
  have hO12 := hide (hm.owns (ownsRow_keep hO7.out hT811.out) (fun g hg => hn5.out g (by have := own_ge hO7.out g hg; omega)))
  clear hm y0 y1
  obtain ⟨y0, y1⟩ := hY12.out
  obtain ⟨z0, z1⟩ := hY4.out.below hT12.out (by omega)
  have hk0 : ((1 : Int) + cs.length < 0) = False := by simp; omega
  go_wp2_with fail
  refine (eqHex_same _ _ _ _ _ ml _ (intsAt_of_ownsRow hO12.out) (hJ4.out.keep hT12.out) HML.out).mono ?_
  rintro e w13 ⟨rfl, hb13⟩
  have hT13 := hide (Below.trans' hT12.out hb13)
  have hY13 := hide (hY12.out.keep hb13)
  have hO13 := hide (ownsRow_keep hO12.out hb13)
  clear hb13 y0 y1 z0 z1
  obtain ⟨y0, y1⟩ := hY13.out
  go_wp2_with fail
  -- the answer marked
  refine (markHex_any _ _ _ _ _ _ _ hO13.out HML.out).mono ?_
  rintro e w14 ⟨rfl, hm1, hm⟩
  have hT14 : Hid (Below W4.heap.size W4 w14) := hide (hT13.out.trans (hm.old (by have := hT13.out.size; omega) (fun g hg => by have := own_ge hO13.out g hg; omega)))
  have hY14 := hide (hY13.out.mk1 hm (fun e => by have := hl7.out _ e; omega))
  have hM14 := hide (intsAt_of_ownsRow (zs := marks 1 ml.length) (by simpa [marks] using hm1))
  clear hm hm1 y0 y1
  obtain ⟨y0, y1⟩ := hY14.out
  go_wp2_with fail
  refine (heldHex_any _ _ _ _ _ hM14.out HML.out).mono ?_
  rintro e w15 ⟨rfl, hb15⟩
  have hT15 := hide (Below.trans' hT14.out hb15)
  have hH15 := hide hb15
  clear hb15 y0 y1
  obtain ⟨c0, c1⟩ := hX4.out.keep hT15.out
  have hq0 : ((1 : Int) + ml.length < 0) = False := by simp; omega
  go_wp2_with fail
  -- once more
  refine (toHex_any _ _ _ cs _ (hA4.out.keep hT15.out) HL.out).mono ?_
  rintro e w16 ⟨g16, k16, rfl, ho16, hb16⟩
  have hI16 := hide (And.intro (own_cap ho16) (intsAt_of_ownsRow ho16))
  have hT16 := hide (Below.trans' hT15.out hb16)
  have hH16 := hide (Below.trans' hH15.out hb16)
  clear hb16 c0 c1 ho16
  go_wp2_with fail
  refine (HC2.out _ _ _ hI16.out.1 hI16.out.2).mono ?_
  intro e w17 hN
  obtain ⟨a17, k17, rfl, ho17, hb17⟩ := newHexR_one hN
  obtain ⟨W18, hW18⟩ : ∃ W18, W18 = w17.alloc (.cells #[.int .i64 x, .slice a17 ml.length k17] 27) := ⟨_, rfl⟩
  have hb18 : Below w17.heap.size w17 W18 := by rw [hW18]; exact below_alloc _ _
  have hY18 : Hid (HexIn W18 w17.heap.size x a17 ml.length k17) := by rw [hW18]; exact hide (hexIn_new _ _ _ _ _ _)
  have hT18 := hide (Below.trans' (Below.trans' hT16.out hb17) hb18)
  have hH18 := hide (Below.trans' (Below.trans' hH16.out hb17) hb18)
  have hI18 := hide ((intsAt_of_ownsRow ho17).keep hb18)
  clear hN ho17 hb17 hb18
  obtain ⟨y0, y1⟩ := hY18.out
  obtain ⟨z0, z1⟩ := hY4.out.keep hT18.out
  rw [hW18] at y0 y1 z0 z1
  go_wp2_with fail
  rw [← hW18]
  clear hW18
  (try go_wp2_with fail)
  refine (eqHex_same _ _ _ _ _ ml _ hI18.out (hJ4.out.keep hT18.out) HML.out).mono ?_
  rintro e w19 ⟨rfl, hb19⟩
  have hT19 := hide (Below.trans' hT18.out hb19)
  have hH19 := hide (Below.trans' hH18.out hb19)
  clear hb19 y0 y1 z0 z1
  obtain ⟨y0, y1⟩ := hY14.out.keep hH19.out
  go_wp2_with fail
  refine (heldHex_any _ _ _ _ _ (hM14.out.keep hH19.out) HML.out).mono ?_
  rintro e w20 ⟨rfl, hb20⟩
  have hT20 := hide (Below.trans' hT19.out hb20)
  clear hb20 y0 y1
  go_wp2_with fail
  go_ret
  exact ⟨rfl, hB4.out.trans (hT20.out.mono (by omega))⟩

set_option maxRecDepth 100000 in
theorem lifted (os : Os) (started : os.Started) (H : Type) (enc : TypeId × Value → H) :
    ReturnsInHanded {} Try.checked os 12 .any (Rows.fnExactMirrorHexSpec.pre6 enc Try.prog Try.f12 Rows.fnExactMirrorHexRow.domain false) (Rows.fnExactMirrorHexSpec.post enc Try.prog Try.f12 false true false false) := by
  refine returnsInHanded_of_change (C := Try.checked) own started (by kernel_rfl) Try.func12
    (ChangeSpec.witness6 (enc := enc) (C := Try.checked) false ⟨#[], #[.agg #[.int .i64 0, .slice none 0 0]], []⟩ 8 (by kernel_rfl) (by kernel_rfl) (by kernel_rfl) (by kernel_rfl)) ?_
  intro W base args ds gs before hval0 hW hcnd _
  have hval : ∀ (j : Nat) t v, Try.f12.params[j]? = some t → args[j]? = some v → Value.okWide Try.prog W .any base t v := hval0
  have hW' := hW
  obtain ⟨p, q, hA0, hV, rfl, hfz, hnd⟩ := hW
  have hA : DataW.TrodAll enc Try.prog W 0 (fun _ => true) true Try.f12.params.toList args.toList ds p := hA0
  rw [Try.params12] at hA hval
  obtain ⟨v0, vs0, d0, ds0, p0, q0, hargs, rfl, rfl, h0, r0⟩ := trodAll_cons hA
  obtain ⟨rfl, rfl, rfl⟩ := trodAll_nil r0
  obtain rfl : args = #[v0] := by cases args; simp_all
  obtain ⟨rfl, rfl⟩ := trodVars_none hV
  have k0 := h0
  have lt0 : ∀ x ∈ p0, x.block < W.heap.size := by obtain ⟨m, hm⟩ := k0; exact DataW.trod_lt m _ _ _ hm
  obtain ⟨n0, a0, c0, x0, rfl, e0, l0⟩ := open_hex (hval 0 24 v0 rfl rfl) h0
  clear hA0 hval0
  refine (walk n0 a0 c0 x0 W e0 l0).mono fun e W' ⟨he, bel⟩ => ?_
  subst he
  exact ⟨_, rfl, _, _, _, [], _, [], hW', trodAll_mk1 (shut_bool Try.underlying4 _), (trodAll_cons_mk (Below.trod laidOut (by kernel_rfl) (of_decide_eq_true (by kernel_rfl)) k0 bel lt0) trodAll_mk0), rfl, bel.frame _, fun h => by cases h⟩

theorem over : Rows.fnExactMirrorHexRow.holds Try.pinned (OpenSpec.ofChange Rows.fnExactMirrorHexSpec) :=
  OpenClaim.holds_of_wide 12 Try.f12 rfl rfl rfl rfl rfl rfl rfl ⟨rfl, rfl, rfl, rfl, rfl⟩ rfl rfl rfl rfl rfl (by kernel_rfl) Try.func12 (by kernel_rfl)
    (of_decide_eq_true (by kernel_rfl)) (by unfold Func.isWrapper; first | (rw [if_pos (by decide +kernel)]; kernel_rfl) | (rw [if_neg (by decide +kernel)]; exact ⟨rfl, rfl⟩))
    (fun os started H enc _ => lifted os started H enc)

theorem proved : Rows.FnExactMirrorHexSaid := over
end Go.Proofs.Ytidcpocfdppobaa.LawMirrorHex
