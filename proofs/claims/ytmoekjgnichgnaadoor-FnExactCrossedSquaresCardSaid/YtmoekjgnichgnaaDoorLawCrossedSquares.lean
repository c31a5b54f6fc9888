/-
  FnExactCrossedSquares: for every argument the law returns true and leaves its argument as it was. No condition. The row lists tables of Go's own library (one of them held against the form's constant), which the law's road never reads; the tied card closes the row.
-/
import Derived.Test.YtmoekjgnichgnaaDoorCq
import Derived.Test.YtmoekjgnichgnaaDoorMs
import Derived.Test.YtmoekjgnichgnaaDoorTo
import Derived.Test.YtmoekjgnichgnaaDoorRl
import Derived.Test.YtmoekjgnichgnaaDoorTie
import Derived.Test.YtmoekjgnichgnaaDoorCards
import Derived.SevenTiedAt
import Derived.LaidMore
import Derived.Lay
import Derived.Stop.Joined
import Derived.Deep.RegionHeld3
import Derived.Deep.DeepCutAuto
namespace Go.Proofs.YtmoekjgnichgnaaDoor.LawCrossedSquares
open Go.ChangeShapes Go.WideShapes Go.ChangeAt Go.RowKit Go.Deep
set_option linter.unusedVariables false

set_option maxRecDepth 100000 in
set_option maxHeartbeats 8000000 in
theorem walk (a : Option Addr) (c : Nat) (ss : List ByteArray) (car : Cr) (mv : Int) (W : World) (ha : StrsAt W a ss) (hn : ss.length ≤ 9223372036854775807) (hm : ∀ s ∈ ss, s.size ≤ maxLen) :
    Calls Tryd.prog 5 #[.slice a ss.length c, crV car, .int .i64 mv] W fun e w' => e = .returned (.bool true) ∧ Below W.heap.size W w' := by
  obtain ⟨x, y, u, v⟩ := car
  unfold crV
  dsimp only
  obtain ⟨V, hV⟩ : ∃ V, V = W.alloc (.cells #[.int .i64 x, .int .i64 y, .int .i64 u, .int .i64 v] 27) := ⟨_, rfl⟩
  have hB0 : Hid (Below W.heap.size W V) := by rw [hV]; exact hide (below_alloc _ _)
  have hX0 : Hid (V.heap[W.heap.size]? = some (.cells #[.int .i64 x, .int .i64 y, .int .i64 u, .int .i64 v] 27 (0, 0))) := by rw [hV]; exact hide (row_new _ _ _)
  obtain ⟨s, hs⟩ : ∃ s, s = szS ss := ⟨_, rfl⟩
  have HSZ := hide (szStringS_any a c ss V (ha.keep hB0.out) hn hm)
  rw [← hs] at HSZ
  by_cases hneg : s < 0
  · clear hs
    go_enter Tryd.func5, Tryd.ntmps5
    go_wp2_with fail
    rw [← hV]
    clear hV
    (try go_wp2_with fail)
    refine HSZ.out.mono ?_
    rintro e w1 ⟨rfl, rfl⟩
    go_wp2_with fail
    go_ret
    exact ⟨rfl, hB0.out⟩
  obtain ⟨hl, hz⟩ := szS_le (by rw [← hs]; exact hneg)
  have HL := hide hl
  have HZ := hide hz
  have HAV := hide (ha.keep hB0.out)
  have HAX := hide (fun (W' : World) (h : Below V.heap.size V W') => HAV.out.keep h)
  clear hs hz ha hm
  obtain ⟨r, hr⟩ : ∃ r, r = csR ss ⟨x, y, u, v⟩ mv := ⟨_, rfl⟩
  have hrl : r.1.length ≤ 6 ∧ ∀ zs ∈ r.1, zs.length ≤ 2 := by rw [hr]; exact csR_le ss _ _
  have HC1 : Hid (∀ (V : World) (a : Option Addr) (c : Nat), StrsAt V a ss → Calls Tryd.prog 23 #[.slice a ss.length c, .agg #[.int .i64 x, .int .i64 y, .int .i64 u, .int .i64 v], .int .i64 mv] V (NewRows r V)) := hide (fun V a c ha => by rw [hr]; exact specCrossedSquares_any a c ss x y u v mv V ha HL.out HZ.out)
  have HC2 : Hid (∀ (V : World) (a : Option Addr) (c : Nat), StrsAt V a ss → ss.length ≤ c → Calls Tryd.prog 25 #[.slice a ss.length c, .agg #[.int .i64 x, .int .i64 y, .int .i64 u, .int .i64 v], .int .i64 mv] V (NewRows r V)) := hide (fun V a c ha hc => by rw [hr]; exact implCrossedSquares_any a c ss x y u v mv V ha HL.out HZ.out hc)
  clear hr
  obtain ⟨xss, k⟩ := r
  dsimp only at hrl
  have HRM := hide hrl.2
  have HR8 := hide hrl.1
  have HSM : Hid (Small xss) := hide ⟨by have := hrl.1; omega, fun zs hz => by have := hrl.2 zs hz; omega⟩
  have e1 : (k != k) = false := by simp
  clear hrl
  obtain ⟨X0, X1, X2, X3⟩ := row4 hX0.out
  go_enter Tryd.func5, Tryd.ntmps5
  go_wp2_with fail
  rw [← hV]
  clear hV
  (try go_wp2_with fail)
  refine HSZ.out.mono ?_
  rintro e w1 ⟨rfl, rfl⟩
  go_upto_region 5 with fail
  have hd : Below V.heap.size V V.drew := Below.drew (Below.refl _ _)
  have hbel : Below V.heap.size V V := Below.refl _ _
  have HS : Hid (∀ W' : World, Below V.heap.size V W' → (W'.cell? ⟨W.heap.size, 0, none⟩ = some (.int .i64 x) ∧ W'.cell? ⟨W.heap.size, 1, none⟩ = some (.int .i64 y) ∧ W'.cell? ⟨W.heap.size, 2, none⟩ = some (.int .i64 u) ∧ W'.cell? ⟨W.heap.size, 3, none⟩ = some (.int .i64 v))) := hide (fun W' h => ⟨cell_keep h X0, cell_keep h X1, cell_keep h X2, cell_keep h X3⟩)
  clear X0 X1 X2 X3
  go_cut [8, 9] (fun sa sb wx => ∃ (aw : Option Addr) (kw : Nat) (vw : List Value), sa = .slice aw xss.length kw ∧ sb = .int .i64 k ∧ RowsO V.heap.size wx (.slice aw xss.length kw) vw xss ∧ Below V.heap.size V wx)
  case first =>
    go_region_held3 (fun W' => W'.cell? ⟨W.heap.size, 0, none⟩ = some (.int .i64 x) ∧ W'.cell? ⟨W.heap.size, 1, none⟩ = some (.int .i64 y) ∧ W'.cell? ⟨W.heap.size, 2, none⟩ = some (.int .i64 u) ∧ W'.cell? ⟨W.heap.size, 3, none⟩ = some (.int .i64 v)) (first | (refine HS.out _ ?_; (with_reducible (repeat (first | exact hbel | exact hd | refine Below.drew ?_ | refine Below.alloc' ?_ _ | refine Below.setCell ?_ (by first | exact Nat.le_refl _ | (show V.heap.size ≤ _; omega) | (simp; omega)) _))))) (first | (go_at_call 17; (with_reducible refine (toStringS_any _ _ ss _ (HAX.out _ (by (with_reducible (repeat (first | exact hbel | exact hd | refine Below.drew ?_ | refine Below.alloc' ?_ _ | refine Below.setCell ?_ (by first | exact Nat.le_refl _ | (show V.heap.size ≤ _; omega) | (simp; omega)) _))))) HL.out).mono ?_); rintro e2 w2 ⟨g2, k2, rfl, ho2, hb2⟩; (have hbn2 : Below V.heap.size V w2 := by (refine Below.trans' ?_ hb2; (with_reducible (repeat (first | exact hbel | exact hd | refine Below.drew ?_ | refine Below.alloc' ?_ _ | refine Below.setCell ?_ (by first | exact Nat.le_refl _ | (show V.heap.size ≤ _; omega) | (simp; omega)) _))))); (try (first | (with_reducible have hi := StrsAt.keep hi hb2) | (with_reducible have hi := StrsAt.keep (StrsAt.keep hi (below_alloc _ _)) hb2))); (have hi := strsAt_of_ownsRow ho2); (have hcp := own_cap ho2); have hbel := hbn2; clear hbn2) | (go_at_call 24; (with_reducible refine (toCar_any x y u v _).mono ?_); rintro e3 w3 ⟨rfl, hb3⟩; (have hbn3 : Below V.heap.size V w3 := by (refine Below.trans' ?_ hb3; (with_reducible (repeat (first | exact hbel | exact hd | refine Below.drew ?_ | refine Below.alloc' ?_ _ | refine Below.setCell ?_ (by first | exact Nat.le_refl _ | (show V.heap.size ≤ _; omega) | (simp; omega)) _))))); (try (first | (with_reducible have hi := StrsAt.keep hi hb3) | (with_reducible have hi := StrsAt.keep (StrsAt.keep hi (below_alloc _ _)) hb3))); have hbel := hbn3; clear hbn3) | (go_at_call 23; (with_reducible refine (HC1.out _ _ _ (by first | exact hi | exact StrsAt.keep hi (below_alloc _ _) | exact StrsAt.keep hi (Below.drew (Below.refl _ _)))).mono ?_); rintro e4 w4 ⟨aw, kw, vw, rfl, ho4, hb4⟩; (have hbn4 : Below V.heap.size V w4 := by (refine Below.trans' ?_ hb4; (with_reducible (repeat (first | exact hbel | exact hd | refine Below.drew ?_ | refine Below.alloc' ?_ _ | refine Below.setCell ?_ (by first | exact Nat.le_refl _ | (show V.heap.size ≤ _; omega) | (simp; omega)) _))))); (try (first | (with_reducible have hi := StrsAt.keep hi hb4) | (with_reducible have hi := StrsAt.keep (StrsAt.keep hi (below_alloc _ _)) hb4))); (have ho := RowsO.base ho4 (show V.heap.size ≤ _ from (show Below V.heap.size V _ from (by (with_reducible (repeat (first | exact hbel | exact hd | refine Below.drew ?_ | refine Below.alloc' ?_ _ | refine Below.setCell ?_ (by first | exact Nat.le_refl _ | (show V.heap.size ≤ _; omega) | (simp; omega)) _))))).size)); have hbel := hbn4; clear hbn4))
    all_goals
      go_wp2_with fail
      go_meet
      exact ⟨_, _, _, rfl, rfl, (by first | exact ho | exact RowsO.keep ho (Below.drew (Below.refl _ _))), (by (with_reducible (repeat (first | exact hbel | exact hd | refine Below.drew ?_ | refine Below.alloc' ?_ _ | refine Below.setCell ?_ (by first | exact Nat.le_refl _ | (show V.heap.size ≤ _; omega) | (simp; omega)) _))))⟩
  case rest =>
    obtain ⟨aw, kw, vw, rfl, rfl, hYr, hBc⟩ := hcut
    have hX1 := hide (box_keep hX0.out hBc)
    have hJ1 := hide (hYr.leaves HRM.out (by show 2 * xss.length ≤ 1048576; have := HR8.out; omega)).reads
    have hB1 := hide (Below.trans' hB0.out hBc)
    have HA1 := hide (HAV.out.keep hBc)
    clear HS hYr hBc hd hbel HAX
    go_wp2_with fail
    refine (toStringS_any _ _ ss _ HA1.out HL.out).mono ?_
    rintro e w2 ⟨g2, k2, rfl, ho2, hb2⟩
    have hT2 := hide hb2
    have hI2 := hide ho2
    have hc2 := own_cap ho2
    clear hb2 ho2
    obtain ⟨X0, X1, X2, X3⟩ := row4 (box_keep hX1.out hT2.out)
    go_wp2_with fail
    refine (toCar_any x y u v _).mono ?_
    rintro e w3 ⟨rfl, hb3⟩
    have hI3 := hide (strsAt_of_ownsRow (ownsRow_keep hI2.out hb3))
    clear X0 X1 X2 X3
    go_wp2_with fail
    refine (HC2.out _ _ _ hI3.out hc2).mono ?_
    rintro e w4 ⟨a7, k7, vs7, rfl, ho4, hb4⟩
    have hb34 := Below.trans' hb3 hb4
    have hI4 := hide (ownsRow_keep hI2.out hb34)
    have hT4 := hide (Below.trans' hT2.out hb34)
    obtain ⟨lv, hlv⟩ : ∃ lv, lv = lfR vs7 xss := ⟨_, rfl⟩
    have hG4 := (ho4.leaves HRM.out (by show 2 * xss.length ≤ 1048576; have := HR8.out; omega)).mono hb3.size
    rw [← hlv] at hG4
    have hlen : Hid (lv.length = xss.length) := hide hG4.len
    have hG := hide hG4
    have hz4 := hb34.size
    have hz2 := hT2.out.size
    clear hb3 hb4 hb34 ho4 hI3 hlv hG4
    go_wp2_with fail
    refine (eqInt64SS_same _ _ _ _ xss _ hG.out.reads (hJ1.out.keep hT4.out) HSM.out).mono ?_
    rintro e w5 ⟨rfl, hq5⟩
    have hb5 : Below w4.heap.size w4 w5 := hq5.below
    have hz5 := hb5.size
    have hT5 := hide (Below.trans' hT4.out hb5)
    have hI5 := hide (ownsRow_keep hI4.out hb5)
    have hG5 := hide (hG.out.keep hb5)
    clear hb5 hq5
    go_wp2_with fail
    refine (toStringS_any _ _ ss _ (HA1.out.keep hT5.out) HL.out).mono ?_
    rintro e w6 ⟨g6, k6, rfl, ho6, hb6⟩
    have hz6 := hb6.size
    have hK6 := hide (strsAt_of_ownsRow ho6)
    have hT6 := hide (Below.trans' hT5.out hb6)
    have hI6 := hide (ownsRow_keep hI5.out hb6)
    have hG6 := hide (hG5.out.keep hb6)
    clear hb6 ho6
    go_wp2_with fail
    refine (eqStringS_same _ _ _ _ ss _ (strsAt_of_ownsRow hI6.out) hK6.out HL.out).mono ?_
    rintro e w7 ⟨rfl, hb7⟩
    have hz7 := hb7.size
    have hT7 := hide (Below.trans' hT6.out hb7)
    have hI7 := ownsRow_keep hI6.out hb7
    have hG7 := hide (hG6.out.keep hb7)
    obtain ⟨hg2, hg2l, cur, hcur, hcz⟩ := own_row hI7
    have hg2l2 := (own_row hI2.out).2.1
    clear hb7 hK6
    go_wp2_with fail
    refine (markStringS_any _ _ _ _ cur _ hcur hcz (by omega) (by omega) (by omega)).mono ?_
    rintro e w8 ⟨rfl, hbut⟩
    have hz8 := hbut.size
    have hT8 := hide (hT7.out.trans ((hbut.old (by omega)).mono hg2))
    have hG8 := hide (hG7.out.agree (w' := w8) (fun b hb hlt => hbut.block b hlt (by omega)))
    clear hbut hcur hI7
    go_wp2_with fail
    refine (eqInt64SS_same _ _ _ _ xss _ hG8.out.reads (hJ1.out.keep hT8.out) HSM.out).mono ?_
    rintro e w9 ⟨rfl, hq9⟩
    have hb9 : Below w8.heap.size w8 w9 := hq9.below
    have hz9 := hb9.size
    have hT9 := hide (Below.trans' hT8.out hb9)
    have hG9 := hide (hG8.out.keep hb9)
    clear hb9 hq9
    go_wp2_with fail
    rw [← hlen.out]
    obtain ⟨tt, htt⟩ : ∃ tt, tt = total lv := ⟨_, rfl⟩
    have htb : tt ≤ 1048576 := by rw [htt]; exact hG.out.tot
    have hll : lv.length ≤ 1048576 := by rw [hlen.out]; have := HR8.out; omega
    refine (markInt64SS_leaves a7 k7 lv 1 (OwnNums w9 w2.heap.size) _ hG9.out.row (fun l hl => by obtain ⟨i, hi⟩ := List.mem_iff_getElem?.1 hl; obtain ⟨zs, _, _, _, hr, _⟩ := hG9.out.leaf i l hi; exact hr) (fun l hl b off hb hp => by
      obtain ⟨i, hi⟩ := List.mem_iff_getElem?.1 hl
      obtain ⟨zs, _, _, _, hr, hlo⟩ := hG9.out.leaf i l hi
      obtain ⟨b', off', e', hlo'⟩ := hlo hp
      rw [hb] at e'
      simp at e'
      refine ⟨by omega, ?_⟩
      rcases hr with h0 | ⟨b2, off2, cur, e2, hcur, _⟩
      · omega
      · rw [hb] at e2
        simp at e2
        rw [e2.1]
        exact ⟨cur, hcur⟩) (fun b off hb hS => by
      obtain ⟨_, cur, hcur⟩ := hS
      obtain ⟨_, cur2, hcur2⟩ := hG9.out.outer b off hb
      rw [hcur] at hcur2
      simp at hcur2) hG9.out.apart hll hG9.out.small (by omega) (by have := hG.out.tot; omega)).mono ?_
    rw [← htt]
    rintro e w10 ⟨rfl, hM, hcb, hmk⟩
    have hT10 := hide (hT9.out.trans ((hmk.below (B := w2.heap.size) (fun k hk => hk.1)).mono hz2))
    have hLR : Hid (LeafRow w10 a7 lv) := hide (fun hne2 => by
      obtain ⟨b, off, rfl, hi⟩ := hG9.out.row hne2
      refine ⟨b, off, rfl, fun i l hl => ?_⟩
      obtain ⟨c2, hc2⟩ := hi i l hl
      refine ⟨c2, (World.cell?_of_block (hmk.block b (fun hS => ?_))).trans hc2⟩
      obtain ⟨_, cur, hcur⟩ := hS
      obtain ⟨_, cur2, hcur2⟩ := hG9.out.outer b off rfl
      rw [hcur] at hcur2
      simp at hcur2)
    have hLM := hide hM
    have hsm := hide hG.out.small
    clear hM hcb hmk
    go_wp2_with fail
    refine (heldInt64SS_leaves a7 k7 lv 1 _ hLR.out hLM.out hll hsm.out (by omega) (by rw [← htt]; omega)).mono ?_
    rw [← htt]
    rintro e w11 ⟨rfl, hq⟩
    have hb11 : Below w10.heap.size w10 w11 := hq.below
    have hT11 := hide (Below.trans' hT10.out hb11)
    have hLR11 := hide (hLR.out.keep hb11)
    have hLM11 := hide (hLM.out.keep hb11)
    have HTT := hide htt
    clear hq htt hb11
    (try rw [hlen.out])
    have hq0 : ((1 : Int) + tt < 0) = False := by simp; omega
    obtain ⟨V, hV⟩ : ∃ V, V = w11 := ⟨_, rfl⟩
    rw [← hV] at hT11 hLR11 hLM11 ⊢
    clear hV
    have HAX := hide (fun (W' : World) (h : Below V.heap.size V W') => (HA1.out.keep hT11.out).keep h)
    obtain ⟨X0, X1, X2, X3⟩ := row4 (box_keep hX1.out hT11.out)
    go_upto_region 24 with fail
    have hd : Below V.heap.size V V.drew := Below.drew (Below.refl _ _)
    have hbel : Below V.heap.size V V := Below.refl _ _
    have HS : Hid (∀ W' : World, Below V.heap.size V W' → (W'.cell? ⟨W.heap.size, 0, none⟩ = some (.int .i64 x) ∧ W'.cell? ⟨W.heap.size, 1, none⟩ = some (.int .i64 y) ∧ W'.cell? ⟨W.heap.size, 2, none⟩ = some (.int .i64 u) ∧ W'.cell? ⟨W.heap.size, 3, none⟩ = some (.int .i64 v))) := hide (fun W' h => ⟨cell_keep h X0, cell_keep h X1, cell_keep h X2, cell_keep h X3⟩)
    clear X0 X1 X2 X3
    go_cut [16, 17] (fun sa sb wx => ∃ (aw : Option Addr) (kw : Nat) (vw : List Value), sa = .slice aw xss.length kw ∧ sb = .int .i64 k ∧ RowsO V.heap.size wx (.slice aw xss.length kw) vw xss ∧ Below V.heap.size V wx)
    case first =>
      go_region_held3 (fun W' => W'.cell? ⟨W.heap.size, 0, none⟩ = some (.int .i64 x) ∧ W'.cell? ⟨W.heap.size, 1, none⟩ = some (.int .i64 y) ∧ W'.cell? ⟨W.heap.size, 2, none⟩ = some (.int .i64 u) ∧ W'.cell? ⟨W.heap.size, 3, none⟩ = some (.int .i64 v)) (first | (refine HS.out _ ?_; (with_reducible (repeat (first | exact hbel | exact hd | refine Below.drew ?_ | refine Below.alloc' ?_ _ | refine Below.setCell ?_ (by first | exact Nat.le_refl _ | (show V.heap.size ≤ _; omega) | (simp; omega)) _))))) (first | (go_at_call 17; (with_reducible refine (toStringS_any _ _ ss _ (HAX.out _ (by (with_reducible (repeat (first | exact hbel | exact hd | refine Below.drew ?_ | refine Below.alloc' ?_ _ | refine Below.setCell ?_ (by first | exact Nat.le_refl _ | (show V.heap.size ≤ _; omega) | (simp; omega)) _))))) HL.out).mono ?_); rintro e2 w2 ⟨g2, k2, rfl, ho2, hb2⟩; (have hbn2 : Below V.heap.size V w2 := by (refine Below.trans' ?_ hb2; (with_reducible (repeat (first | exact hbel | exact hd | refine Below.drew ?_ | refine Below.alloc' ?_ _ | refine Below.setCell ?_ (by first | exact Nat.le_refl _ | (show V.heap.size ≤ _; omega) | (simp; omega)) _))))); (try (first | (with_reducible have hi := StrsAt.keep hi hb2) | (with_reducible have hi := StrsAt.keep (StrsAt.keep hi (below_alloc _ _)) hb2))); (have hi := strsAt_of_ownsRow ho2); (have hcp := own_cap ho2); have hbel := hbn2; clear hbn2) | (go_at_call 24; (with_reducible refine (toCar_any x y u v _).mono ?_); rintro e3 w3 ⟨rfl, hb3⟩; (have hbn3 : Below V.heap.size V w3 := by (refine Below.trans' ?_ hb3; (with_reducible (repeat (first | exact hbel | exact hd | refine Below.drew ?_ | refine Below.alloc' ?_ _ | refine Below.setCell ?_ (by first | exact Nat.le_refl _ | (show V.heap.size ≤ _; omega) | (simp; omega)) _))))); (try (first | (with_reducible have hi := StrsAt.keep hi hb3) | (with_reducible have hi := StrsAt.keep (StrsAt.keep hi (below_alloc _ _)) hb3))); have hbel := hbn3; clear hbn3) | (go_at_call 25; (with_reducible refine (HC2.out _ _ _ (by first | exact hi | exact StrsAt.keep hi (below_alloc _ _) | exact StrsAt.keep hi (Below.drew (Below.refl _ _))) hcp).mono ?_); rintro e4 w4 ⟨aw, kw, vw, rfl, ho4, hb4⟩; (have hbn4 : Below V.heap.size V w4 := by (refine Below.trans' ?_ hb4; (with_reducible (repeat (first | exact hbel | exact hd | refine Below.drew ?_ | refine Below.alloc' ?_ _ | refine Below.setCell ?_ (by first | exact Nat.le_refl _ | (show V.heap.size ≤ _; omega) | (simp; omega)) _))))); (try (first | (with_reducible have hi := StrsAt.keep hi hb4) | (with_reducible have hi := StrsAt.keep (StrsAt.keep hi (below_alloc _ _)) hb4))); (have ho := RowsO.base ho4 (show V.heap.size ≤ _ from (show Below V.heap.size V _ from (by (with_reducible (repeat (first | exact hbel | exact hd | refine Below.drew ?_ | refine Below.alloc' ?_ _ | refine Below.setCell ?_ (by first | exact Nat.le_refl _ | (show V.heap.size ≤ _; omega) | (simp; omega)) _))))).size)); have hbel := hbn4; clear hbn4))
      all_goals
        go_wp2_with fail
        go_meet
        exact ⟨_, _, _, rfl, rfl, (by first | exact ho | exact RowsO.keep ho (Below.drew (Below.refl _ _))), (by (with_reducible (repeat (first | exact hbel | exact hd | refine Below.drew ?_ | refine Below.alloc' ?_ _ | refine Below.setCell ?_ (by first | exact Nat.le_refl _ | (show V.heap.size ≤ _; omega) | (simp; omega)) _))))⟩
    case rest =>
      obtain ⟨ah, kh, vh, rfl, rfl, hYh, hBc⟩ := hcut
      have hH := hide (hYh.leaves HRM.out (by show 2 * xss.length ≤ 1048576; have := HR8.out; omega)).reads
      have hT13 := hide (Below.trans' hT11.out hBc)
      have hH13 := hide hBc
      clear HS hYh hBc hd hbel HAX
      go_wp2_with fail
      refine (eqInt64SS_same _ _ _ _ xss _ hH.out (hJ1.out.keep hT13.out) HSM.out).mono ?_
      rintro e w14 ⟨rfl, hq14⟩
      have hT14 := hide (Below.trans' hT13.out hq14.below)
      have hH14 := hide (Below.trans' hH13.out hq14.below)
      clear hq14
      go_wp2_with fail
      (try rw [← hlen.out])
      refine (heldInt64SS_leaves a7 k7 lv 1 _ (hLR11.out.keep hH14.out) (hLM11.out.keep hH14.out) hll hsm.out (by omega) (by rw [← HTT.out]; omega)).mono ?_
      rw [← HTT.out]
      rintro e w15 ⟨rfl, hq15⟩
      have hfin : Hid (Below W.heap.size W w15) := hide (Below.trans' hB1.out (Below.trans' hT14.out hq15.below))
      clear hq15
      go_wp2_with fail
      go_ret
      exact ⟨rfl, hfin.out⟩

/-- The listed tables. -/
abbrev laidT : List (String × DataW Unit) := Rows.fnExactCrossedSquaresRow.laid

set_option maxRecDepth 100000 in
theorem lifted (os : Os) (started : os.Started) (H : Type) (enc : TypeId × Value → H) :
    ReturnsInHanded {} Tryd.checked os 5 .any (fun w args => (Rows.fnExactCrossedSquaresSpec.pre enc Tryd.prog Tryd.f5 [] false w args ∧ laidMetH Tryd.prog laidT w) ∧ sizedMet enc Tryd.prog Tryd.f5 (OpenSpec.ofChange Rows.fnExactCrossedSquaresSpec) false w args)
      (Rows.fnExactCrossedSquaresSpec.post enc Tryd.prog Tryd.f5 false true false false) := by
  refine returnsInHanded_of_change_and (C := Tryd.checked) (X := fun w _ => laidMetH Tryd.prog laidT w) (fun _ _ _ hh h => h.of_heap hh) own started (by kernel_rfl) Tryd.func5
    (ChangeSpec.witness_shaped (enc := enc) (C := Tryd.checked) (os := os) (X := fun w _ => laidMetH Tryd.prog laidT w) false (World.laidAll Tryd.prog os laidT) #[.slice none 0 0, .agg #[.int .i64 0, .int .i64 0, .int .i64 0, .int .i64 0], .int .i64 0] 8 (World.laidAll_os _ _ _)
      (World.shaped_of_ZipB (by kernel_rfl) (by kernel_rfl)) (by kernel_rfl) (by kernel_rfl) (by kernel_rfl)
      (by rw [MakeChecks.laidMetH_plain _ _ _ (by kernel_rfl)]; exact laidMet_laidAll _ (by kernel_rfl) (by kernel_rfl))) ?_
  intro W base args ds gs before hval0 hW _ _ _ _
  have hval : ∀ (j : Nat) t v, Tryd.f5.params[j]? = some t → args[j]? = some v → Value.okWide Tryd.prog W .any base t v := hval0
  have hW' := hW
  obtain ⟨p, q, hA0, hV, rfl, hfz, hnd⟩ := hW
  have hA : DataW.TrodAll enc Tryd.prog W 0 (fun _ => true) true Tryd.f5.params.toList args.toList ds p := hA0
  rw [Tryd.params5] at hA hval
  obtain ⟨v0, vs0, d0, ds0, p0, q0, hargs, rfl, rfl, h0, r0⟩ := trodAll_cons hA
  obtain ⟨v1, vs1, d1, ds1, p1, q1, rfl, rfl, rfl, h1, r1⟩ := trodAll_cons r0
  obtain ⟨v2, vs2, d2, ds2, p2, q2, rfl, rfl, rfl, h2, r2⟩ := trodAll_cons r1
  obtain ⟨rfl, rfl, rfl⟩ := trodAll_nil r2
  obtain rfl : args = #[v0, v1, v2] := by cases args; simp_all
  obtain ⟨rfl, rfl⟩ := trodVars_none hV
  have k0 := h0
  have lt0 : ∀ x ∈ p0, x.block < W.heap.size := by obtain ⟨m, hm⟩ := k0; exact DataW.trod_lt m _ _ _ hm
  have k1 := h1
  have lt1 : ∀ x ∈ p1, x.block < W.heap.size := by obtain ⟨m, hm⟩ := k1; exact DataW.trod_lt m _ _ _ hm
  obtain ⟨a0, c0, x0, rfl, e0, l0, z0⟩ := open_texts (hval 0 22 v0 rfl rfl) h0
  obtain ⟨cr1, rfl⟩ := open_arr (hval 1 27 v1 rfl rfl) h1
  obtain ⟨x2, rfl, rfl, rfl, w2⟩ := open_int Tryd.underlying2 (hval 2 2 v2 rfl rfl) h2
  clear hA0 hval0
  refine (walk a0 c0 x0 cr1 x2 W e0 l0 z0).mono fun e W' ⟨he, bel⟩ => ?_
  subst he
  exact ⟨_, rfl, _, _, _, [], _, [], hW', trodAll_mk1 (shut_bool Tryd.underlying4 _), (trodAll_cons_mk (Below.trod laidOut (by kernel_rfl) (of_decide_eq_true (by kernel_rfl)) k0 bel lt0) (trodAll_cons_mk (Below.trod laidOut (by kernel_rfl) (of_decide_eq_true (by kernel_rfl)) k1 bel lt1) (trodAll_cons_mk (shut_int Tryd.underlying2 w2) trodAll_mk0))), rfl, bel.frame _, fun h => by cases h⟩

theorem over : Rows.fnExactCrossedSquaresRow.holds Tryd.pinned (OpenSpec.ofChange Rows.fnExactCrossedSquaresSpec) :=
  OpenClaim.holds_of_wide 5 Tryd.f5 rfl rfl rfl rfl rfl rfl rfl ⟨rfl, rfl, rfl, rfl, rfl⟩ rfl rfl rfl rfl rfl (by kernel_rfl) Tryd.func5 (by kernel_rfl)
    (of_decide_eq_true (by kernel_rfl)) (by unfold Func.isWrapper; first | (rw [if_pos (by decide +kernel)]; kernel_rfl) | (rw [if_neg (by decide +kernel)]; exact ⟨rfl, rfl⟩))
    (fun os started H enc _ => lifted os started H enc)

theorem proved : Rows.FnExactCrossedSquaresCardSaid :=
  Claim7.holds_tied_plain_at .later [] [.data, .pinned] true Rows.fnExactCrossedSquaresCard.stood.harness false
    over (fun _ h => by cases h) (by kernel_rfl) (fun _ h => by cases h) fnExactCrossedSquares_row_tie rfl ⟨rfl, rfl⟩ (by kernel_rfl) rfl
    (fun f fn hf hfn => by
      obtain rfl : f = 5 := Option.some.inj ((show Tryd.prog.funcNamed "loop.example/g01388/laws.FnExactCrossedSquares" = some 5 by kernel_rfl).symm.trans hf) |>.symm
      obtain rfl : fn = Tryd.f5 := (Option.some.inj (Tryd.func5.symm.trans hfn)).symm
      exact ⟨by kernel_rfl, fun j t ht => by
        rw [Tryd.params5] at ht
        have hm : t ∈ [22, 27, 2] := by simpa using Array.mem_of_getElem? ht
        have hall : ([22, 27, 2].all fun u => !Tryd.prog.wantsStandIn u) = true := by kernel_rfl
        exact (show Tryd.prog.wantsStandIn t = false by simpa using List.all_eq_true.1 hall t hm)⟩)
    (by kernel_rfl)
end Go.Proofs.YtmoekjgnichgnaaDoor.LawCrossedSquares
