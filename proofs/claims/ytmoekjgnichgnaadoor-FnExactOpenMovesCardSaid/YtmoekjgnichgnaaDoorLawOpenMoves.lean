/-
  FnExactOpenMoves: for every argument the law returns true and leaves its argument as it was. No condition. The row lists tables of Go's own library (one of them held against the form's constant), which the law's road never reads; the tied card closes the row.
-/
import Derived.Test.YtmoekjgnichgnaaDoorOs
import Derived.Test.YtmoekjgnichgnaaDoorMs
import Derived.Test.YtmoekjgnichgnaaDoorTo
import Derived.Test.YtmoekjgnichgnaaDoorTie
import Derived.Test.YtmoekjgnichgnaaDoorCards
import Derived.SevenTiedAt
import Derived.LaidMore
import Derived.Lay
import Derived.Stop.Joined
import Derived.Deep.RegionHeld3
import Derived.Deep.DeepCutAuto
namespace Go.Proofs.YtmoekjgnichgnaaDoor.LawOpenMoves
open Go.ChangeShapes Go.WideShapes Go.ChangeAt Go.RowKit Go.Deep
set_option linter.unusedVariables false

set_option maxRecDepth 100000 in
set_option maxHeartbeats 8000000 in
theorem walk (a : Option Addr) (c : Nat) (ss : List ByteArray) (car : Cr) (W : World) (ha : StrsAt W a ss) (hn : ss.length ≤ 9223372036854775807) (hm : ∀ s ∈ ss, s.size ≤ maxLen) :
    Calls Tryd.prog 6 #[.slice a ss.length c, crV car] W fun e w' => e = .returned (.bool true) ∧ Below W.heap.size W w' := by
  obtain ⟨x, y, u, v⟩ := car
  unfold crV
  dsimp only
  obtain ⟨V, hV⟩ : ∃ V, V = W.alloc (.cells #[.int .i64 x, .int .i64 y, .int .i64 u, .int .i64 v] 27) := ⟨_, rfl⟩
  have hB0 : Hid (Below W.heap.size W V) := by rw [hV]; exact hide (below_alloc _ _)
  have hX0 : Hid (V.heap[W.heap.size]? = some (.cells #[.int .i64 x, .int .i64 y, .int .i64 u, .int .i64 v] 27 (0, 0))) := by rw [hV]; exact hide (row_new _ _ _)
  obtain ⟨s, hs⟩ : ∃ s, s = szS ss := ⟨_, rfl⟩
  have HSZ := hide (szStringS_any a c ss V (ha.keep hB0.out) hn hm)
  rw [← hs] at HSZ
  by_cases hneg : s < 0
  · clear hs
    go_enter Tryd.func6, Tryd.ntmps6
    go_wp2_with fail
    rw [← hV]
    clear hV
    (try go_wp2_with fail)
    refine HSZ.out.mono ?_
    rintro e w1 ⟨rfl, rfl⟩
    go_wp2_with fail
    go_ret
    exact ⟨rfl, hB0.out⟩
  obtain ⟨hl, hz⟩ := szS_le (by rw [← hs]; exact hneg)
  have HL := hide hl
  have HZ := hide hz
  have HAV := hide (ha.keep hB0.out)
  have HAX := hide (fun (W' : World) (h : Below V.heap.size V W') => HAV.out.keep h)
  clear hs hz ha hm
  obtain ⟨r, hr⟩ : ∃ r, r = omR ss ⟨x, y, u, v⟩ := ⟨_, rfl⟩
  have hrl : r.1.length ≤ 1048576 := by rw [hr]; exact omR_le ss _
  have HC1 : Hid (∀ (V : World) (a : Option Addr) (c : Nat), StrsAt V a ss → Calls Tryd.prog 30 #[.slice a ss.length c, .agg #[.int .i64 x, .int .i64 y, .int .i64 u, .int .i64 v]] V (NewList r V)) := hide (fun V a c ha => by rw [hr]; exact specOpenMoves_any a c ss x y u v V ha HL.out HZ.out)
  have HC2 : Hid (∀ (V : World) (a : Option Addr) (c : Nat), StrsAt V a ss → ss.length ≤ c → Calls Tryd.prog 31 #[.slice a ss.length c, .agg #[.int .i64 x, .int .i64 y, .int .i64 u, .int .i64 v]] V (NewList r V)) := hide (fun V a c ha hc => by rw [hr]; exact implOpenMoves_any a c ss x y u v V ha HL.out HZ.out hc)
  clear hr
  obtain ⟨zs, k⟩ := r
  dsimp only at hrl
  have e1 : (k != k) = false := by simp
  obtain ⟨X0, X1, X2, X3⟩ := row4 hX0.out
  go_enter Tryd.func6, Tryd.ntmps6
  go_wp2_with fail
  rw [← hV]
  clear hV
  (try go_wp2_with fail)
  refine HSZ.out.mono ?_
  rintro e w1 ⟨rfl, rfl⟩
  go_upto_region 5 with fail
  have hd : Below V.heap.size V V.drew := Below.drew (Below.refl _ _)
  have hbel : Below V.heap.size V V := Below.refl _ _
  have HS : Hid (∀ W' : World, Below V.heap.size V W' → (W'.cell? ⟨W.heap.size, 0, none⟩ = some (.int .i64 x) ∧ W'.cell? ⟨W.heap.size, 1, none⟩ = some (.int .i64 y) ∧ W'.cell? ⟨W.heap.size, 2, none⟩ = some (.int .i64 u) ∧ W'.cell? ⟨W.heap.size, 3, none⟩ = some (.int .i64 v))) := hide (fun W' h => ⟨cell_keep h X0, cell_keep h X1, cell_keep h X2, cell_keep h X3⟩)
  clear X0 X1 X2 X3
  go_cut [6, 7] (fun sa sb wx => ∃ (aw : Option Addr) (kw : Nat), sa = .slice aw zs.length kw ∧ sb = .int .i64 k ∧ wx.ownsRow V.heap.size 2 1 (.slice aw zs.length kw) zs.length (zs.map intV) ∧ Below V.heap.size V wx)
  case first =>
    go_region_held3 (fun W' => W'.cell? ⟨W.heap.size, 0, none⟩ = some (.int .i64 x) ∧ W'.cell? ⟨W.heap.size, 1, none⟩ = some (.int .i64 y) ∧ W'.cell? ⟨W.heap.size, 2, none⟩ = some (.int .i64 u) ∧ W'.cell? ⟨W.heap.size, 3, none⟩ = some (.int .i64 v)) (first | (refine HS.out _ ?_; (with_reducible (repeat (first | exact hbel | exact hd | refine Below.drew ?_ | refine Below.alloc' ?_ _ | refine Below.setCell ?_ (by first | exact Nat.le_refl _ | (show V.heap.size ≤ _; omega) | (simp; omega)) _))))) (first | (go_at_call 17; (with_reducible refine (toStringS_any _ _ ss _ (HAX.out _ (by (with_reducible (repeat (first | exact hbel | exact hd | refine Below.drew ?_ | refine Below.alloc' ?_ _ | refine Below.setCell ?_ (by first | exact Nat.le_refl _ | (show V.heap.size ≤ _; omega) | (simp; omega)) _))))) HL.out).mono ?_); rintro e2 w2 ⟨g2, k2, rfl, ho2, hb2⟩; (have hbn2 : Below V.heap.size V w2 := by (refine Below.trans' ?_ hb2; (with_reducible (repeat (first | exact hbel | exact hd | refine Below.drew ?_ | refine Below.alloc' ?_ _ | refine Below.setCell ?_ (by first | exact Nat.le_refl _ | (show V.heap.size ≤ _; omega) | (simp; omega)) _))))); (try (first | (with_reducible have hi := StrsAt.keep hi hb2) | (with_reducible have hi := StrsAt.keep (StrsAt.keep hi (below_alloc _ _)) hb2))); (have hi := strsAt_of_ownsRow ho2); (have hcp := own_cap ho2); have hbel := hbn2; clear hbn2) | (go_at_call 24; (with_reducible refine (toCar_any x y u v _).mono ?_); rintro e3 w3 ⟨rfl, hb3⟩; (have hbn3 : Below V.heap.size V w3 := by (refine Below.trans' ?_ hb3; (with_reducible (repeat (first | exact hbel | exact hd | refine Below.drew ?_ | refine Below.alloc' ?_ _ | refine Below.setCell ?_ (by first | exact Nat.le_refl _ | (show V.heap.size ≤ _; omega) | (simp; omega)) _))))); (try (first | (with_reducible have hi := StrsAt.keep hi hb3) | (with_reducible have hi := StrsAt.keep (StrsAt.keep hi (below_alloc _ _)) hb3))); have hbel := hbn3; clear hbn3) | (go_at_call 30; (with_reducible refine (HC1.out _ _ _ (by first | exact hi | exact StrsAt.keep hi (below_alloc _ _) | exact StrsAt.keep hi (Below.drew (Below.refl _ _)))).mono ?_); rintro e4 w4 ⟨aw, kw, rfl, ho4, hb4⟩; (have hbn4 : Below V.heap.size V w4 := by (refine Below.trans' ?_ hb4; (with_reducible (repeat (first | exact hbel | exact hd | refine Below.drew ?_ | refine Below.alloc' ?_ _ | refine Below.setCell ?_ (by first | exact Nat.le_refl _ | (show V.heap.size ≤ _; omega) | (simp; omega)) _))))); (try (first | (with_reducible have hi := StrsAt.keep hi hb4) | (with_reducible have hi := StrsAt.keep (StrsAt.keep hi (below_alloc _ _)) hb4))); (have ho := ownsRow_base ho4 (show V.heap.size ≤ _ from (show Below V.heap.size V _ from (by (with_reducible (repeat (first | exact hbel | exact hd | refine Below.drew ?_ | refine Below.alloc' ?_ _ | refine Below.setCell ?_ (by first | exact Nat.le_refl _ | (show V.heap.size ≤ _; omega) | (simp; omega)) _))))).size)); have hbel := hbn4; clear hbn4))
    all_goals
      go_wp2_with fail
      go_meet
      exact ⟨_, _, rfl, rfl, (by first | exact ho | exact ownsRow_keep ho (Below.drew (Below.refl _ _))), (by (with_reducible (repeat (first | exact hbel | exact hd | refine Below.drew ?_ | refine Below.alloc' ?_ _ | refine Below.setCell ?_ (by first | exact Nat.le_refl _ | (show V.heap.size ≤ _; omega) | (simp; omega)) _))))⟩
  case rest =>
    obtain ⟨aw, kw, rfl, rfl, hYr, hBc⟩ := hcut
    have hX1 := hide (box_keep hX0.out hBc)
    have hO1 := hide hYr
    have hB1 := hide hBc
    have HA1 := hide (HAV.out.keep hBc)
    have hpw := hide (own_lt' hYr)
    have hxl := hide (block_lt hX1.out)
    clear HS hYr hBc hd hbel HAX
    go_wp2_with fail
    refine (toStringS_any _ _ ss _ HA1.out HL.out).mono ?_
    rintro e w2 ⟨g2, k2, rfl, ho2, hb2⟩
    have hX2 := hide (box_keep hX1.out hb2)
    have hO2 := hide (ownsRow_keep hO1.out hb2)
    have hB2 := hide (Below.trans' hB1.out hb2)
    have HA2 := hide (HA1.out.keep hb2)
    have hT2 := hide ho2
    have hc2 := own_cap ho2
    have hs12 := hB1.out.size
    have hz2 := hb2.size
    clear hb2 ho2
    obtain ⟨X0, X1, X2, X3⟩ := row4 hX2.out
    go_wp2_with fail
    refine (toCar_any x y u v _).mono ?_
    rintro e w3 ⟨rfl, hb3⟩
    have hI3 := hide (strsAt_of_ownsRow (ownsRow_keep hT2.out hb3))
    clear X0 X1 X2 X3
    go_wp2_with fail
    refine (HC2.out _ _ _ hI3.out hc2).mono ?_
    rintro e w4 ⟨ag, kg, rfl, ho4, hb4⟩
    have hb34 := Below.trans' hb3 hb4
    have hX4 := hide (box_keep hX2.out hb34)
    have hO4 := hide (ownsRow_keep hO2.out hb34)
    have hT4 := hide (ownsRow_keep hT2.out hb34)
    have hB4 := hide (Below.trans' hB2.out hb34)
    have HA4 := hide (HA2.out.keep hb34)
    have hG4 := hide (ownsRow_base ho4 hb3.size)
    have hpg := hide (own_ge hG4.out)
    have hs4 := hb34.size
    clear hb3 hb4 hb34 ho4 hI3
    go_wp2_with fail
    refine (eqInt64S_same _ _ _ _ zs _ (intsAt_of_ownsRow hG4.out) (intsAt_of_ownsRow hO4.out) hrl).mono ?_
    rintro e w5 ⟨rfl, hb5⟩
    have hz5 := hb5.size
    have hX5 := hide (box_keep hX4.out hb5)
    have hO5 := hide (ownsRow_keep hO4.out hb5)
    have hT5 := hide (ownsRow_keep hT4.out hb5)
    have hG5 := hide (ownsRow_keep hG4.out hb5)
    have hB5 := hide (Below.trans' hB4.out hb5)
    have HA5 := hide (HA4.out.keep hb5)
    clear hb5
    go_wp2_with fail
    refine (toStringS_any _ _ ss _ HA5.out HL.out).mono ?_
    rintro e w6 ⟨g6, k6, rfl, ho6, hb6⟩
    have hz6 := hb6.size
    have hI6 := hide (strsAt_of_ownsRow ho6)
    have hX6 := hide (box_keep hX5.out hb6)
    have hO6 := hide (ownsRow_keep hO5.out hb6)
    have hT6 := hide (ownsRow_keep hT5.out hb6)
    have hG6 := hide (ownsRow_keep hG5.out hb6)
    have hB6 := hide (Below.trans' hB5.out hb6)
    have HA6 := hide (HA5.out.keep hb6)
    clear hb6 ho6
    go_wp2_with fail
    refine (eqStringS_same _ _ _ _ ss _ (strsAt_of_ownsRow hT6.out) hI6.out HL.out).mono ?_
    rintro e w7 ⟨rfl, hb7⟩
    have hz7 := hb7.size
    have hX7 := hide (box_keep hX6.out hb7)
    have hO7 := hide (ownsRow_keep hO6.out hb7)
    have hT7 := ownsRow_keep hT6.out hb7
    have hG7 := hide (ownsRow_keep hG6.out hb7)
    have hB7 := hide (Below.trans' hB6.out hb7)
    have HA7 := hide (HA6.out.keep hb7)
    obtain ⟨hg2, hg2l, cur, hcur, hcz⟩ := own_row hT7
    have hT2l := hide (own_lt' hT2.out)
    clear hb7 hI6
    go_wp2_with fail
    refine (markStringS_any _ _ _ _ cur _ hcur hcz (by omega) (by omega) (by omega)).mono ?_
    rintro e w8 ⟨rfl, hbut⟩
    have hz8 := hbut.size
    have hM8 := Mk1.of_but (k := ss.length) (c := k2) hbut rfl
    have hX8 := hide (hbut.row hX7.out (by have := hxl.out; omega))
    have hO8 := hide (hM8.owns hO7.out (fun g hg e => by have h1 := hpw.out g hg; simp [Value.ownBlock] at e; omega))
    have hG8 := hide (hM8.owns hG7.out (fun g hg e => by have h1 := hpg.out g hg; have h2 := hT2l.out g2 rfl; simp [Value.ownBlock] at e; omega))
    have hbel8 := hbut.old (by omega)
    have hB8 := hide (hB7.out.trans (hbel8.mono (by omega)))
    have HA8 := hide (HAV.out.keep hB8.out)
    clear hbut hM8 hbel8 hcur hT7
    go_wp2_with fail
    refine (eqInt64S_same _ _ _ _ zs _ (intsAt_of_ownsRow hG8.out) (intsAt_of_ownsRow hO8.out) hrl).mono ?_
    rintro e w9 ⟨rfl, hb9⟩
    have hz9 := hb9.size
    have hX9 := hide (box_keep hX8.out hb9)
    have hO9 := hide (ownsRow_keep hO8.out hb9)
    have hG9 := hide (ownsRow_keep hG8.out hb9)
    have hB9 := hide (Below.trans' hB8.out hb9)
    have HA9 := hide (HA8.out.keep hb9)
    clear hb9
    go_wp2_with fail
    refine (markInt64S_any _ _ _ _ _ (owned_room hG9.out) hrl (by omega) (by omega)).mono ?_
    rintro e w10 hp
    obtain ⟨he, ho10, hM10⟩ := mk1_of_marked hG9.out hp
    subst he
    have hX10 := hide (hM10.row hX9.out (fun e => by have := hpg.out _ e; have := hxl.out; omega))
    have hO10 := hide (hM10.owns hO9.out (fun g hg e => by have := hpg.out g e; have := hpw.out g hg; omega))
    have hbel10 := hM10.old (B := w2.heap.size) (by omega) (fun g e => hpg.out g e)
    have hG10 := hide ho10
    have hB10 := hide (hB9.out.trans (hbel10.mono (by omega)))
    have HA10 := hide (HAV.out.keep hB10.out)
    clear hp hM10 ho10 hbel10
    go_wp2_with fail
    refine (heldInt64S_any _ _ _ _ _ (intsAt_of_ownsRow hG10.out) hrl (by omega) (by omega)).mono ?_
    rintro e w11 ⟨rfl, hq11⟩
    have hb11 : Below w10.heap.size w10 w11 := hq11.below
    have hX11 := hide (box_keep hX10.out hb11)
    have hO11 := hide (ownsRow_keep hO10.out hb11)
    have hG11 := hide (ownsRow_keep hG10.out hb11)
    have hB11 := hide (Below.trans' hB10.out hb11)
    have HA11 := hide (HA10.out.keep hb11)
    clear hb11 hq11
    obtain ⟨V, hV⟩ : ∃ V, V = w11 := ⟨_, rfl⟩
    rw [← hV] at hX11 hO11 hG11 hB11 HA11 ⊢
    clear hV
    have HAX := hide (fun (W' : World) (h : Below V.heap.size V W') => HA11.out.keep h)
    obtain ⟨X0, X1, X2, X3⟩ := row4 hX11.out
    go_upto_region 24 with fail
    have hd : Below V.heap.size V V.drew := Below.drew (Below.refl _ _)
    have hbel : Below V.heap.size V V := Below.refl _ _
    have HS : Hid (∀ W' : World, Below V.heap.size V W' → (W'.cell? ⟨W.heap.size, 0, none⟩ = some (.int .i64 x) ∧ W'.cell? ⟨W.heap.size, 1, none⟩ = some (.int .i64 y) ∧ W'.cell? ⟨W.heap.size, 2, none⟩ = some (.int .i64 u) ∧ W'.cell? ⟨W.heap.size, 3, none⟩ = some (.int .i64 v))) := hide (fun W' h => ⟨cell_keep h X0, cell_keep h X1, cell_keep h X2, cell_keep h X3⟩)
    clear X0 X1 X2 X3
    go_cut [14, 15] (fun sa sb wx => ∃ (aw : Option Addr) (kw : Nat), sa = .slice aw zs.length kw ∧ sb = .int .i64 k ∧ wx.ownsRow V.heap.size 2 1 (.slice aw zs.length kw) zs.length (zs.map intV) ∧ Below V.heap.size V wx)
    case first =>
      go_region_held3 (fun W' => W'.cell? ⟨W.heap.size, 0, none⟩ = some (.int .i64 x) ∧ W'.cell? ⟨W.heap.size, 1, none⟩ = some (.int .i64 y) ∧ W'.cell? ⟨W.heap.size, 2, none⟩ = some (.int .i64 u) ∧ W'.cell? ⟨W.heap.size, 3, none⟩ = some (.int .i64 v)) (first | (refine HS.out _ ?_; (with_reducible (repeat (first | exact hbel | exact hd | refine Below.drew ?_ | refine Below.alloc' ?_ _ | refine Below.setCell ?_ (by first | exact Nat.le_refl _ | (show V.heap.size ≤ _; omega) | (simp; omega)) _))))) (first | (go_at_call 17; (with_reducible refine (toStringS_any _ _ ss _ (HAX.out _ (by (with_reducible (repeat (first | exact hbel | exact hd | refine Below.drew ?_ | refine Below.alloc' ?_ _ | refine Below.setCell ?_ (by first | exact Nat.le_refl _ | (show V.heap.size ≤ _; omega) | (simp; omega)) _))))) HL.out).mono ?_); rintro e2 w2 ⟨g2, k2, rfl, ho2, hb2⟩; (have hbn2 : Below V.heap.size V w2 := by (refine Below.trans' ?_ hb2; (with_reducible (repeat (first | exact hbel | exact hd | refine Below.drew ?_ | refine Below.alloc' ?_ _ | refine Below.setCell ?_ (by first | exact Nat.le_refl _ | (show V.heap.size ≤ _; omega) | (simp; omega)) _))))); (try (first | (with_reducible have hi := StrsAt.keep hi hb2) | (with_reducible have hi := StrsAt.keep (StrsAt.keep hi (below_alloc _ _)) hb2))); (have hi := strsAt_of_ownsRow ho2); (have hcp := own_cap ho2); have hbel := hbn2; clear hbn2) | (go_at_call 24; (with_reducible refine (toCar_any x y u v _).mono ?_); rintro e3 w3 ⟨rfl, hb3⟩; (have hbn3 : Below V.heap.size V w3 := by (refine Below.trans' ?_ hb3; (with_reducible (repeat (first | exact hbel | exact hd | refine Below.drew ?_ | refine Below.alloc' ?_ _ | refine Below.setCell ?_ (by first | exact Nat.le_refl _ | (show V.heap.size ≤ _; omega) | (simp; omega)) _))))); (try (first | (with_reducible have hi := StrsAt.keep hi hb3) | (with_reducible have hi := StrsAt.keep (StrsAt.keep hi (below_alloc _ _)) hb3))); have hbel := hbn3; clear hbn3) | (go_at_call 31; (with_reducible refine (HC2.out _ _ _ (by first | exact hi | exact StrsAt.keep hi (below_alloc _ _) | exact StrsAt.keep hi (Below.drew (Below.refl _ _))) hcp).mono ?_); rintro e4 w4 ⟨aw, kw, rfl, ho4, hb4⟩; (have hbn4 : Below V.heap.size V w4 := by (refine Below.trans' ?_ hb4; (with_reducible (repeat (first | exact hbel | exact hd | refine Below.drew ?_ | refine Below.alloc' ?_ _ | refine Below.setCell ?_ (by first | exact Nat.le_refl _ | (show V.heap.size ≤ _; omega) | (simp; omega)) _))))); (try (first | (with_reducible have hi := StrsAt.keep hi hb4) | (with_reducible have hi := StrsAt.keep (StrsAt.keep hi (below_alloc _ _)) hb4))); (have ho := ownsRow_base ho4 (show V.heap.size ≤ _ from (show Below V.heap.size V _ from (by (with_reducible (repeat (first | exact hbel | exact hd | refine Below.drew ?_ | refine Below.alloc' ?_ _ | refine Below.setCell ?_ (by first | exact Nat.le_refl _ | (show V.heap.size ≤ _; omega) | (simp; omega)) _))))).size)); have hbel := hbn4; clear hbn4))
      all_goals
        go_wp2_with fail
        go_meet
        exact ⟨_, _, rfl, rfl, (by first | exact ho | exact ownsRow_keep ho (Below.drew (Below.refl _ _))), (by (with_reducible (repeat (first | exact hbel | exact hd | refine Below.drew ?_ | refine Below.alloc' ?_ _ | refine Below.setCell ?_ (by first | exact Nat.le_refl _ | (show V.heap.size ≤ _; omega) | (simp; omega)) _))))⟩
    case rest =>
      obtain ⟨ah, kh, rfl, rfl, hH13, hBc⟩ := hcut
      have hH := hide hH13
      have hO13 := hide (ownsRow_keep hO11.out hBc)
      have hG13 := hide (ownsRow_keep hG11.out hBc)
      have hB13 := hide (Below.trans' hB11.out hBc)
      clear HS hH13 hBc hd hbel HAX
      go_wp2_with fail
      refine (eqInt64S_same _ _ _ _ zs _ (intsAt_of_ownsRow hH.out) (intsAt_of_ownsRow hO13.out) hrl).mono ?_
      rintro e w14 ⟨rfl, hb14⟩
      have hG14 := hide (ownsRow_keep hG13.out hb14)
      have hB14 := hide (Below.trans' hB13.out hb14)
      clear hb14
      go_wp2_with fail
      refine (heldInt64S_any _ _ _ _ _ (intsAt_of_ownsRow hG14.out) hrl (by omega) (by omega)).mono ?_
      rintro e w15 ⟨rfl, hq15⟩
      have hB15 := hide (Below.trans' hB14.out hq15.below)
      clear hq15
      go_wp2_with fail
      go_ret
      exact ⟨rfl, Below.trans' hB0.out hB15.out⟩

/-- The listed tables. -/
abbrev laidT : List (String × DataW Unit) := Rows.fnExactOpenMovesRow.laid

set_option maxRecDepth 100000 in
theorem lifted (os : Os) (started : os.Started) (H : Type) (enc : TypeId × Value → H) :
    ReturnsInHanded {} Tryd.checked os 6 .any (fun w args => (Rows.fnExactOpenMovesSpec.pre enc Tryd.prog Tryd.f6 [] false w args ∧ laidMetH Tryd.prog laidT w) ∧ sizedMet enc Tryd.prog Tryd.f6 (OpenSpec.ofChange Rows.fnExactOpenMovesSpec) false w args)
      (Rows.fnExactOpenMovesSpec.post enc Tryd.prog Tryd.f6 false true false false) := by
  refine returnsInHanded_of_change_and (C := Tryd.checked) (X := fun w _ => laidMetH Tryd.prog laidT w) (fun _ _ _ hh h => h.of_heap hh) own started (by kernel_rfl) Tryd.func6
    (ChangeSpec.witness_shaped (enc := enc) (C := Tryd.checked) (os := os) (X := fun w _ => laidMetH Tryd.prog laidT w) false (World.laidAll Tryd.prog os laidT) #[.slice none 0 0, .agg #[.int .i64 0, .int .i64 0, .int .i64 0, .int .i64 0]] 8 (World.laidAll_os _ _ _)
      (World.shaped_of_ZipB (by kernel_rfl) (by kernel_rfl)) (by kernel_rfl) (by kernel_rfl) (by kernel_rfl)
      (by rw [MakeChecks.laidMetH_plain _ _ _ (by kernel_rfl)]; exact laidMet_laidAll _ (by kernel_rfl) (by kernel_rfl))) ?_
  intro W base args ds gs before hval0 hW _ _ _ _
  have hval : ∀ (j : Nat) t v, Tryd.f6.params[j]? = some t → args[j]? = some v → Value.okWide Tryd.prog W .any base t v := hval0
  have hW' := hW
  obtain ⟨p, q, hA0, hV, rfl, hfz, hnd⟩ := hW
  have hA : DataW.TrodAll enc Tryd.prog W 0 (fun _ => true) true Tryd.f6.params.toList args.toList ds p := hA0
  rw [Tryd.params6] at hA hval
  obtain ⟨v0, vs0, d0, ds0, p0, q0, hargs, rfl, rfl, h0, r0⟩ := trodAll_cons hA
  obtain ⟨v1, vs1, d1, ds1, p1, q1, rfl, rfl, rfl, h1, r1⟩ := trodAll_cons r0
  obtain ⟨rfl, rfl, rfl⟩ := trodAll_nil r1
  obtain rfl : args = #[v0, v1] := by cases args; simp_all
  obtain ⟨rfl, rfl⟩ := trodVars_none hV
  have k0 := h0
  have lt0 : ∀ x ∈ p0, x.block < W.heap.size := by obtain ⟨m, hm⟩ := k0; exact DataW.trod_lt m _ _ _ hm
  have k1 := h1
  have lt1 : ∀ x ∈ p1, x.block < W.heap.size := by obtain ⟨m, hm⟩ := k1; exact DataW.trod_lt m _ _ _ hm
  obtain ⟨a0, c0, x0, rfl, e0, l0, z0⟩ := open_texts (hval 0 22 v0 rfl rfl) h0
  obtain ⟨cr1, rfl⟩ := open_arr (hval 1 27 v1 rfl rfl) h1
  clear hA0 hval0
  refine (walk a0 c0 x0 cr1 W e0 l0 z0).mono fun e W' ⟨he, bel⟩ => ?_
  subst he
  exact ⟨_, rfl, _, _, _, [], _, [], hW', trodAll_mk1 (shut_bool Tryd.underlying4 _), (trodAll_cons_mk (Below.trod laidOut (by kernel_rfl) (of_decide_eq_true (by kernel_rfl)) k0 bel lt0) (trodAll_cons_mk (Below.trod laidOut (by kernel_rfl) (of_decide_eq_true (by kernel_rfl)) k1 bel lt1) trodAll_mk0)), rfl, bel.frame _, fun h => by cases h⟩

theorem over : Rows.fnExactOpenMovesRow.holds Tryd.pinned (OpenSpec.ofChange Rows.fnExactOpenMovesSpec) :=
  OpenClaim.holds_of_wide 6 Tryd.f6 rfl rfl rfl rfl rfl rfl rfl ⟨rfl, rfl, rfl, rfl, rfl⟩ rfl rfl rfl rfl rfl (by kernel_rfl) Tryd.func6 (by kernel_rfl)
    (of_decide_eq_true (by kernel_rfl)) (by unfold Func.isWrapper; first | (rw [if_pos (by decide +kernel)]; kernel_rfl) | (rw [if_neg (by decide +kernel)]; exact ⟨rfl, rfl⟩))
    (fun os started H enc _ => lifted os started H enc)

theorem proved : Rows.FnExactOpenMovesCardSaid :=
  Claim7.holds_tied_plain_at .later [] [.data, .pinned] true Rows.fnExactOpenMovesCard.stood.harness false
    over (fun _ h => by cases h) (by kernel_rfl) (fun _ h => by cases h) fnExactOpenMoves_row_tie rfl ⟨rfl, rfl⟩ (by kernel_rfl) rfl
    (fun f fn hf hfn => by
      obtain rfl : f = 6 := Option.some.inj ((show Tryd.prog.funcNamed "loop.example/g01388/laws.FnExactOpenMoves" = some 6 by kernel_rfl).symm.trans hf) |>.symm
      obtain rfl : fn = Tryd.f6 := (Option.some.inj (Tryd.func6.symm.trans hfn)).symm
      exact ⟨by kernel_rfl, fun j t ht => by
        rw [Tryd.params6] at ht
        have hm : t ∈ [22, 27] := by simpa using Array.mem_of_getElem? ht
        have hall : ([22, 27].all fun u => !Tryd.prog.wantsStandIn u) = true := by kernel_rfl
        exact (show Tryd.prog.wantsStandIn t = false by simpa using List.all_eq_true.1 hall t hm)⟩)
    (by kernel_rfl)
end Go.Proofs.YtmoekjgnichgnaaDoor.LawOpenMoves
