/-
  Boards of hexagons: who joins on each full board, the program's text.
-/
import Derived.Test.YtogfoahejgmfgaaDf
import Derived.Test.YtogfoahejgmfgaaNv
import Derived.Test.YtogfoahejgmfgaaSh
import Derived.Deep.DeepCutAuto
namespace Go.Proofs.Ytogfoahejgmfgaa
open Go.RowKit
set_option linter.unusedVariables false

/-- A row of numbers in a block of its own. -/
def RowI (g L : Nat) (X : List Int) (W : World) : Prop := W.rowIs g 2 L (fun i => .int .i64 (hexAt X (i : Int)))
theorem RowI.row {g L : Nat} {X : List Int} {W W' : World} (h : RowI g L X W) (hb : W'.heap[g]? = W.heap[g]?) : RowI g L X W' := rowIs_block h hb
theorem RowI.lt {g L : Nat} {X : List Int} {W : World} (h : RowI g L X W) : g < W.heap.size := rowIs_lt h
theorem RowI.cell {g L : Nat} {X : List Int} {W : World} (h : RowI g L X W) {i : Nat} (hi : i < L) : W.cell? ⟨g, i, none⟩ = some (.int .i64 (hexAt X (i : Int))) ∧ W.frozen? ⟨g, i, none⟩ = false := rowIs_cell h hi
theorem RowI.set {g L : Nat} {X : List Int} {W : World} (h : RowI g L X W) (hl : X.length = L) {i : Nat} (hi : i < L) (z : Int) : RowI g L (X.set (i : Int).toNat z) (W.setCell ⟨g, i, none⟩ (.int .i64 z)) := by
  refine (World.rowIs.set h i (.int .i64 z)).congr (fun j hj => ?_)
  rw [hexAt_set (by omega) (by omega) (j : Int) (by omega)]
  by_cases e : j = i
  · subst e; rw [if_pos rfl, if_pos rfl]
  · rw [if_neg e, if_neg (by omega)]
theorem RowI.ints {g L : Nat} {X : List Int} {W : World} (h : RowI g L X W) (hl : X.length = L) : IntsAt W (some ⟨g, 0, none⟩) X := fun hne => ⟨g, 0, rfl, fun i hi => by
  have hi' : i < L := by simpa [hl] using hi
  rw [show 0 + i = i by omega, (h.cell hi').1]
  simp [intV, hexAt, hl, hi']⟩
/-- The same of the first L numbers of a row. -/
def LI (g L : Nat) (X : List Int) (W : World) : Prop := ∃ cur, W.heap[g]? = some (.cells cur 2 (0, 0)) ∧ L ≤ cur.size ∧ ∀ i, i < L → cur[i]? = some (.int .i64 (hexAt X (i : Int)))
theorem LI.row {g L : Nat} {X : List Int} {W W' : World} (h : LI g L X W) (hb : W'.heap[g]? = W.heap[g]?) : LI g L X W' := by
  obtain ⟨cur, hc, r⟩ := h
  exact ⟨cur, hb.trans hc, r⟩
theorem LI.lt {g L : Nat} {X : List Int} {W : World} (h : LI g L X W) : g < W.heap.size := by
  obtain ⟨cur, hc, _⟩ := h
  exact block_lt hc
theorem LI.cell {g L : Nat} {X : List Int} {W : World} (h : LI g L X W) {i : Nat} (hi : i < L) : W.cell? ⟨g, i, none⟩ = some (.int .i64 (hexAt X (i : Int))) ∧ W.frozen? ⟨g, i, none⟩ = false := by
  obtain ⟨cur, hc, _, h2⟩ := h
  exact ⟨(cell_of_row _ _ i _ _ (0, 0) hc).trans (h2 i hi), frozen_of_row _ _ i _ _ hc⟩
theorem LI.set {g L : Nat} {X : List Int} {W : World} (h : LI g L X W) (hl : X.length = L) {i : Nat} (hi : i < L) (z : Int) : LI g L (X.set (i : Int).toNat z) (W.setCell ⟨g, i, none⟩ (.int .i64 z)) := by
  obtain ⟨cur, hc, h1, h2⟩ := h
  refine ⟨cur.setIfInBounds i (.int .i64 z), heap_setCell_same _ g _ _ _ _ hc, by simpa using h1, fun j hj => ?_⟩
  rw [hexAt_set (by omega) (by omega) (j : Int) (by omega)]
  by_cases e : j = i
  · subst e
    rw [if_pos rfl, Array.getElem?_setIfInBounds_self_of_lt (by omega)]
  · rw [if_neg (by omega), Array.getElem?_setIfInBounds_ne (by omega)]
    exact h2 j hj
theorem LI.ints {g L : Nat} {X : List Int} {W : World} (h : LI g L X W) (hl : X.length = L) : IntsAt W (some ⟨g, 0, none⟩) X := fun hne => ⟨g, 0, rfl, fun i hi => by
  have hi' : i < L := by simpa [hl] using hi
  rw [show 0 + i = i by omega, (h.cell hi').1]
  simp [intV, hexAt, hl, hi']⟩
theorem LI.of_owns {B g L c : Nat} {X : List Int} {W : World} (h : W.ownsRow B 2 1 (.slice (some ⟨g, 0, none⟩) L c) L (X.map intV)) : LI g L X W := by
  rcases h.2 with ⟨hv, _⟩ | ⟨g', cap, cur, hv, _, hh, h1, h2, h3, h4⟩
  · cases hv
  · cases hv
    refine ⟨cur, hh, by omega, fun i hi => ?_⟩
    have hl := h.1
    simp at hl
    have h5 : (cur.toList.take (L * 1))[i]? = some (.int .i64 (hexAt X (i : Int))) := by
      rw [h4]
      simp [intV, hexAt, hl, hi]
    rw [List.getElem?_take_of_lt (by omega)] at h5
    simpa using h5
theorem clone_any (b off n c : Nat) (zs : List Int) (w : World) (hl : zs.length = n) (hn : n ≤ 1048576) (hc : IntsAt w (some ⟨b, off, none⟩) zs) (hpos : 0 < n) :
    Calls Try.prog 87 #[.slice (some ⟨b, off, none⟩) n c] w fun e w' => ∃ g k, e = .returned (.slice (some ⟨g, 0, none⟩) n k) ∧ w'.ownsRow w.heap.size 2 1 (.slice (some ⟨g, 0, none⟩) n k) n (zs.map intV) ∧ Below w.heap.size w w' := by
  obtain ⟨i0, hi0, hz0, hz1, hz2⟩ := info_parts Try.info2
  refine (Try.slices_Clone i0 (.int .i64 0) 1 8 hi0 hz0 hz1 hz2 rfl (by decide) (fun w => by kernel_rfl) b off n c (zs.map intV) w (by simp [hl]) (by unfold maxLen; omega) (by omega) (fun j u hj => ?_) (fun u hu => ?_)).mono ?_
  · obtain ⟨b', o', e, hcc⟩ := hc (by intro e; rw [e] at hj; simp at hj)
    cases e
    have hjl : j < (zs.map intV).length := by
      by_cases e : j < (zs.map intV).length
      · exact e
      · rw [List.getElem?_eq_none (by omega)] at hj; cases hj
    rw [hcc j hjl, hj]
  · simp only [List.mem_map] at hu
    obtain ⟨z, _, rfl⟩ := hu
    rfl
  · rintro e w' ⟨v', rfl, ho, hne, hb⟩
    rcases ho.2 with ⟨h, _⟩ | ⟨g, cap, cur, rfl, r⟩
    · exact absurd h hne
    · exact ⟨g, cap, rfl, ho, hb⟩

set_option maxRecDepth 100000 in
set_option maxHeartbeats 4000000 in
theorem joinersFull_any (N L b off c : Nat) (cs : List Int) (hLL : cs.length = L) (hok : okH N cs = true) (hN1 : 1 ≤ N) (hN8 : N ≤ 8) (hlen : cs.length = N * N) (hm9 : (empC cs).length ≤ 9) (W : World) (ha : IntsAt W (some ⟨b, off, none⟩) cs) :
    Calls Try.prog 56 #[.agg #[.int .i64 N, .slice (some ⟨b, off, none⟩) L c]] W (NewL (jnL N cs) W) := by
  have hsq := sqN8 hN8
  have hl : cs.length ≤ 1048576 := by omega
  have hL64 : L ≤ 64 := by omega
  have hL1 : 1 ≤ L := by rw [← hLL, hlen]; exact Nat.mul_le_mul hN1 hN1
  have HA := hide ha
  obtain ⟨es, hes⟩ : ∃ es, es = empC cs := ⟨_, rfl⟩
  obtain ⟨m, hm⟩ : ∃ m, m = es.length := ⟨_, rfl⟩
  have hm9' : m ≤ 9 := by rw [hm, hes]; exact hm9
  have HES := hide hes
  have HM := hide hm
  obtain ⟨W0, hW0⟩ : ∃ W0, W0 = W.alloc (.cells #[.int .i64 N, .slice (some ⟨b, off, none⟩) L c] 28) := ⟨_, rfl⟩
  have hB0 : Hid (Below W.heap.size W W0) := by rw [hW0]; exact hide (below_alloc _ _)
  have hr0 : Hid (W0.heap[W.heap.size]? = some (.cells #[.int .i64 N, .slice (some ⟨b, off, none⟩) L c] 28 (0, 0))) := by rw [hW0]; exact hide (alloc_row _ _ _)
  obtain ⟨c0, c1, _, _⟩ := row2' hr0.out
  have HCE := hide (cellsOf_any (N : Int) (some ⟨b, off, none⟩) c cs 0 W0 (ha.keep hB0.out) hl)
  rw [hLL, show cellsP cs 0 = es from hes.symm] at HCE
  have HLC := hide hLL
  clear ha hes hm hlen hsq hm9
  go_enter Try.func56, Try.ntmps56
  go_wp2_with fail
  rw [← hW0]
  clear hW0
  (try go_wp2_with fail)
  refine (HCE.out).mono ?_
  rintro e w1 ⟨a1, k1, rfl, ho1, hb1⟩
  rw [← HM.out] at ho1 ⊢
  have hB1 := hide (Below.trans' hB0.out hb1)
  have hr1 := hide (box_keep hr0.out hb1)
  have hO1 := hide ho1
  clear hb1 c0 c1 ho1
  obtain ⟨c0, c1, _, _⟩ := row2' hr1.out
  have hA1 := hide (HA.out.keep hB1.out)
  go_upto_region 2 with fail
  have hbel : Below w1.heap.size w1 w1 := Below.refl _ _
  have HS : Hid (∀ W' : World, Below w1.heap.size w1 W' → (W'.cell? ⟨W.heap.size, 0, none⟩ = some (.int .i64 N) ∧ W'.cell? ⟨W.heap.size, 1, none⟩ = some (.slice (some ⟨b, off, none⟩) L c))) := hide (fun W' h => ⟨cell_keep h c0, cell_keep h c1⟩)
  have HCL : Hid (∀ V : World, Below w1.heap.size w1 V → Calls Try.prog 87 #[.slice (some ⟨b, off, none⟩) L c] V fun e w' => ∃ g k, e = .returned (.slice (some ⟨g, 0, none⟩) L k) ∧ w'.ownsRow V.heap.size 2 1 (.slice (some ⟨g, 0, none⟩) L k) L (cs.map intV) ∧ Below V.heap.size V w') := hide (fun V hV => clone_any b off L c cs V HLC.out (by omega) (hA1.out.keep hV) (by omega))
  clear c0 c1
  go_cut [4] (fun s wx => ∃ g mm cm : Nat, s = .pointer (some ⟨g, 0, none⟩) ∧ wx.heap[g]? = some (.cells #[.int .i64 N, .slice (some ⟨mm, 0, none⟩) L cm] 28 (0, 0)) ∧ wx.ownsRow w1.heap.size 2 1 (.slice (some ⟨mm, 0, none⟩) L cm) L (cs.map intV) ∧ g ≠ mm ∧ w1.heap.size ≤ g ∧ Below w1.heap.size w1 wx)
  case first =>
    go_region_held3 (fun W' => W'.cell? ⟨W.heap.size, 0, none⟩ = some (.int .i64 N) ∧ W'.cell? ⟨W.heap.size, 1, none⟩ = some (.slice (some ⟨b, off, none⟩) L c)) (first | (with_reducible refine HS.out _ ?_; (with_reducible (repeat (first | exact hbel | refine Below.drew ?_ | refine Below.alloc' ?_ _ | refine Below.setCell ?_ (by first | exact Nat.le_refl _ | (simp; omega)) _))))) (first | (go_at_call 87; (with_reducible refine (HCL.out _ (by (with_reducible (repeat (first | exact hbel | refine Below.drew ?_ | refine Below.alloc' ?_ _))))).mono ?_); rintro e w2 ⟨g2, k2, rfl, ho2, hb2⟩; (have hbn2 : Below w1.heap.size w1 w2 := by (refine Below.trans' ?_ hb2; (with_reducible (repeat (first | exact hbel | refine Below.drew ?_ | refine Below.alloc' ?_ _))))); (first | (have y4 : w2.heap[w1.heap.size]? = some (.cells #[.int .i64 0, .slice none 0 0] 28 (0, 0)) := box_keep (box_keep (alloc_row w1 _ _) (Below.drew (Below.refl _ _))) hb2; obtain ⟨y0, y1, y2, y3⟩ := row2' y4) | skip); clear hbel; (have hbel := hbn2); clear hbn2))
    · go_wp2_with fail
      go_meet
      have hown := ownsRow_keep ho2 (below_alloc w2 (.cells #[.int .i64 N, .slice (some ⟨g2, 0, none⟩) L k2] 28))
      have hlt := (ho2.lt g2 rfl).2
      refine ⟨w2.heap.size, g2, k2, rfl, alloc_row _ _ _, hown, fun e => ?_, hbel.size, Below.alloc' hbel _⟩
      omega
    · go_wp2_with fail
      go_meet
      have h1 : w1.heap.size < (w1.alloc (.cells #[.int .i64 0, .slice none 0 0] 28)).heap.size := by simp
      have hge : (w1.alloc (.cells #[.int .i64 0, .slice none 0 0] 28)).heap.size ≤ g2 := (ho2.lt g2 rfl).1
      have hown := ownsRow_setCell_below (ownsRow_setCell_below ho2 (a := ⟨w1.heap.size, 0, none⟩) h1 (.int .i64 N)) (a := ⟨w1.heap.size, 1, none⟩) h1 (.slice (some ⟨g2, 0, none⟩) L k2)
      refine ⟨w1.heap.size, g2, k2, rfl, heap_setCell_same _ _ 1 _ _ _ (heap_setCell_same _ _ 0 _ _ _ y4), ownsRow_base hown (Nat.le_of_lt h1), fun e => ?_, Nat.le_refl _, (hbel.setCell (p := ⟨w1.heap.size, 0, none⟩) (Nat.le_refl _) _).setCell (p := ⟨w1.heap.size, 1, none⟩) (Nat.le_refl _) _⟩
      omega
  case rest =>
    obtain ⟨g, mm, cm, rfl, hg, ho, hgm, hg1, hBc⟩ := hcut
    obtain ⟨P, hP⟩ : ∃ P, P = 2 ^ m := ⟨_, rfl⟩
    have hP512 : P ≤ 512 := by rw [hP]; exact Nat.le_trans (Nat.pow_le_pow_right (by omega) hm9') (by decide)
    have hPI : ((2 : Int) ^ m) = (P : Int) := by rw [hP]; push_cast; rfl
    have hsh : wrap64 ((2 : Int) ^ m) = (P : Int) := by rw [hPI]; unfold wrap64; omega
    have hmk := run_make_row' (P := Try.prog) 22 2 (.int .i64 0) 8 Try.underlying22 Try.info2 rfl .i64 .i64 P (by omega) (by omega)
    have HPw := hide hP
    have HG := hide hg
    have HOW := hide ho
    have hB2 := hide (Below.trans' hB1.out hBc)
    have hE1 : Hid (IntsAt wc a1 es) := hide ((intsAt_of_ownsRow hO1.out).keep hBc)
    have hmb := hide (ho.lt mm rfl)
    have hoin := hide (own_in hO1.out)
    clear HS HCL hbel hBc hg ho hP hA1
    go_wp2_with fail
    have hW3 : ∃ W3, W3 = wc.alloc (.cells (madeCells #[.int .i64 0] P) 2) := ⟨_, rfl⟩
    obtain ⟨W3, hW3⟩ := hW3
    have hb3 : Hid (Below wc.heap.size wc W3) := by rw [hW3]; exact hide (below_alloc _ _)
    have hs3 : Hid (W3.heap.size = wc.heap.size + 1) := by rw [hW3]; exact hide (by simp)
    have hJ0 : Hid (RowI wc.heap.size P (List.replicate P 0) W3) := by
      rw [hW3]
      exact hide ((World.rowIs_made wc (.int .i64 0) P 2).congr (fun i hi => by simp [hexAt, hi]))
    rw [← hW3]
    obtain ⟨gj, hgj⟩ : ∃ gj, gj = wc.heap.size := ⟨_, rfl⟩
    rw [← hgj] at hJ0 ⊢
    have HGJ := hide hgj
    have hX0 : Hid (LI mm L cs W3) := hide ((LI.of_owns HOW.out).row (hb3.out.block mm hmb.out.2))
    have hgl := hide (block_lt HG.out)
    clear hmk hW3 hgj
    go_loopw [23] (fun i wr => ∃ (s : Nat) (X : List Int), s ≤ P ∧ i = .int .i64 s ∧ Hid (LI mm L X wr) ∧ Hid (X.length = cs.length ∧ ∀ c, 0 ≤ c → c ∉ es → hexAt X c = hexAt cs c) ∧ Hid (∃ Y : List Int, Y.length = P ∧ RowI gj P Y wr ∧ ∀ i, i < s → hexAt Y (i : Int) = jnF N cs i) ∧ Hid (FarB (fun k => k = mm ∨ k = gj) W3 wr)) (fun i _ => P - (intOf i).toNat)
    case atStart => exact ⟨0, cs, Nat.zero_le _, rfl, hX0, hide ⟨rfl, fun _ _ _ => rfl⟩, hide ⟨_, by simp, hJ0.out, fun i hi => by omega⟩, hide (FarB.refl _ _)⟩
    case round =>
      clear hX0 hJ0
      obtain ⟨s, X, hs, rfl, hX, hXF, hY, hFB⟩ := hrel
      by_cases hlt : s < P
      · obtain ⟨wo, rfl⟩ : ∃ wo : World, wo = wr := ⟨_, rfl⟩
        have hX1 : Hid (FillTo cs es (fun j => s.testBit j) 0 X) := hide (FillTo.nil hXF.out.1 hXF.out.2)
        have hE2 : ∀ V : World, FarB (fun k => k = mm) wo V → IntsAt V a1 es := fun V hV hne => by
          obtain ⟨b', o', rfl, hc⟩ := hE1.out hne
          have hb' : b' ≠ mm ∧ b' ≠ gj ∧ b' < wc.heap.size := by
            have h1 := hoin.out b' o' rfl
            have h2 := hmb.out
            have h3 := HGJ.out
            exact ⟨by omega, by omega, by omega⟩
          refine ⟨b', o', rfl, fun i hi => ?_⟩
          exact (World.cell?_of_block ((hV.block b' (Nat.lt_of_lt_of_le (Nat.lt_of_lt_of_le hb'.2.2 hb3.out.size) hFB.out.size) hb'.1).trans ((hFB.out.block b' (Nat.lt_of_lt_of_le hb'.2.2 hb3.out.size) (fun h => by rcases h with h | h; exact hb'.1 h; exact hb'.2.1 h)).trans (hb3.out.block b' hb'.2.2)))).trans (hc i hi)
        have HE2 := hide hE2
        have hgo : Hid (wo.heap[g]? = some (.cells #[.int .i64 N, .slice (some ⟨mm, 0, none⟩) L cm] 28 (0, 0))) := hide (hFB.out.row (box_keep HG.out hb3.out) (fun h => by
          rcases h with h | h
          · exact hgm h
          · have := hgl.out; have := HGJ.out; omega))
        clear hE2 hXF
        go_wp2_with fail
        go_loopw [28] (fun i wi => ∃ (k : Nat) (X : List Int), k ≤ m ∧ i = .int .i64 k ∧ Hid (LI mm L X wi) ∧ Hid (FillTo cs es (fun j => s.testBit j) k X) ∧ Hid (FarB (fun k => k = mm) wo wi)) (fun i _ => m - (intOf i).toNat)
        case atStart => exact ⟨0, X, Nat.zero_le _, rfl, hX, hX1, hide (FarB.refl _ _)⟩
        case round =>
          clear hX hX1
          obtain ⟨k, X, hk, rfl, hX, hF, hFi⟩ := hrel
          have hgi := hide (hFi.out.row hgo.out hgm)
          obtain ⟨c0, c1, _, _⟩ := row2' hgi.out
          by_cases hlk : k < m
          · obtain ⟨b2, off2, e, rfl, hce, he⟩ := (HE2.out wr hFi.out).one (by rw [← HM.out]; exact hlk)
            obtain ⟨e0, e1⟩ := empC_in (cs := cs) e (by rw [← HES.out]; exact mem_of_get he.out)
            obtain ⟨E, rfl⟩ := Int.eq_ofNat_of_zero_le e0
            have hEL : E < L := by have := HLC.out; omega
            obtain ⟨_, f1⟩ := hX.out.cell hEL
            have hin : Hid (∀ e ∈ es, 0 ≤ e ∧ e < cs.length) := hide (by rw [HES.out]; exact empC_in)
            have hnd : Hid (∀ (i j : Nat) (x : Int), es[i]? = some x → es[j]? = some x → i = j) := hide (by rw [HES.out]; exact empC_dup cs)
            have hdg : bits BinOp.and IntKind.i64 ((s : Int) / 2 ^ k) 1 = if s.testBit k then 1 else 0 := by
              have h := dg_walkL (E := (s : Int)) (k := (k : Int)) (by omega) (by omega)
              rw [dg_nat, Int.toNat_natCast] at h
              exact h
            have hXl : Hid (X.length = L) := hide (by rw [hF.out.len]; exact HLC.out)
            have hX2 := hide (hX.out.set hXl.out hEL 2)
            have hF2 := hide (hFi.out.set (m := mm) (o := E) rfl (.int .i64 2))
            have hgi2 := hide (hF2.out.row hgo.out hgm)
            obtain ⟨c2, c3, _, _⟩ := row2' hgi2.out
            obtain ⟨_, f3⟩ := hX2.out.cell hEL
            clear e0 e1
            cases hbt : s.testBit k
            · have hX5 : Hid (FillTo cs es (fun j => s.testBit j) (k + 1) (X.set (E : Int).toNat 2)) := hide (by
                have h := hF.out.step he.out hin.out hnd.out
                rw [show bitI (s.testBit k) = 2 by rw [hbt]; rfl] at h
                exact h)
              rw [hbt] at hdg
              clear hbt
              go_wp2_with fail
              go_roundw
              case rel => exact ⟨k + 1, _, by omega, by go_num, hX2, hX5, hF2⟩
              case measure => simp [intOf]; omega
            · have hX5 : Hid (FillTo cs es (fun j => s.testBit j) (k + 1) ((X.set (E : Int).toNat 2).set (E : Int).toNat 1)) := hide (by
                have h := (hF.out.two (z := 2) he.out hin.out hnd.out).step he.out hin.out hnd.out
                rw [show bitI (s.testBit k) = 1 by rw [hbt]; rfl] at h
                exact h)
              have hX3 := hide (hX2.out.set (by rw [List.length_set]; exact hXl.out) hEL 1)
              have hF3 := hide (hF2.out.set (m := mm) (o := E) rfl (.int .i64 1))
              rw [hbt] at hdg
              clear hbt
              go_wp2_with fail
              go_roundw
              case rel => exact ⟨k + 1, _, by omega, by go_num, hX3, hX5, hF3⟩
              case measure => simp [intOf]; omega
          · obtain rfl : m = k := by omega
            have hFm : FillTo cs (empC cs) (fun j => s.testBit j) (empC cs).length X := by
              have h := hF.out
              rw [HM.out, HES.out] at h
              exact h
            have hXE : Hid (X = fullB cs fun j => s.testBit j) := hide (fullB_eq hFm)
            obtain ⟨hok2, hz2⟩ := fill_ok hok hFm
            have hXL : X.length = L := by rw [hFm.len]; exact HLC.out
            have hXN : X.length = N * N := by have h := (okH_yes hok2).2.2.1; exact_mod_cast h
            have hcap : X.length ≤ cm := by rw [hXL]; exact own_cap HOW.out
            have HJ := hide (joiner_any N mm 0 cm X hN1 hN8 hXN hcap hz2 wr (hX.out.ints hXL))
            rw [hXL] at HJ
            obtain ⟨jv, hjv⟩ : ∃ jv, jv = jnP N X := ⟨_, rfl⟩
            rw [← hjv] at HJ
            have HJV : Hid (jv = jnF N cs s) := hide (by rw [hjv, hXE.out]; rfl)
            have hXF5 : Hid (X.length = cs.length ∧ ∀ c, 0 ≤ c → c ∉ es → hexAt X c = hexAt cs c) := hide ⟨hF.out.len, hF.out.out⟩
            obtain ⟨Y, hYl, hYr, hYv⟩ := hY.out
            have hmj : Hid (mm ≠ gj) := hide (by have := hmb.out; have := HGJ.out; omega)
            have hYr2 : Hid (RowI gj P Y wr) := hide (hYr.row (hFi.out.block gj (Nat.lt_of_lt_of_le hYr.lt (Nat.le_refl _)) (fun e => hmj.out e.symm)))
            have hYY := hide (And.intro hYl hYv)
            clear hFm hok2 hz2 hXN hcap hjv hYl hYr hYv hF hXL
            go_wp2_with fail
            refine (HJ.out).mono ?_
            rintro e w5 ⟨rfl, hb5⟩
            have hYr5 := hide (hYr2.out.row (hb5.block gj hYr2.out.lt))
            have hX5 := hide (hX.out.row (hb5.block mm hX.out.lt))
            have hFB5 := hide (hFB.out.trans (hFi.out.trans (FarB.of_below (S := fun _ => False) hb5) (fun j e _ => e.elim)) (fun j e _ => .inl e))
            obtain ⟨_, f5⟩ := hYr5.out.cell hlt
            have hYr6 := hide (hYr5.out.set hYY.out.1 hlt jv)
            have hX6 := hide (hX5.out.row (heap_setCell_other w5 ⟨gj, s, none⟩ mm (.int .i64 jv) hmj.out))
            have hFB6 := hide (hFB5.out.set (m := gj) (o := s) (.inr rfl) (.int .i64 jv))
            have hY6 : Hid (∃ Y : List Int, Y.length = P ∧ RowI gj P Y (w5.setCell ⟨gj, s, none⟩ (.int .i64 jv)) ∧ ∀ i, i < s + 1 → hexAt Y (i : Int) = jnF N cs i) := hide ⟨_, by rw [List.length_set]; exact hYY.out.1, hYr6.out, fun i hi => by
              rw [hexAt_set (by omega) (by have := hYY.out.1; omega) (i : Int) (by omega)]
              by_cases e : i = s
              · subst e; rw [if_pos rfl]; exact HJV.out
              · rw [if_neg (by omega)]; exact hYY.out.2 i (by omega)⟩
            clear hb5 c0 c1
            go_wp2_with fail
            go_roundw
            case rel => exact ⟨s + 1, X, by omega, by go_num, hX6, hXF5, hY6, hFB6⟩
            case measure => simp [intOf]; omega
      · obtain rfl : P = s := by omega
        obtain ⟨Y, hYl, hYr, hYv⟩ := hY.out
        have hYE : Hid (Y = jnL N cs) := hide (by
          have hPm : P = 2 ^ (empC cs).length := by rw [HPw.out, HM.out, HES.out]
          refine hexAt_ext (by rw [hYl, jnL_len]; exact hPm) (fun i hi => ?_)
          rw [hYv i (by omega)]
          have := jnL_get (n := (N : Int)) (cs := cs) (s := i) (by omega)
          simp [hexAt, this])
        have hln : Hid ((jnL N cs).length = P) := hide (by rw [← hYE.out]; exact hYl)
        have hBW : Hid (Below W.heap.size W wr) := hide (hB2.out.trans (((hb3.out.mono hB2.out.size)).trans (hFB.out.below (Nat.le_trans hB2.out.size hb3.out.size) (fun k hk => by
          have h1 := hB1.out.size
          have h2 := hB2.out.size
          rcases hk with rfl | rfl
          · have := hmb.out.1; omega
          · have := HGJ.out; omega))))
        have hown : Hid (wr.ownsRow W.heap.size 2 1 (.slice (some ⟨gj, 0, none⟩) P P) P ((jnL N cs).map intV)) := hide (rowIs_owns hYr (by have := HGJ.out; have := hB2.out.size; omega) (by unfold maxLen; omega) (by rw [List.length_map]; exact hln.out) (fun i hi => by
          rw [← hYE.out, List.getElem?_map, List.getElem?_eq_getElem (by omega)]
          simp [intV, hexAt, hYl, hi]))
        clear hY hYl hYr hYv
        go_wp2_with fail
        go_ret
        refine ⟨some ⟨gj, 0, none⟩, P, by simp [go_sem, hln.out], ?_, hBW.out⟩
        rw [hln.out]
        exact hown.out
end Go.Proofs.Ytogfoahejgmfgaa
