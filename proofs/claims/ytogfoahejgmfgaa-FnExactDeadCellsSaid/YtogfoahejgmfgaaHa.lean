/-
  Boards of hexagons: lists of the call's own; the cells of a player; the mover, both texts.
-/
import Derived.Test.YtogfoahejgmfgaaHk
import Derived.BigQuiet
import Derived.Deep.DeepCutAuto
namespace Go.Proofs.Ytogfoahejgmfgaa
open Go.RowKit
set_option linter.unusedVariables false

/-- What a call hands back that has made a list of its own. -/
def NewL (zs : List Int) (w : World) (e : Ending) (w' : World) : Prop :=
  ∃ a c, e = .returned (.slice a zs.length c) ∧ w'.ownsRow w.heap.size 2 1 (.slice a zs.length c) zs.length (zs.map intV) ∧ Below w.heap.size w w'
/-- A row of the call's own, in a world that has kept all below B. -/
structure Owns (B : Nat) (W0 w : World) (v : Value) (zs : List Int) : Prop where
  own : w.ownsRow B 2 1 v zs.length (zs.map intV)
  old : Below B W0 w
  size : B ≤ w.heap.size
theorem Owns.keep {B : Nat} {W0 w w' : World} {v : Value} {zs : List Int} (h : Owns B W0 w v zs) (hb : Below w.heap.size w w') : Owns B W0 w' v zs :=
  ⟨ownsRow_keep h.own hb, h.old.trans (hb.mono h.size), Nat.le_trans h.size hb.size⟩
theorem Owns.snoc {B : Nat} {W0 w2 w3 : World} {v v' : Value} {zs : List Int} {z : Int} (h : Owns B W0 w2 v zs) (hown : w3.ownsRow B 2 1 v' (zs.length + 1) (zs.map intV ++ [.int .i64 z]))
    (hg : (w2.alloc (.cells #[.int .i64 z] 2)).grownBy w3 v.ownBlock) : Owns B W0 w3 v' (zs ++ [z]) := by
  refine ⟨by simpa [intV] using hown, (h.old.alloc h.size _).grown hg (by have := h.size; simp; omega) (fun j hj => by have := (h.own.alloc (.cells #[Value.int .i64 z] 2)).lt j hj; omega), ?_⟩
  have := hg.size
  have := h.size
  simp at *
  omega
theorem Owns.nil {B : Nat} {W0 w : World} (h : Below B W0 w) (hs : B ≤ w.heap.size) : Owns B W0 w (.slice none 0 0) [] := ⟨World.ownsRow_nil _ _ _ _, h, hs⟩
theorem Owns.list {B : Nat} {W W0 w : World} {v : Value} {zs : List Int} (h : Owns B W0 w v zs) (h0 : Below W.heap.size W W0) (hB : W.heap.size ≤ B) : NewL zs W (.returned v) w := by
  obtain ⟨a, c, rfl⟩ := own_form h.own
  exact ⟨a, c, rfl, ownsRow_base h.own hB, h0.trans (h.old.mono hB)⟩
theorem Owns.listC {B : Nat} {W W0 w : World} {v : Value} {zs : List Int} (h : Owns B W0 w v zs) (h0 : Below W.heap.size W W0) (hB : W.heap.size ≤ B) (k : Int) : NewList (zs, k) W (.returned (.tuple #[v, .int .i64 k])) w := by
  obtain ⟨a, c, rfl⟩ := own_form h.own
  exact ⟨a, c, rfl, ownsRow_base h.own hB, h0.trans (h.old.mono hB)⟩
theorem alloc_row (w : World) (cs : Array Value) (t : TypeId) : (w.alloc (.cells cs t)).heap[w.heap.size]? = some (.cells cs t (0, 0)) := heap_alloc_new _ _

set_option maxRecDepth 100000 in
set_option maxHeartbeats 1000000 in
theorem cellsOf_any (n : Int) (a : Option Addr) (c : Nat) (cs : List Int) (p : Int) (W : World) (ha : IntsAt W a cs) (hl : cs.length ≤ 1048576) :
    Calls Try.prog 57 #[.agg #[.int .i64 n, .slice a cs.length c], .int .i64 p] W (NewL (cellsP cs p) W) := by
  obtain ⟨i0, hi0, hz0, hz1, hz2⟩ := info_parts Try.info2
  obtain ⟨W0, hW0⟩ : ∃ W0, W0 = W.alloc (.cells #[.int .i64 n, .slice a cs.length c] 28) := ⟨_, rfl⟩
  have hB0 : Hid (Below W.heap.size W W0) := by rw [hW0]; exact hide (below_alloc _ _)
  have hX0 : Hid (HexIn W0 W.heap.size n a cs.length c) := by rw [hW0]; exact hide (hexIn_new _ _ _ _ _ _)
  have HS0 : Hid (W.heap.size + 1 = W0.heap.size) := by rw [hW0]; exact hide (by simp)
  have hA0 := hide (ha.keep hB0.out)
  obtain ⟨c0, c1⟩ := hX0.out
  obtain ⟨q, hq⟩ : ∃ q : Int → Bool, q = fun c => hexAt cs c == p := ⟨_, rfl⟩
  have HPT : Hid (cellsP cs p = pre q cs.length) := hide (by rw [hq]; rfl)
  rw [HPT.out]
  have HQ : Hid (∀ (k : Nat) (z : Int), cs[k]? = some z → q (k : Int) = (z == p)) := hide (fun k z hz => by rw [hq]; show (hexAt cs (k : Int) == p) = _; rw [hexAt_get hz])
  clear ha hq HPT
  go_enter Try.func57, Try.ntmps57
  go_wp2_with fail
  rw [← hW0]
  have hO : Hid (Owns (W.heap.size + 1) W0 W0 (.slice none 0 0) (pre q 0)) := hide (Owns.nil (Below.refl _ _) (by rw [HS0.out]; exact Nat.le_refl _))
  clear hW0
  (try go_wp2_with fail)
  go_loopw [5, 11] (fun v i wr => ∃ (k : Nat) (v0 : Value), v0 = v ∧ k ≤ cs.length ∧ i = .int .i64 k ∧ Owns (W.heap.size + 1) W0 wr v (pre q k)) (fun _ i _ => cs.length - (intOf i).toNat)
  case atStart => exact ⟨0, _, rfl, Nat.zero_le _, rfl, hO.out⟩
  case round =>
    clear hO c0 c1
    obtain ⟨k, v, rfl, hk, rfl, hO⟩ := hrel
    by_cases hlt : k < cs.length
    · have hple := pre_le q k
      obtain ⟨b, off, z, rfl, hcell, hz⟩ := (IntsAt.keep hA0.out (by rw [← HS0.out]; exact hO.old)).one hlt
      have HO := hide hO
      have hown := hO.own
      have hsz := hO.size
      by_cases hp : z = p
      · have hd : (z == p) = true := by simp [hp]
        have HY := hide (pre_yes (p := q) (k := k) (by rw [HQ.out k z hz.out]; exact hd))
        clear hO hz
        go_wp2_with (at_builtin; refine wpList_append_own _ rfl _ _ 22 rfl (W.heap.size + 1) 2 i0 (.int .i64 0) 1 8 Try.underlying22 hi0 hz0 hz1 hz2 rfl (by decide) _ _ _ rfl (hown.alloc _) ⟨wr.heap.size, 0, none⟩ 1 1 [.int .i64 k] rfl rfl (cell_one_new _ _ _) (by simp [Value.oneCell']) (by unfold maxLen; omega) (by omega) (by simp; omega) ?_)
        intro v' w5 hown' hgrow _
        have HO5 := hide (HO.out.snoc (by simpa using hown') hgrow)
        clear hown' hgrow hown
        go_wp2_with fail
        go_roundw
        case rel => exact ⟨k + 1, _, rfl, by omega, by go_num, by rw [HY.out]; exact HO5.out⟩
        case measure => simp [intOf]; omega
      · have hd : (z == p) = false := by simp [hp]
        have HN := hide (pre_no (p := q) (k := k) (by rw [HQ.out k z hz.out]; exact hd))
        clear hO hz hown
        go_wp2_with fail
        go_roundw
        case rel => exact ⟨k + 1, _, rfl, by omega, by go_num, by rw [HN.out]; exact HO.out⟩
        case measure => simp [intOf]; omega
    · obtain rfl : k = cs.length := by omega
      have HL := hide (hO.list hB0.out (by omega))
      clear hO
      go_wp2_with fail
      go_ret
      exact HL.out

/-! ### the mover -/
def mvr (cs : List Int) : Int := if cntP cs 1 - cntP cs 2 = 0 then 1 else if cntP cs 1 - cntP cs 2 = 1 then 2 else 0
def mvrR (n : Int) (cs : List Int) : Int × Int := if okH n cs = true then (if mvr cs = 0 then (0, 5) else (mvr cs, 0)) else (0, 1)
theorem cntP_le (cs : List Int) (p : Int) : 0 ≤ cntP cs p ∧ cntP cs p ≤ cs.length := by
  unfold cntP
  have := cellsP_len cs p
  omega

theorem row3' {w : World} {b : Nat} {x y z : Value} {t : TypeId} (h : w.heap[b]? = some (.cells #[x, y, z] t (0, 0))) :
    w.cell? ⟨b, 0, none⟩ = some x ∧ w.cell? ⟨b, 1, none⟩ = some y ∧ w.cell? ⟨b, 2, none⟩ = some z ∧ w.frozen? ⟨b, 0, none⟩ = false ∧ w.frozen? ⟨b, 1, none⟩ = false ∧ w.frozen? ⟨b, 2, none⟩ = false :=
  ⟨(cell_of_row _ _ 0 _ _ (0, 0) h).trans rfl, (cell_of_row _ _ 1 _ _ (0, 0) h).trans rfl, (cell_of_row _ _ 2 _ _ (0, 0) h).trans rfl, frozen_of_row _ _ 0 _ _ h, frozen_of_row _ _ 1 _ _ h, frozen_of_row _ _ 2 _ _ h⟩
theorem box_set30 {w : World} {b : Nat} {x y z u : Value} {t : TypeId} (h : w.heap[b]? = some (.cells #[x, y, z] t (0, 0))) : (w.setCell ⟨b, 0, none⟩ u).heap[b]? = some (.cells #[u, y, z] t (0, 0)) := heap_setCell_same _ b 0 _ t u h
theorem box_set31 {w : World} {b : Nat} {x y z u : Value} {t : TypeId} (h : w.heap[b]? = some (.cells #[x, y, z] t (0, 0))) : (w.setCell ⟨b, 1, none⟩ u).heap[b]? = some (.cells #[x, u, z] t (0, 0)) := heap_setCell_same _ b 1 _ t u h
theorem box_set32 {w : World} {b : Nat} {x y z u : Value} {t : TypeId} (h : w.heap[b]? = some (.cells #[x, y, z] t (0, 0))) : (w.setCell ⟨b, 2, none⟩ u).heap[b]? = some (.cells #[x, y, u] t (0, 0)) := heap_setCell_same _ b 2 _ t u h
def cntTo (cs : List Int) (p : Int) (k : Nat) : Nat := (pre (fun c => hexAt cs c == p) k).length
theorem cntTo_le (cs : List Int) (p : Int) (k : Nat) : cntTo cs p k ≤ k := pre_le _ _
theorem cntTo_yes {cs : List Int} {p : Int} {k : Nat} (h : cs[k]? = some p) : cntTo cs p (k + 1) = cntTo cs p k + 1 := by
  unfold cntTo
  rw [pre_yes (by rw [hexAt_get h]; simp)]
  simp
theorem cntTo_no {cs : List Int} {p z : Int} {k : Nat} (h : cs[k]? = some z) (hne : z ≠ p) : cntTo cs p (k + 1) = cntTo cs p k := by
  unfold cntTo
  rw [pre_no (by rw [hexAt_get h]; simp [hne])]
theorem cntP_to (cs : List Int) (p : Int) : cntP cs p = (cntTo cs p cs.length : Nat) := rfl

set_option maxRecDepth 100000 in
set_option maxHeartbeats 2000000 in
theorem specMoverN_any (n : Int) (a : Option Addr) (c : Nat) (cs : List Int) (hz : ∀ z ∈ cs, 0 ≤ z ∧ z ≤ 2) (W : World) (ha : IntsAt W a cs) (hl : cs.length ≤ 1048576) :
    Calls Try.prog 52 #[.agg #[.int .i64 n, .slice a cs.length c]] W (RetB (.tuple #[.int .i64 (mvr cs), .int .i64 (cntP cs 0)]) W) := by
  obtain ⟨i0, hi0, hz0, hz1, hz2⟩ := info_parts Try.info2
  obtain ⟨W0, hW0⟩ : ∃ W0, W0 = W.alloc (.cells #[.int .i64 n, .slice a cs.length c] 28) := ⟨_, rfl⟩
  have hB0 : Hid (Below W.heap.size W W0) := by rw [hW0]; exact hide (below_alloc _ _)
  have hX0 : Hid (HexIn W0 W.heap.size n a cs.length c) := by rw [hW0]; exact hide (hexIn_new _ _ _ _ _ _)
  have HS0 : Hid (W0.heap.size = W.heap.size + 1) := by rw [hW0]; exact hide (by simp)
  have hA0 := hide (ha.keep hB0.out)
  obtain ⟨W1, hW1⟩ : ∃ W1, W1 = W0.alloc (.cells #[.int .i64 0, .int .i64 0, .int .i64 0] 2) := ⟨_, rfl⟩
  have hB1 : Hid (Below W0.heap.size W0 W1) := by rw [hW1]; exact hide (below_alloc _ _)
  have hg1 : Hid (W1.heap[W0.heap.size]? = some (.cells #[.int .i64 0, .int .i64 0, .int .i64 0] 2 (0, 0))) := by rw [hW1]; exact hide (alloc_row _ _ _)
  obtain ⟨c0, c1⟩ := hX0.out
  obtain ⟨r0, hr0⟩ : ∃ r0, r0 = cntP cs 0 := ⟨_, rfl⟩
  obtain ⟨r1, hr1⟩ : ∃ r1, r1 = mvr cs := ⟨_, rfl⟩
  rw [← hr0, ← hr1]
  have HR0 := hide hr0
  have HR1 := hide hr1
  have HZ := hide hz
  clear ha hr0 hr1 hz
  go_enter Try.func52, Try.ntmps52
  go_wp2_with fail
  rw [← hW0]
  (try go_wp2_with fail)
  rw [← hW1]
  rw [HS0.out] at hg1 hB1
  have hsz1 : W1.heap.size = W.heap.size + 2 := by rw [hW1]; simp [HS0.out]
  have hsx : Hid (W0.heap.size = W.heap.size + 1) := HS0
  clear hW0 hW1 c0 c1
  (try go_wp2_with fail)
  go_loopw [5] (fun i wr => ∃ k : Nat, k ≤ cs.length ∧ i = .int .i64 k ∧ Hid (wr.heap[W.heap.size + 1]? = some (.cells #[.int .i64 (cntTo cs 0 k), .int .i64 (cntTo cs 1 k), .int .i64 (cntTo cs 2 k)] 2 (0, 0))) ∧ Below (W.heap.size + 1) W0 wr) (fun i _ => cs.length - (intOf i).toNat)
  case atStart => exact ⟨0, Nat.zero_le _, rfl, hg1, hB1.out⟩
  case round =>
    obtain ⟨k, hk, rfl, hg, hB⟩ := hrel
    have hXr : HexIn wr W.heap.size n a cs.length c := hX0.out.below hB (by omega)
    obtain ⟨c0, c1⟩ := hXr
    obtain ⟨d0, d1, d2, f0, f1, f2⟩ := row3' hg.out
    by_cases hlt : k < cs.length
    · obtain ⟨b, off, z, rfl, hcell, hz⟩ := (IntsAt.keep hA0.out (by rw [hsx.out]; exact hB)).one hlt
      have HB := hide hB
      have l0 := cntTo_le cs 0 k
      have l1 := cntTo_le cs 1 k
      have l2 := cntTo_le cs 2 k
      have hzr := HZ.out z (mem_of_get hz.out)
      clear hB
      rcases (by omega : z = 0 ∨ z = 1 ∨ z = 2) with rfl | rfl | rfl
      · have h0 := hide (cntTo_yes hz.out)
        have h1 := hide (cntTo_no (p := 1) hz.out (by decide))
        have h2 := hide (cntTo_no (p := 2) hz.out (by decide))
        have hset := hide (box_set30 (u := .int .i64 ((cntTo cs 0 k : Int) + 1)) hg.out)
        have hBs := hide (HB.out.setCell (p := ⟨W.heap.size + 1, 0, none⟩) (Nat.le_refl _) (.int .i64 ((cntTo cs 0 k : Int) + 1)))
        clear hz hzr
        go_wp2_with fail
        go_roundw
        case rel => exact ⟨k + 1, by omega, by go_num, by rw [h0.out, h1.out, h2.out]; exact hset, hBs.out⟩
        case measure => simp [intOf]; omega
      · have h0 := hide (cntTo_no (p := 0) hz.out (by decide))
        have h1 := hide (cntTo_yes hz.out)
        have h2 := hide (cntTo_no (p := 2) hz.out (by decide))
        have hset := hide (box_set31 (u := .int .i64 ((cntTo cs 1 k : Int) + 1)) hg.out)
        have hBs := hide (HB.out.setCell (p := ⟨W.heap.size + 1, 1, none⟩) (Nat.le_refl _) (.int .i64 ((cntTo cs 1 k : Int) + 1)))
        clear hz hzr
        go_wp2_with fail
        go_roundw
        case rel => exact ⟨k + 1, by omega, by go_num, by rw [h0.out, h1.out, h2.out]; exact hset, hBs.out⟩
        case measure => simp [intOf]; omega
      · have h0 := hide (cntTo_no (p := 0) hz.out (by decide))
        have h1 := hide (cntTo_no (p := 1) hz.out (by decide))
        have h2 := hide (cntTo_yes hz.out)
        have hset := hide (box_set32 (u := .int .i64 ((cntTo cs 2 k : Int) + 1)) hg.out)
        have hBs := hide (HB.out.setCell (p := ⟨W.heap.size + 1, 2, none⟩) (Nat.le_refl _) (.int .i64 ((cntTo cs 2 k : Int) + 1)))
        clear hz hzr
        go_wp2_with fail
        go_roundw
        case rel => exact ⟨k + 1, by omega, by go_num, by rw [h0.out, h1.out, h2.out]; exact hset, hBs.out⟩
        case measure => simp [intOf]; omega
    · obtain rfl : k = cs.length := by omega
      obtain ⟨x0, hx0⟩ : ∃ x, x = cntTo cs 0 cs.length := ⟨_, rfl⟩
      obtain ⟨x1, hx1⟩ : ∃ x, x = cntTo cs 1 cs.length := ⟨_, rfl⟩
      obtain ⟨x2, hx2⟩ : ∃ x, x = cntTo cs 2 cs.length := ⟨_, rfl⟩
      have l1 : x1 ≤ cs.length := by rw [hx1]; exact cntTo_le cs 1 _
      have l2 : x2 ≤ cs.length := by rw [hx2]; exact cntTo_le cs 2 _
      have hR0 : Hid (r0 = (x0 : Int)) := hide (by rw [HR0.out, cntP_to, hx0])
      have hR1 : Hid (r1 = if (x1 : Int) - x2 = 0 then 1 else if (x1 : Int) - x2 = 1 then 2 else 0) := hide (by rw [HR1.out, hx1, hx2]; rfl)
      rw [← hx0] at d0
      rw [← hx1] at d1
      rw [← hx2] at d2
      have hw : wrap64 ((x1 : Int) - x2) = (x1 : Int) - x2 := by unfold wrap64; omega
      have hBf := hide (hB0.out.trans (hB.mono (by omega)))
      clear hx0 hx1 hx2 hg hB
      by_cases h0 : (x1 : Int) - x2 = 0
      · have e0 : ((x1 : Int) - x2 == 0) = true := by simp [h0]
        go_wp2_with fail
        go_quiet (fail)
        go_wp2_with fail
        go_quiet (fail)
        go_wp2_with fail
        go_ret2
        exact ⟨by simp [go_sem]; exact ⟨by rw [hR1.out, if_pos h0], by rw [hR0.out]⟩, by first | exact hBf.out | (repeat (first | exact hBf.out | refine Below.drew ?_ | refine below_drewN ?_ _))⟩
      · have e0 : ((x1 : Int) - x2 == 0) = false := by simp [h0]
        by_cases h1 : (x1 : Int) - x2 = 1
        · have e1 : ((x1 : Int) - x2 == 1) = true := by simp [h1]
          go_wp2_with fail
          go_quiet (fail)
          go_wp2_with fail
          go_quiet (fail)
          go_wp2_with fail
          go_ret2
          exact ⟨by simp [go_sem]; exact ⟨by rw [hR1.out, if_neg h0, if_pos h1], by rw [hR0.out]⟩, by first | exact hBf.out | (repeat (first | exact hBf.out | refine Below.drew ?_ | refine below_drewN ?_ _))⟩
        · have e1 : ((x1 : Int) - x2 == 1) = false := by simp [h1]
          go_wp2_with fail
          go_quiet (fail)
          go_wp2_with fail
          go_quiet (fail)
          go_wp2_with fail
          go_ret2
          exact ⟨by simp [go_sem]; exact ⟨by rw [hR1.out, if_neg h0, if_neg h1], by rw [hR0.out]⟩, by first | exact hBf.out | (repeat (first | exact hBf.out | refine Below.drew ?_ | refine below_drewN ?_ _))⟩

end Go.Proofs.Ytogfoahejgmfgaa
