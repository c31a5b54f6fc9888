/-
  Ends of dots and boxes: an ending out of strands, the program's text.
-/
import Derived.Test.YtbfpbkbhikogiaaPa
import Derived.Deep.LoopGhost
namespace Go.Proofs.Ytbfpbkbhikogiaa
open Go.RowKit
set_option linter.unusedVariables false

def chS (ss : List (Int × Int)) : List Int := (ss.filter fun s => !decide (s.1 = 1)).map (·.2)
def loS (ss : List (Int × Int)) : List Int := (ss.filter fun s => decide (s.1 = 1)).map (·.2)
theorem chS_yes {ss : List (Int × Int)} {x y : Int} (h : x ≠ 1) : chS (ss ++ [(x, y)]) = chS ss ++ [y] ∧ loS (ss ++ [(x, y)]) = loS ss := by
  unfold chS loS
  simp [List.filter_append, h]
theorem loS_yes {ss : List (Int × Int)} {x y : Int} (h : x = 1) : chS (ss ++ [(x, y)]) = chS ss ∧ loS (ss ++ [(x, y)]) = loS ss ++ [y] := by
  unfold chS loS
  simp [List.filter_append, h]
theorem chS_strs (cs ls : List Int) : chS (strs cs ls) = cs ∧ loS (strs cs ls) = ls := by
  have hc : ∀ l : List Int, (l.map fun b => ((0 : Int), b)).filter (fun s => !decide (s.1 = 1)) = l.map fun b => ((0 : Int), b) := fun l => by
    rw [List.filter_eq_self]
    intro s hs
    obtain ⟨b, _, rfl⟩ := List.mem_map.1 hs
    rfl
  have hc2 : ∀ l : List Int, (l.map fun b => ((0 : Int), b)).filter (fun s => decide (s.1 = 1)) = [] := fun l => by
    rw [List.filter_eq_nil_iff]
    intro s hs
    obtain ⟨b, _, rfl⟩ := List.mem_map.1 hs
    simp
  have hl : ∀ l : List Int, (l.map fun b => ((1 : Int), b)).filter (fun s => decide (s.1 = 1)) = l.map fun b => ((1 : Int), b) := fun l => by
    rw [List.filter_eq_self]
    intro s hs
    obtain ⟨b, _, rfl⟩ := List.mem_map.1 hs
    rfl
  have hl2 : ∀ l : List Int, (l.map fun b => ((1 : Int), b)).filter (fun s => !decide (s.1 = 1)) = [] := fun l => by
    rw [List.filter_eq_nil_iff]
    intro s hs
    obtain ⟨b, _, rfl⟩ := List.mem_map.1 hs
    simp
  have hm : ∀ (k : Int) (l : List Int), (l.map (fun b => (k, b))).map (·.2) = l := by
    intro k l
    induction l with
    | nil => rfl
    | cons x r ih => simp only [List.map_cons, ih]
  unfold chS loS strs
  rw [List.filter_append, List.filter_append, hc, hc2, hl, hl2, List.append_nil, List.nil_append, hm, hm]
  exact ⟨rfl, rfl⟩
theorem chS_len (ss : List (Int × Int)) : (chS ss).length ≤ ss.length ∧ (loS ss).length ≤ ss.length := by
  unfold chS loS
  rw [List.length_map, List.length_map]
  exact ⟨List.length_filter_le _ _, List.length_filter_le _ _⟩

/-- An ending of the call's own. -/
def NewEnd1 (xs ys : List Int) (W : World) (e : Ending) (W' : World) : Prop :=
  ∃ a c a' c', e = .returned (.agg #[.slice a xs.length c, .slice a' ys.length c']) ∧ W'.ownsRow W.heap.size 2 1 (.slice a xs.length c) xs.length (xs.map intV) ∧ W'.ownsRow W.heap.size 2 1 (.slice a' ys.length c') ys.length (ys.map intV) ∧ Ap (.slice a xs.length c) (.slice a' ys.length c') ∧ Below W.heap.size W W'

set_option maxRecDepth 100000 in
set_option maxHeartbeats 4000000 in
theorem endingOf_any (a : Option Addr) (c : Nat) (ss : List (Int × Int)) (W : World) (hs : SliceS W a ss) (hl8 : ss.length ≤ 8) :
    Calls Try.prog 62 #[.slice a ss.length c] W (NewEnd1 (chS ss) (loS ss) W) := by
  obtain ⟨i0, hi, hz0, hz1, hz2⟩ := info_parts Try.info2
  obtain ⟨W0, hW0⟩ : ∃ W0, W0 = (W.alloc (.cells #[.slice none 0 0, .slice none 0 0] 26)).alloc (.cells #[.slice none 0 0, .slice none 0 0] 26) := ⟨_, rfl⟩
  have hB0 : Hid (Below W.heap.size W W0) := by rw [hW0]; exact hide ((below_alloc _ _).alloc (by simp) _)
  have hs0 : W0.heap.size = W.heap.size + 2 := by rw [hW0]; simp
  have hR0 : W0.heap[W.heap.size]? = some (.cells #[.slice none 0 0, .slice none 0 0] 26 (0, 0)) := by
    rw [hW0, Below.heap_alloc _ _ _ (by simp)]
    exact heap_alloc_new W _
  have hE0 : W0.heap[W.heap.size + 1]? = some (.cells #[.slice none 0 0, .slice none 0 0] 26 (0, 0)) := by
    have := heap_alloc_new (W.alloc (.cells #[.slice none 0 0, .slice none 0 0] 26)) (.cells #[.slice none 0 0, .slice none 0 0] 26 (0, 0))
    rw [hW0]
    simpa using this
  obtain ⟨Bx, hBx⟩ : ∃ Bx, Bx = W.heap.size + 1 := ⟨_, rfl⟩
  have hP0 : Hid (PairV W0 Bx Bx (.slice none ([] : List Int).length 0) [] (.slice none ([] : List Int).length 0) []) := hide
    ⟨by rw [hBx]; exact hE0, World.ownsRow_nil _ _ _ _, World.ownsRow_nil _ _ _ _, fun g h1 h2 => by simp [Value.ownBlock] at h1, Nat.le_refl _⟩
  have hW0lo : Hid (Below Bx W0 W0) := hide (Below.refl _ _)
  have HS := hide hs
  have HSL : Hid (∀ V, Below Bx W0 V → SliceS V a ss ∧ Bx < V.heap.size) := hide (fun V hV =>
    ⟨hs.keep (hB0.out.trans (hV.mono (by omega))), by have := hV.size; omega⟩)
  have HFIN : Hid (∀ (V : World) (v1 v2 : Value) (xs ys : List Int), Below Bx W0 V → PairV V Bx Bx v1 xs v2 ys → ∃ a1 k1 a2 k2, v1 = .slice a1 xs.length k1 ∧ v2 = .slice a2 ys.length k2 ∧ V.cell? ⟨Bx, 0, none⟩ = some v1 ∧ V.cell? ⟨Bx, 1, none⟩ = some v2 ∧ V.heap[W.heap.size]? = some (.cells #[.slice none 0 0, .slice none 0 0] 26 (0, 0)) ∧
      NewEnd1 xs ys W (.returned (.agg #[v1, v2])) ((V.setCell ⟨W.heap.size, 0, none⟩ v1).setCell ⟨W.heap.size, 1, none⟩ v2)) := hide (fun V v1 v2 xs ys hV hP => by
    obtain ⟨a1, k1, rfl⟩ := own_form hP.own1
    obtain ⟨a2, k2, rfl⟩ := own_form hP.own2
    have hR := (hV.block W.heap.size (by omega)).trans hR0
    refine ⟨a1, k1, a2, k2, rfl, rfl, (cell_of_row _ _ 0 _ _ (0, 0) hP.box).trans rfl, (cell_of_row _ _ 1 _ _ (0, 0) hP.box).trans rfl, hR, ⟨a1, k1, a2, k2, rfl, ?_, ?_, hP.ap, ?_⟩⟩
    · exact ownsRow_base (ownsRow_setCell_below (ownsRow_setCell_below hP.own1 (show W.heap.size < Bx by omega) _) (show W.heap.size < Bx by omega) _) (by omega)
    · exact ownsRow_base (ownsRow_setCell_below (ownsRow_setCell_below hP.own2 (show W.heap.size < Bx by omega) _) (show W.heap.size < Bx by omega) _) (by omega)
    · exact ((hB0.out.trans (hV.mono (by omega))).setCell (p := ⟨W.heap.size, 0, none⟩) (by simp) _).setCell (p := ⟨W.heap.size, 1, none⟩) (by simp) _)
  obtain ⟨n, hn⟩ : ∃ n, n = ss.length := ⟨_, rfl⟩
  rw [← hn] at hl8 ⊢
  have HN := hide hn
  clear hs hR0 hE0 hs0 hn
  go_enter Try.func62, Try.ntmps62
  go_wp2_with fail
  rw [← hW0, ← hBx]
  clear hW0 hBx
  go_loopg [8] n (fun g2 i wr => ∃ (k : Nat) (xs ys : List Int) (v1 v2 : Value), k + g2 = n ∧ i = .int .i64 k ∧ Hid (xs = chS (ss.take k)) ∧ Hid (ys = loS (ss.take k)) ∧ PairV wr Bx Bx v1 xs v2 ys ∧ Below Bx W0 wr)
  case atStart => exact ⟨0, [], [], _, _, by omega, rfl, by rw [List.take_zero]; rfl, by rw [List.take_zero]; rfl, hP0.out, hW0lo.out⟩
  case round =>
    clear hP0
    obtain ⟨k, xs, ys, v1, v2, hk, rfl, hxs, hys, hPr, hBr⟩ := hrel
    obtain ⟨a1, k1, rfl⟩ := own_form hPr.own1
    obtain ⟨a2, k2, rfl⟩ := own_form hPr.own2
    have hP := hide hPr
    have HBR := hide hBr
    have hIN := HSL.out wr hBr
    have q0 : wr.cell? ⟨Bx, 0, none⟩ = some (.slice a1 xs.length k1) := (cell_of_row _ _ 0 _ _ (0, 0) hPr.box).trans rfl
    have q1 : wr.cell? ⟨Bx, 1, none⟩ = some (.slice a2 ys.length k2) := (cell_of_row _ _ 1 _ _ (0, 0) hPr.box).trans rfl
    have hBl : Bx < wr.heap.size := hIN.2
    cases gk with
    | zero =>
      obtain rfl : k = n := by omega
      obtain ⟨b1, j1, b2, j2, e1', e2', t0, t1, hR, hN⟩ := HFIN.out wr _ _ xs ys HBR.out hP.out
      obtain ⟨d0, d1, g0, g1⟩ := row2' hR
      have hx : xs = chS ss := by rw [hxs.out, HN.out, List.take_length]
      have hy : ys = loS ss := by rw [hys.out, HN.out, List.take_length]
      have hres : Hid (NewEnd1 (chS ss) (loS ss) W _ _) := hide (by rw [← hx, ← hy]; exact hN)
      have hz2' := hide (box_set2' (x' := .slice a1 xs.length k1) (y' := .slice a2 ys.length k2) hR)
      have HXY := hide (And.intro hx hy)
      clear hPr hBr hIN hR hN e1' e2' hx hy
      go_wp2_with fail
      obtain ⟨j0, j1', _⟩ := row2' hz2'.out
      refine bodyPost_ret ?_ rfl hres.out
      simp [results, Try.results62, go_sem, j0, j1']
    | succ g2 =>
      have hlt : k < n := by omega
      obtain ⟨g, x, y, rfl, e0, e1, hz⟩ := hIN.1.one (k := k) (by rw [← HN.out]; exact hlt)
      have hxl : xs.length ≤ 8 := by rw [hxs.out]; have := (chS_len (ss.take k)).1; have := List.length_take_le k ss; omega
      have hyl : ys.length ≤ 8 := by rw [hys.out]; have := (chS_len (ss.take k)).2; have := List.length_take_le k ss; omega
      have htk : ss.take (k + 1) = ss.take k ++ [(x, y)] := by rw [List.take_add_one, hz.out]; rfl
      have HTK := hide htk
      have hwa : Below wr.heap.size wr ((wr.alloc (.cells #[.int .i64 x, .int .i64 y] 65)).alloc (.cells #[.int .i64 y] 2)) := (below_alloc _ _).alloc (by simp) _
      have HWA := hide hwa
      clear hPr hBr hIN htk hwa
      by_cases hx1 : x = 1
      · subst hx1
        have hn1 : Hid (xs = chS (ss.take (k + 1)) ∧ ys ++ [y] = loS (ss.take (k + 1))) := hide (by rw [HTK.out, (loS_yes rfl).1, (loS_yes rfl).2, ← hxs.out, ← hys.out]; exact ⟨rfl, rfl⟩)
        have hown := ownsRow_keep hP.out.own2 HWA.out
        go_wp2_with (at_builtin; refine wpList_append_lies _ rfl _ _ 24 rfl Bx 2 i0 (.int .i64 0) 1 8 Try.underlying24 hi hz0 hz1 hz2 rfl (by decide) _ _ _ rfl hown ⟨wr.heap.size + 1, 0, none⟩ 1 1 [.int .i64 y] rfl rfl (World.news_of_block (by have := heap_alloc_new (wr.alloc (.cells #[.int .i64 1, .int .i64 y] 65)) (.cells #[.int .i64 y] 2 (0, 0)); simpa using this)) (by simp [Value.oneCell']) (by omega) (by unfold maxLen; omega) (by omega) (by simp; omega) (wr.heap.size + 1 + 1) (by simp) ?_; intro g' cap w1 hown1 hgrow hat hlt1; have hG := hP.out.grow' HWA.out hown1 hgrow hat (by omega); have hcx : w1.cell? ⟨Bx, 1, none⟩ = some (.slice a2 ys.length k2) := (cell_of_row w1 Bx 1 _ _ (0, 0) hG.1).trans rfl; have hfx : w1.frozen? ⟨Bx, 1, none⟩ = false := frozen_of_row w1 Bx 1 _ _ hG.1; have HG := hide hG.2; clear hG hown1 hgrow hat hown)
        have HB2 := hide (HBR.out.trans HG.out.2)
        (try go_wp2_with fail)
        go_roundg g2
        case rel => exact ⟨k + 1, xs, ys ++ [y], _, _, by omega, by go_num, hn1.out.1, hn1.out.2, HG.out.1, HB2.out⟩
        case measure => omega
      · have hxf : (x == 1) = false := by simpa using hx1
        have hn1 : Hid (xs ++ [y] = chS (ss.take (k + 1)) ∧ ys = loS (ss.take (k + 1))) := hide (by rw [HTK.out, (chS_yes hx1).1, (chS_yes hx1).2, ← hxs.out, ← hys.out]; exact ⟨rfl, rfl⟩)
        have hown := ownsRow_keep hP.out.own1 HWA.out
        go_wp2_with (at_builtin; refine wpList_append_lies _ rfl _ _ 24 rfl Bx 2 i0 (.int .i64 0) 1 8 Try.underlying24 hi hz0 hz1 hz2 rfl (by decide) _ _ _ rfl hown ⟨wr.heap.size + 1, 0, none⟩ 1 1 [.int .i64 y] rfl rfl (World.news_of_block (by have := heap_alloc_new (wr.alloc (.cells #[.int .i64 x, .int .i64 y] 65)) (.cells #[.int .i64 y] 2 (0, 0)); simpa using this)) (by simp [Value.oneCell']) (by omega) (by unfold maxLen; omega) (by omega) (by simp; omega) (wr.heap.size + 1 + 1) (by simp) ?_; intro g' cap w1 hown1 hgrow hat hlt1; have hG := hP.out.grow HWA.out hown1 hgrow hat (by omega); have hcx : w1.cell? ⟨Bx, 0, none⟩ = some (.slice a1 xs.length k1) := (cell_of_row w1 Bx 0 _ _ (0, 0) hG.1).trans rfl; have hfx : w1.frozen? ⟨Bx, 0, none⟩ = false := frozen_of_row w1 Bx 0 _ _ hG.1; have HG := hide hG.2; clear hG hown1 hgrow hat hown)
        have HB2 := hide (HBR.out.trans HG.out.2)
        (try go_wp2_with fail)
        go_roundg g2
        case rel => exact ⟨k + 1, xs ++ [y], ys, _, _, by omega, by go_num, hn1.out.1, hn1.out.2, HG.out.1, HB2.out⟩
        case measure => omega
end Go.Proofs.Ytbfpbkbhikogiaa
