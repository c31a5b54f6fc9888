/-
  moveLists: addMove, endPlace and game: rows of moves that share one block.
-/
import Derived.Test.YtlgogpphlnogoaaLeaves
import Derived.Test.YtlgogpphlnogoaaEnds0
import Derived.Deep.AppendLies
import Derived.Deep.RegionHeld3
import Derived.Deep.RegionLaw
namespace Go.Proofs.Ytlgogpphlnogoaa
open Go.RowKit

theorem Try.infoInt : (Try.prog.info? 3).map (fun i => (i.zero, i.size, i.bytes)) = some (some (.int .i64 0), 1, 8) := by kernel_rfl

/-- Rows of two types never share a block. -/
theorem own_apart {w : World} {b1 b2 : Nat} {e1 e2 : TypeId} {v1 v2 : Value} {n1 n2 : Nat} {xs1 xs2 : List Value} (h1 : w.ownsRow b1 e1 1 v1 n1 xs1) (h2 : w.ownsRow b2 e2 1 v2 n2 xs2) (hne : e1 ≠ e2) : v1.ownBlock = none ∨ v1.ownBlock ≠ v2.ownBlock := by
  rcases h1.2 with ⟨rfl, _⟩ | ⟨g1, c1, cur1, rfl, _, hg1, _⟩
  · exact .inl rfl
  · rcases h2.2 with ⟨rfl, _⟩ | ⟨g2, c2, cur2, rfl, _, hg2, _⟩
    · exact .inr (by simp [Value.ownBlock])
    · refine .inr ?_
      simp only [Value.ownBlock, ne_eq, Option.some.injEq]
      rintro rfl
      rw [hg1] at hg2
      simp at hg2
      exact hne hg2.2

/-- The box at Bx holds a row of numbers and the places where the lists end. -/
def Lists (w : World) (lo Bx : Nat) (row stops : List Int) : Prop :=
  ∃ ar cr st cs, w.heap[Bx]? = some (.cells #[.slice ar row.length cr, .slice st stops.length cs] 70 (0, 0)) ∧
    w.ownsRow lo 2 1 (.slice ar row.length cr) row.length (row.map intV) ∧ w.ownsRow lo 3 1 (.slice st stops.length cs) stops.length (stops.map intV)
theorem Lists.keep {w w' : World} {lo Bx : Nat} {row stops : List Int} (h : Lists w lo Bx row stops) (hb : Below w.heap.size w w') : Lists w' lo Bx row stops := by
  obtain ⟨ar, cr, st, cs, h1, h2, h3⟩ := h
  exact ⟨ar, cr, st, cs, (hb.block Bx (Array.getElem?_eq_some_iff.1 h1).1).trans h1, ownsRow_keep h2 hb, ownsRow_keep h3 hb⟩

def Moved (w : World) (lo Bx : Nat) (row stops : List Int) (e : Ending) (w' : World) : Prop := (∃ v, e = .returned v) ∧ Lists w' lo Bx row stops ∧ Below Bx w w'

set_option maxRecDepth 100000 in
set_option maxHeartbeats 1000000 in
theorem addMove_any (lo Bx : Nat) (row stops : List Int) (x : Int) (w : World) (h : Lists w lo Bx row stops) (hlo : Bx < lo) (hl : row.length ≤ 1000000) (hlo2 : lo ≤ w.heap.size) :
    Calls Try.prog 63 #[.pointer (some ⟨Bx, 0, none⟩), .int .i64 x] w (Moved w lo Bx (row ++ [x]) stops) := by
  obtain ⟨i0, hi, hz0, hz1, hz2⟩ := info_parts Try.info2
  obtain ⟨ar, cr, st, cs, hbox, hr, hs⟩ := h
  have hc0 : w.cell? ⟨Bx, 0, none⟩ = some (.slice ar row.length cr) := by rw [cell_of_row w Bx 0 _ _ (0, 0) hbox]; rfl
  have hlt : Bx < w.heap.size := by omega
  have HBOX := hide hbox
  have HS := hide hs
  clear hbox hs
  go_enter Try.func63, Try.ntmps63
  go_wp2_with (at_builtin; refine wpList_append_own _ rfl _ _ 26 rfl lo 2 i0 (.int .i64 0) 1 8 Try.underlying26 hi hz0 hz1 hz2 rfl (by decide) _ _ _ rfl (hr.alloc _) ⟨w.heap.size, 0, none⟩ 1 1 [.int .i64 x] rfl rfl (cell_one_new _ _ _) (by simp [Value.oneCell']) (by unfold maxLen; omega) (by omega) (by simp; omega) ?_)
  intro v' w4 hown' hgrow _
  have hB4 : Below lo w w4 := ((Below.refl _ _).alloc hlo2 _).grown hgrow (by simp; omega) (fun j hj => ((hr.alloc (.cells #[Value.int .i64 x] 2)).lt j hj).1)
  have hbox4 : w4.heap[Bx]? = some (.cells #[.slice ar row.length cr, .slice st stops.length cs] 70 (0, 0)) := (hB4.block Bx hlo).trans HBOX.out
  have hc4 : w4.cell? ⟨Bx, 0, none⟩ = some (.slice ar row.length cr) := by rw [cell_of_row w4 Bx 0 _ _ (0, 0) hbox4]; rfl
  have hf4 : w4.frozen? ⟨Bx, 0, none⟩ = false := frozen_of_row w4 Bx 0 _ _ hbox4
  have hs4 : w4.ownsRow lo 3 1 (.slice st stops.length cs) stops.length (stops.map intV) := by
    refine (HS.out.alloc (.cells #[Value.int .i64 x] 2)).kept hgrow ?_
    have := own_apart HS.out hr (by decide)
    exact this
  obtain ⟨a', c', rfl⟩ := own_form hown'
  have hbox5 := heap_setCell_same w4 Bx 0 _ _ (.slice a' (row.length + 1) c') hbox4
  have hfin : Hid (Lists (w4.setCell ⟨Bx, 0, none⟩ (.slice a' (row.length + 1) c')) lo Bx (row ++ [x]) stops ∧ Below Bx w (w4.setCell ⟨Bx, 0, none⟩ (.slice a' (row.length + 1) c'))) := by
    refine hide ⟨⟨a', c', st, cs, ?_, ?_, ?_⟩, (hB4.mono (Nat.le_of_lt hlo)).setCell (p := ⟨Bx, 0, none⟩) (Nat.le_refl _) _⟩
    · simpa using hbox5
    · have := ownsRow_setCell_below (a := ⟨Bx, 0, none⟩) hown' hlo (.slice a' (row.length + 1) c')
      simpa [intV] using this
    · exact ownsRow_setCell_below (a := ⟨Bx, 0, none⟩) hs4 hlo _
  clear hbox4 hbox5 hs4 hown' hgrow hB4 hr hc0
  go_wp2_with fail
  go_end0
  exact ⟨⟨_, rfl⟩, hfin.out⟩

set_option maxRecDepth 100000 in
set_option maxHeartbeats 1000000 in
theorem endPlace_any (lo Bx : Nat) (row stops : List Int) (w : World) (h : Lists w lo Bx row stops) (hlo : Bx < lo) (_hl : row.length ≤ 1000000) (hl2 : stops.length ≤ 1000000) (hlo2 : lo ≤ w.heap.size) :
    Calls Try.prog 64 #[.pointer (some ⟨Bx, 0, none⟩)] w (Moved w lo Bx row (stops ++ [(row.length : Int)])) := by
  obtain ⟨i0, hi, hz0, hz1, hz2⟩ := info_parts Try.infoInt
  obtain ⟨ar, cr, st, cs, hbox, hr, hs⟩ := h
  have hc0 : w.cell? ⟨Bx, 0, none⟩ = some (.slice ar row.length cr) := by rw [cell_of_row w Bx 0 _ _ (0, 0) hbox]; rfl
  have hc1 : w.cell? ⟨Bx, 1, none⟩ = some (.slice st stops.length cs) := by rw [cell_of_row w Bx 1 _ _ (0, 0) hbox]; rfl
  have hlt : Bx < w.heap.size := by omega
  have hd : Below w.heap.size w w.drew := Below.drew (Below.refl _ _)
  have hc0d := cell_keep hd hc0
  have hc1d := cell_keep hd hc1
  have hsd := ownsRow_keep hs hd
  have hrd := ownsRow_keep hr hd
  have hboxd := (hd.block Bx hlt).trans hbox
  have HBOX := hide hboxd
  have HR := hide hr
  clear hbox hr hrd hboxd hc0d hc1d hsd
  go_enter Try.func64, Try.ntmps64
  go_wp2_with fail
  go_region_law ((refine step_append_lies _ (by rfl) _ _ _ (by rfl) lo 3 i0 (.int .i64 0) 1 8 Try.underlying68 hi hz0 hz1 hz2 rfl (by decide) _ _ _ (by rfl) (ownsRow_keep hs (by first | exact (((Below.refl _ _).alloc (Nat.le_refl _) _).drew) | exact (((Below.refl _ _).drew).alloc (by simp) _))) ⟨w.heap.size, 0, none⟩ 1 1 [.int .i64 row.length] (by rfl) rfl (World.news_of_block (heap_alloc_new w _)) (by simp [Value.oneCell']) (by omega) (by unfold maxLen; omega) (by omega) (by simp; omega) (w.heap.size + 1) (by simp) ?_; intro g cap w1 hown1 hgrow hat hlt1; have hB1 : Below lo w w1 := (by first | exact ((((Below.refl _ _).alloc hlo2 _).drew).grown hgrow (by simp; omega) (fun j hj => (hs.lt j hj).1)) | exact ((((Below.refl _ _).drew).alloc hlo2 _).grown hgrow (by simp; omega) (fun j hj => (hs.lt j hj).1))); have hbox1 : w1.heap[Bx]? = some (.cells #[.slice ar row.length cr, .slice st stops.length cs] 70 (0, 0)) := (hB1.block Bx hlo).trans HBOX.out; have hc11 : w1.cell? ⟨Bx, 1, none⟩ = some (.slice st stops.length cs) := (by rw [cell_of_row w1 Bx 1 _ _ (0, 0) hbox1]; rfl); have hf11 : w1.frozen? ⟨Bx, 1, none⟩ = false := frozen_of_row w1 Bx 1 _ _ hbox1))
  all_goals
    have hr1 : w1.ownsRow lo 2 1 (.slice ar row.length cr) row.length (row.map intV) := (ownsRow_keep HR.out (by first | exact (((Below.refl _ _).alloc (Nat.le_refl _) _).drew) | exact (((Below.refl _ _).drew).alloc (by simp) _))).kept hgrow (own_apart HR.out hs (by decide))
    have hbox5 := heap_setCell_same w1 Bx 1 _ _ (.slice (some ⟨g, 0, none⟩) (stops.length + 1) cap) hbox1
    have hfin : Moved w lo Bx row (stops ++ [(row.length : Int)]) (.returned (.tuple #[])) (w1.setCell ⟨Bx, 1, none⟩ (.slice (some ⟨g, 0, none⟩) (stops.length + 1) cap)) := by
      refine ⟨⟨_, rfl⟩, ⟨ar, cr, some ⟨g, 0, none⟩, cap, ?_, ownsRow_setCell_below (a := ⟨Bx, 1, none⟩) hr1 hlo _, ?_⟩, (hB1.mono (Nat.le_of_lt hlo)).setCell (p := ⟨Bx, 1, none⟩) (Nat.le_refl _) _⟩
      · simpa using hbox5
      · have := ownsRow_setCell_below (a := ⟨Bx, 1, none⟩) hown1 hlo (.slice (some ⟨g, 0, none⟩) (stops.length + 1) cap)
        simpa [intV] using this
    clear hbox5 hr1 hown1 hgrow hbox1 hB1 hs
    go_end0
    exact ⟨⟨_, rfl⟩, hfin.2⟩
end Go.Proofs.Ytlgogpphlnogoaa
