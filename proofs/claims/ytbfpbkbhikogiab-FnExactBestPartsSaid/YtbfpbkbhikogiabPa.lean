/-
  Ends of dots and boxes: an ending under way: a box with two rows of the call's own.
-/
import Derived.Test.YtbfpbkbhikogiabAns
import Derived.Deep.AppendLies
import Derived.Deep.RegionHeld3
import Derived.Deep.RegionLaw
namespace Go.Proofs.Ytbfpbkbhikogiab
open Go.RowKit
set_option linter.unusedVariables false

/-- Two rows do not share a block. -/
def Ap (v1 v2 : Value) : Prop := ∀ g, v1.ownBlock = some g → v2.ownBlock ≠ some g
theorem Ap.symm {v1 v2 : Value} (h : Ap v1 v2) : Ap v2 v1 := fun g h1 h2 => h g h2 h1
theorem Ap.kept {v1 v2 : Value} (h : Ap v1 v2) : v1.ownBlock = none ∨ v1.ownBlock ≠ v2.ownBlock := by
  cases hb : v1.ownBlock with
  | none => exact .inl rfl
  | some g => exact .inr (fun e => h g hb e.symm)

/-- A row is no box of another type. -/
theorem row_not_box {w : World} {base B n : Nat} {e t : TypeId} {size : Nat} {v : Value} {xs : List Value} {cs : Array Value} {fr : Nat × Nat} (h : w.ownsRow base e size v n xs) (hb : w.heap[B]? = some (.cells cs t fr)) (hte : t ≠ e) : v.ownBlock ≠ some B := by
  rcases h.2 with ⟨rfl, _⟩ | ⟨g, cap, cur, rfl, _, hg, _⟩
  · simp [Value.ownBlock]
  · simp only [Value.ownBlock, ne_eq, Option.some.injEq]
    rintro rfl
    rw [hg] at hb
    simp at hb
    exact hte hb.2.1.symm
theorem ownsRow_setCell_other {w : World} {base B o n : Nat} {e : TypeId} {size : Nat} {v : Value} {xs : List Value} (h : w.ownsRow base e size v n xs) (hne : v.ownBlock ≠ some B) (u : Value) : (w.setCell ⟨B, o, none⟩ u).ownsRow base e size v n xs := by
  refine ⟨h.1, ?_⟩
  rcases h.2 with h2 | ⟨g, cap, cur, hv, hg, hh, r⟩
  · exact .inl h2
  · refine .inr ⟨g, cap, cur, hv, hg, ?_, r⟩
    rw [Below.heap_setCell _ _ _ _ (fun e => hne (by rw [hv, e]; rfl))]
    exact hh

structure PairV (w : World) (lo Bx : Nat) (v1 : Value) (xs : List Int) (v2 : Value) (ys : List Int) : Prop where
  box : w.heap[Bx]? = some (.cells #[v1, v2] 33 (0, 0))
  own1 : w.ownsRow lo 2 1 v1 xs.length (xs.map intV)
  own2 : w.ownsRow lo 2 1 v2 ys.length (ys.map intV)
  ap : Ap v1 v2
  hlo : lo ≤ Bx
theorem PairV.keep {w w' : World} {lo Bx : Nat} {v1 v2 : Value} {xs ys : List Int} (h : PairV w lo Bx v1 xs v2 ys) (hb : Below w.heap.size w w') : PairV w' lo Bx v1 xs v2 ys :=
  ⟨box_keep h.box hb, ownsRow_keep h.own1 hb, ownsRow_keep h.own2 hb, h.ap, h.hlo⟩
theorem ending_not_int : (33 : TypeId) ≠ 2 := by decide

theorem PairV.grow {wr wa w1 : World} {lo Bx g cap H : Nat} {z : Int} {v1 v2 : Value} {xs ys : List Int} (h : PairV wr lo Bx v1 xs v2 ys) (ha : Below wr.heap.size wr wa)
    (hown1 : w1.ownsRow lo 2 1 (.slice (some ⟨g, 0, none⟩) (xs.length + 1) cap) (xs.length + 1) (xs.map intV ++ [.int .i64 z])) (hgrow : wa.grownBy w1 v1.ownBlock) (hat : v1.ownBlock = some g ∨ g = H) (hH : wr.heap.size ≤ H) :
    w1.heap[Bx]? = some (.cells #[v1, v2] 33 (0, 0)) ∧ PairV (w1.setCell ⟨Bx, 0, none⟩ (.slice (some ⟨g, 0, none⟩) (xs.length + 1) cap)) lo Bx (.slice (some ⟨g, 0, none⟩) (xs.length + 1) cap) (xs ++ [z]) v2 ys ∧ Below lo wr (w1.setCell ⟨Bx, 0, none⟩ (.slice (some ⟨g, 0, none⟩) (xs.length + 1) cap)) := by
  have hbl := block_lt h.box
  have hlo := h.hlo
  have hboxa := box_keep h.box ha
  have hbox1 : w1.heap[Bx]? = some (.cells #[v1, v2] 33 (0, 0)) := (hgrow.block Bx (block_lt hboxa) (fun e => row_not_box h.own1 h.box ending_not_int e.symm)).trans hboxa
  have h2 : w1.ownsRow lo 2 1 v2 ys.length (ys.map intV) := (ownsRow_keep h.own2 ha).kept hgrow h.ap.symm.kept
  have hb1 : Below lo wr w1 := (ha.mono (by omega)).grown hgrow (by have := ha.size; omega) (fun j hj => (h.own1.lt j hj).1)
  have hap : Ap (.slice (some ⟨g, 0, none⟩) (xs.length + 1) cap) v2 := fun g' e => by
    have e' : g = g' := by simpa [Value.ownBlock] using e
    subst e'
    rcases hat with hat | hat
    · exact h.ap g hat
    · intro h3
      have := (h.own2.lt g h3).2
      omega
  refine ⟨hbox1, ⟨heap_setCell_same w1 Bx 0 _ _ _ hbox1, ?_, ownsRow_setCell_other h2 (row_not_box h2 hbox1 ending_not_int) _, hap, hlo⟩, hb1.setCell (p := ⟨Bx, 0, none⟩) hlo _⟩
  have := ownsRow_setCell_other hown1 (row_not_box hown1 hbox1 ending_not_int) (.slice (some ⟨g, 0, none⟩) (xs.length + 1) cap) (o := 0)
  simpa [intV] using this
theorem PairV.grow' {wr wa w1 : World} {lo Bx g cap H : Nat} {z : Int} {v1 v2 : Value} {xs ys : List Int} (h : PairV wr lo Bx v1 xs v2 ys) (ha : Below wr.heap.size wr wa)
    (hown1 : w1.ownsRow lo 2 1 (.slice (some ⟨g, 0, none⟩) (ys.length + 1) cap) (ys.length + 1) (ys.map intV ++ [.int .i64 z])) (hgrow : wa.grownBy w1 v2.ownBlock) (hat : v2.ownBlock = some g ∨ g = H) (hH : wr.heap.size ≤ H) :
    w1.heap[Bx]? = some (.cells #[v1, v2] 33 (0, 0)) ∧ PairV (w1.setCell ⟨Bx, 1, none⟩ (.slice (some ⟨g, 0, none⟩) (ys.length + 1) cap)) lo Bx v1 xs (.slice (some ⟨g, 0, none⟩) (ys.length + 1) cap) (ys ++ [z]) ∧ Below lo wr (w1.setCell ⟨Bx, 1, none⟩ (.slice (some ⟨g, 0, none⟩) (ys.length + 1) cap)) := by
  have hbl := block_lt h.box
  have hlo := h.hlo
  have hboxa := box_keep h.box ha
  have hbox1 : w1.heap[Bx]? = some (.cells #[v1, v2] 33 (0, 0)) := (hgrow.block Bx (block_lt hboxa) (fun e => row_not_box h.own2 h.box ending_not_int e.symm)).trans hboxa
  have h2 : w1.ownsRow lo 2 1 v1 xs.length (xs.map intV) := (ownsRow_keep h.own1 ha).kept hgrow h.ap.kept
  have hb1 : Below lo wr w1 := (ha.mono (by omega)).grown hgrow (by have := ha.size; omega) (fun j hj => (h.own2.lt j hj).1)
  have hap : Ap v1 (.slice (some ⟨g, 0, none⟩) (ys.length + 1) cap) := Ap.symm fun g' e => by
    have e' : g = g' := by simpa [Value.ownBlock] using e
    subst e'
    rcases hat with hat | hat
    · exact h.ap.symm g hat
    · intro h3
      have := (h.own1.lt g h3).2
      omega
  refine ⟨hbox1, ⟨heap_setCell_same w1 Bx 1 _ _ _ hbox1, ownsRow_setCell_other h2 (row_not_box h2 hbox1 ending_not_int) _, ?_, hap, hlo⟩, hb1.setCell (p := ⟨Bx, 1, none⟩) hlo _⟩
  have := ownsRow_setCell_other hown1 (row_not_box hown1 hbox1 ending_not_int) (.slice (some ⟨g, 0, none⟩) (ys.length + 1) cap) (o := 1)
  simpa [intV] using this
/-- An empty row in a block of no cells. -/
theorem ownsRow_empty {w : World} {lo g : Nat} (hg : w.heap[g]? = some (.cells #[] 2 (0, 0))) (hlo : lo ≤ g) : w.ownsRow lo 2 1 (.slice (some ⟨g, 0, none⟩) 0 0) 0 [] :=
  ⟨rfl, .inr ⟨g, 0, #[], rfl, hlo, hg, Nat.le_refl _, by decide, rfl, rfl⟩⟩

/-- An ending of the call's own, and what comes with it. -/
def NewEndV (xs ys : List Int) (more : List Value) (W : World) (e : Ending) (W' : World) : Prop :=
  ∃ a c a' c', e = .returned (.tuple (#[.agg #[.slice a xs.length c, .slice a' ys.length c']] ++ more.toArray)) ∧ W'.ownsRow W.heap.size 2 1 (.slice a xs.length c) xs.length (xs.map intV) ∧ W'.ownsRow W.heap.size 2 1 (.slice a' ys.length c') ys.length (ys.map intV) ∧ Ap (.slice a xs.length c) (.slice a' ys.length c') ∧ Below W.heap.size W W'
end Go.Proofs.Ytbfpbkbhikogiab
