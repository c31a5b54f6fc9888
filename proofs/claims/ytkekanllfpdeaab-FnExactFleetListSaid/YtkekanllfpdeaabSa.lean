/-
  Seas: lists of the call's own; what the marks leave.
-/
import Derived.Test.YtkekanllfpdeaabSk
import Derived.BigQuiet
import Derived.Deep.DeepCutAuto
namespace Go.Proofs.Ytkekanllfpdeaab
open Go.RowKit
set_option linter.unusedVariables false

/-- What a call hands back that has made a list of its own. -/
def NewL (zs : List Int) (w : World) (e : Ending) (w' : World) : Prop :=
  ∃ a c, e = .returned (.slice a zs.length c) ∧ w'.ownsRow w.heap.size 2 1 (.slice a zs.length c) zs.length (zs.map intV) ∧ Below w.heap.size w w'
/-- A row of the call's own, in a world that has kept all below B. -/
structure Owns (B : Nat) (W0 w : World) (v : Value) (zs : List Int) : Prop where
  own : w.ownsRow B 2 1 v zs.length (zs.map intV)
  old : Below B W0 w
  size : B ≤ w.heap.size
theorem Owns.keep {B : Nat} {W0 w w' : World} {v : Value} {zs : List Int} (h : Owns B W0 w v zs) (hb : Below w.heap.size w w') : Owns B W0 w' v zs :=
  ⟨ownsRow_keep h.own hb, h.old.trans (hb.mono h.size), Nat.le_trans h.size hb.size⟩
theorem Owns.snoc {B : Nat} {W0 w2 w3 : World} {v v' : Value} {zs : List Int} {z : Int} (h : Owns B W0 w2 v zs) (hown : w3.ownsRow B 2 1 v' (zs.length + 1) (zs.map intV ++ [.int .i64 z]))
    (hg : (w2.alloc (.cells #[.int .i64 z] 2)).grownBy w3 v.ownBlock) : Owns B W0 w3 v' (zs ++ [z]) := by
  refine ⟨by simpa [intV] using hown, (h.old.alloc h.size _).grown hg (by have := h.size; simp; omega) (fun j hj => by have := (h.own.alloc (.cells #[Value.int .i64 z] 2)).lt j hj; omega), ?_⟩
  have := hg.size
  have := h.size
  simp at *
  omega
theorem Owns.nil {B : Nat} {W0 w : World} (h : Below B W0 w) (hs : B ≤ w.heap.size) : Owns B W0 w (.slice none 0 0) [] := ⟨World.ownsRow_nil _ _ _ _, h, hs⟩
theorem Owns.list {B : Nat} {W W0 w : World} {v : Value} {zs : List Int} (h : Owns B W0 w v zs) (h0 : Below W.heap.size W W0) (hB : W.heap.size ≤ B) : NewL zs W (.returned v) w := by
  obtain ⟨a, c, rfl⟩ := own_form h.own
  exact ⟨a, c, rfl, ownsRow_base h.own hB, h0.trans (h.old.mono hB)⟩
theorem Owns.listC {B : Nat} {W W0 w : World} {v : Value} {zs : List Int} (h : Owns B W0 w v zs) (h0 : Below W.heap.size W W0) (hB : W.heap.size ≤ B) (k : Int) : NewList (zs, k) W (.returned (.tuple #[v, .int .i64 k])) w := by
  obtain ⟨a, c, rfl⟩ := own_form h.own
  exact ⟨a, c, rfl, ownsRow_base h.own hB, h0.trans (h.old.mono hB)⟩
theorem alloc_row (w : World) (cs : Array Value) (t : TypeId) : (w.alloc (.cells cs t)).heap[w.heap.size]? = some (.cells cs t (0, 0)) := heap_alloc_new _ _

end Go.Proofs.Ytkekanllfpdeaab
