/-
  Lines of a grid: the function value that linesAlong hands back, for every loop body that keeps what it reads.
-/
import Derived.Test.YtkekanllfpdeaabLi
import Derived.Test.YtkekanllfpdeaabSa
import Derived.RangeFuncNested
import Derived.RangeFuncBound
import Derived.RangeFuncCalls
import Derived.RangeFuncLeaves
import Derived.RangeFuncFrom
import Derived.RangeFuncBox
import Derived.Shelf.Abstract
import Derived.Shelf.RegionOpen
import Derived.OwnWalkIn
import Derived.TacticsInMore
import Derived.LoopNIn
import Derived.LoopIn
import Derived.Test.YtkekanllfpdeaabQw
namespace Go.Proofs.Ytkekanllfpdeaab
open Go.RowKit Go.Shelf
attribute [local go_sem] Oper.semAt_some
set_option linter.unusedVariables false

theorem row1 {w : World} {b : Nat} {x : Value} {t : TypeId} (h : w.heap[b]? = some (.cells #[x] t (0, 0))) : w.cell? ⟨b, 0, none⟩ = some x ∧ w.frozen? ⟨b, 0, none⟩ = false := ⟨(cell_of_row _ _ 0 _ _ (0, 0) h).trans rfl, frozen_of_row _ _ 0 _ _ h⟩
theorem noLead {F : Fence} {K : Prop} (h : K) : (∀ f : FuncId, none = some f → F.fn f) ∧ K := ⟨fun _ h => (by cases h), h⟩
theorem leadAny {K : Prop} (o : Option FuncId) (h : K) : (∀ f : FuncId, o = some f → Fence.wide.fn f) ∧ K := ⟨fun _ _ => trivial, h⟩
/-- Between two items: what was there is as it was, and so is every box of a step. -/
def KeepY (n₀ : Nat) (A B : World) : Prop := Below n₀ A B ∧ A.heap.size ≤ B.heap.size ∧ ∀ (b : Nat) (cs : Array Value), A.heap[b]? = some (.cells cs 80 (0, 0)) → B.heap[b]? = some (.cells cs 80 (0, 0))
theorem KeepY.refl (n₀ : Nat) (W : World) : KeepY n₀ W W := ⟨Below.refl _ _, Nat.le_refl _, fun _ _ h => h⟩
theorem KeepY.trans {n₀ : Nat} {A B C : World} (h : KeepY n₀ A B) (k : KeepY n₀ B C) : KeepY n₀ A C := ⟨h.1.trans k.1, Nat.le_trans h.2.1 k.2.1, fun b cs hb => k.2.2 b cs (h.2.2 b cs hb)⟩
theorem KeepY.of_below {n₀ : Nat} {A B : World} (h : Below A.heap.size A B) (hn : n₀ ≤ A.heap.size) : KeepY n₀ A B := ⟨h.mono hn, h.size, fun b cs hb => box_keep hb h⟩
theorem keepY_b {n₀ : Nat} {w : World} (hn : n₀ ≤ w.heap.size) (W : World) (l : Nat) (o o' : Obj) (hl : w.heap.size ≤ l) (h : W.heap[l]? = some o) (h1 : o.isCells = false) (h2 : o.isWalk = false) : KeepY n₀ W (W.putObj l o') := by
  refine ⟨?_, by simp, fun b cs hb => (World.putObj_heap_other (fun e => ?_)).trans hb⟩
  · refine ⟨rfl, rfl, rfl, by simp, fun k hk => World.putObj_heap_other (by omega)⟩
  · subst e
    rw [hb] at h
    cases h
    cases h1

/-- What the function value reads. -/
def LinF (V : World) (Bs Bg Bk G : Nat) (W H : Int) (n : Nat) : Prop :=
  V.cell? ⟨Bs, 0, none⟩ = some (.slice (some ⟨G, 0, none⟩) 2 2) ∧ V.cell? ⟨Bg, 0, none⟩ = some (.int .i64 W) ∧ V.cell? ⟨Bg, 1, none⟩ = some (.int .i64 H) ∧ V.cell? ⟨Bk, 0, none⟩ = some (.int .i64 n) ∧
    V.cell? ⟨G, 0, none⟩ = some (.int .i64 1) ∧ V.cell? ⟨G, 1, none⟩ = some (.int .i64 0) ∧ V.cell? ⟨G, 2, none⟩ = some (.int .i64 0) ∧ V.cell? ⟨G, 3, none⟩ = some (.int .i64 1)
theorem LinF.keep {V V' : World} {Bs Bg Bk G n : Nat} {W H : Int} (h : LinF V Bs Bg Bk G W H n) (hb : Below V.heap.size V V') : LinF V' Bs Bg Bk G W H n := by
  obtain ⟨h0, h1, h2, h3, h4, h5, h6, h7⟩ := h
  exact ⟨cell_keep hb h0, cell_keep hb h1, cell_keep hb h2, cell_keep hb h3, cell_keep hb h4, cell_keep hb h5, cell_keep hb h6, cell_keep hb h7⟩
def dxJ (j : Nat) : Int := if j = 0 then 1 else 0
def dyJ (j : Nat) : Int := if j = 0 then 0 else 1
/-- The lines of the first j steps. -/
def doneL (W H : Int) (n : Nat) : Nat → List Int
  | 0 => []
  | 1 => linesD W H n 1 0
  | _ => linesL W H n
theorem doneL_succ {W H : Int} {n j : Nat} (h : j < 2) : doneL W H n (j + 1) = doneL W H n j ++ linesD W H n (dxJ j) (dyJ j) := by
  have : j = 0 ∨ j = 1 := by omega
  rcases this with rfl | rfl <;> rfl
def toL (W H : Int) (n : Nat) (dx dy : Int) (s : Nat) : List Int := (List.range s).filterMap (lineAt W H n dx dy)
theorem toL_some {W H dx dy z : Int} {n s : Nat} (h : lineAt W H n dx dy s = some z) : toL W H n dx dy (s + 1) = toL W H n dx dy s ++ [z] := by
  unfold toL
  rw [List.range_succ, List.filterMap_append]
  simp [h]
theorem toL_none {W H dx dy : Int} {n s : Nat} (h : lineAt W H n dx dy s = none) : toL W H n dx dy (s + 1) = toL W H n dx dy s := by
  unfold toL
  rw [List.range_succ, List.filterMap_append]
  simp [h]
theorem toL_len (W H : Int) (n : Nat) (dx dy : Int) (s : Nat) : (toL W H n dx dy s).length ≤ s := by
  unfold toL
  exact Nat.le_trans (List.length_filterMap_le _ _) (by simp)
theorem doneL_len {W H : Int} {n j : Nat} (w1 : W ≤ 5) (h1 : H ≤ 5) (w0 : 1 ≤ W) (h0 : 1 ≤ H) (h : j < 2) : (doneL W H n j).length ≤ 25 := by
  have : j = 0 ∨ j = 1 := by omega
  rcases this with rfl | rfl
  · exact Nat.zero_le _
  · have hp : W * H ≤ 25 := by
      have h5 : H = 1 ∨ H = 2 ∨ H = 3 ∨ H = 4 ∨ H = 5 := by omega
      rcases h5 with e | e | e | e | e <;> subst e <;> omega
    exact Nat.le_trans (toL_len W H n 1 0 (W * H).toNat) (by omega)

set_option maxRecDepth 100000 in
theorem linesAlong_any (W H : Int) (n G : Nat) (w : World) :
    Calls Try.prog 61 #[.agg #[.int .i64 W, .int .i64 H], .int .i64 n, .slice (some ⟨G, 0, none⟩) 2 2] w fun e w' => e = .returned (.func (.func 73) #[] #[.pointer (some ⟨w.heap.size + 1 + 1, 0, none⟩), .pointer (some ⟨w.heap.size, 0, none⟩), .pointer (some ⟨w.heap.size + 1, 0, none⟩)]) ∧
      ((w.alloc (.cells #[.int .i64 W, .int .i64 H] 78)).alloc (.cells #[.int .i64 n] 2)).alloc (.cells #[.slice (some ⟨G, 0, none⟩) 2 2] 99) = w' := by
  go_enter Try.func61, Try.ntmps61
  go_wp2
  go_ret
  exact ⟨rfl, rfl⟩
end Go.Proofs.Ytkekanllfpdeaab
