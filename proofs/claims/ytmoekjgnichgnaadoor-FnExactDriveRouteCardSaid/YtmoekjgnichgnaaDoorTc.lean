/-
  Cars: boxes of four numbers; the laws' helpers on them.
-/
import Derived.Test.YtmoekjgnichgnaaDoorTp
import Derived.Deep.LoopGhost
namespace Go.Proofs.YtmoekjgnichgnaaDoor
open Go.RowKit
set_option linter.unusedVariables false

theorem row4 {w : World} {b : Nat} {x y u v : Value} {t : TypeId} (h : w.heap[b]? = some (.cells #[x, y, u, v] t (0, 0))) :
    w.cell? ⟨b, 0, none⟩ = some x ∧ w.cell? ⟨b, 1, none⟩ = some y ∧ w.cell? ⟨b, 2, none⟩ = some u ∧ w.cell? ⟨b, 3, none⟩ = some v :=
  ⟨(cell_of_row _ _ 0 _ _ (0, 0) h).trans rfl, (cell_of_row _ _ 1 _ _ (0, 0) h).trans rfl, (cell_of_row _ _ 2 _ _ (0, 0) h).trans rfl, (cell_of_row _ _ 3 _ _ (0, 0) h).trans rfl⟩
theorem froz4 {w : World} {b : Nat} {x y u v : Value} {t : TypeId} (h : w.heap[b]? = some (.cells #[x, y, u, v] t (0, 0))) :
    w.frozen? ⟨b, 0, none⟩ = false ∧ w.frozen? ⟨b, 1, none⟩ = false ∧ w.frozen? ⟨b, 2, none⟩ = false ∧ w.frozen? ⟨b, 3, none⟩ = false :=
  ⟨frozen_of_row _ _ 0 _ _ h, frozen_of_row _ _ 1 _ _ h, frozen_of_row _ _ 2 _ _ h, frozen_of_row _ _ 3 _ _ h⟩
def st4 (w : World) (b : Nat) (x y u v : Int) : World := (((w.setCell ⟨b, 0, none⟩ (.int .i64 x)).setCell ⟨b, 1, none⟩ (.int .i64 y)).setCell ⟨b, 2, none⟩ (.int .i64 u)).setCell ⟨b, 3, none⟩ (.int .i64 v)
theorem st4_box {w : World} {b : Nat} {x0 y0 u0 v0 : Value} {t : TypeId} (x y u v : Int) (h : w.heap[b]? = some (.cells #[x0, y0, u0, v0] t (0, 0))) : (st4 w b x y u v).heap[b]? = some (.cells #[.int .i64 x, .int .i64 y, .int .i64 u, .int .i64 v] t (0, 0)) := by
  have h1 := heap_setCell_same _ b 0 _ t (.int .i64 x) h
  have h2 := heap_setCell_same _ b 1 _ t (.int .i64 y) h1
  have h3 := heap_setCell_same _ b 2 _ t (.int .i64 u) h2
  exact heap_setCell_same _ b 3 _ t (.int .i64 v) h3
theorem st4_below {B b : Nat} {A w : World} (x y u v : Int) (h : Below B A w) (hb : B ≤ b) : Below B A (st4 w b x y u v) :=
  (((h.setCell (p := ⟨b, 0, none⟩) hb _).setCell (p := ⟨b, 1, none⟩) hb _).setCell (p := ⟨b, 2, none⟩) hb _).setCell (p := ⟨b, 3, none⟩) hb _
theorem row_new (w : World) (cs : Array Value) (t : TypeId) : (w.alloc (.cells cs t)).heap[w.heap.size]? = some (.cells cs t (0, 0)) := heap_alloc_new w _
theorem row_up {w : World} {b : Nat} {o : Obj} (o' : Obj) (h : w.heap[b]? = some o) : (w.alloc o').heap[b]? = some o := (Below.heap_alloc _ _ _ (block_lt h)).trans h

set_option maxRecDepth 100000 in
set_option maxHeartbeats 1000000 in
theorem toCar_any (x y u v : Int) (W : World) : Calls Tryd.prog 24 #[.agg #[.int .i64 x, .int .i64 y, .int .i64 u, .int .i64 v]] W (RetB (.agg #[.int .i64 x, .int .i64 y, .int .i64 u, .int .i64 v]) W) := by
  go_enter Tryd.func24, Tryd.ntmps24
  go_wp2_with fail
  refine wp_loop_rounds 5 ?_
  rw [rounds_succ]
  go_wp2_with fail
  rw [rounds_succ]
  go_wp2_with fail
  rw [rounds_succ]
  go_wp2_with fail
  rw [rounds_succ]
  go_wp2_with fail
  rw [rounds_succ]
  go_wp2_with fail
  exact bodyPost_ret (v := .agg #[.int .i64 x, .int .i64 y, .int .i64 u, .int .i64 v]) (by simp [results, Tryd.results24, go_sem]) rfl ⟨rfl, ((below_alloc _ _).alloc (by simp) _).alloc (by simp; omega) _⟩

set_option maxRecDepth 100000 in
set_option maxHeartbeats 1000000 in
theorem eqCar_same (x y u v : Int) (W : World) : Calls Tryd.prog 22 #[.agg #[.int .i64 x, .int .i64 y, .int .i64 u, .int .i64 v], .agg #[.int .i64 x, .int .i64 y, .int .i64 u, .int .i64 v]] W (RetB (.bool true) W) := by
  obtain ⟨W0, hW0⟩ : ∃ W0, W0 = (W.alloc (.cells #[.int .i64 x, .int .i64 y, .int .i64 u, .int .i64 v] 28)).alloc (.cells #[.int .i64 x, .int .i64 y, .int .i64 u, .int .i64 v] 28) := ⟨_, rfl⟩
  have hB0 : Hid (Below W.heap.size W W0) := by rw [hW0]; exact hide ((below_alloc _ _).alloc (by simp) _)
  have hr0 : W0.heap[W.heap.size]? = some (.cells #[.int .i64 x, .int .i64 y, .int .i64 u, .int .i64 v] 28 (0, 0)) := by rw [hW0]; exact row_up _ (row_new _ _ _)
  have hr1 : W0.heap[W.heap.size + 1]? = some (.cells #[.int .i64 x, .int .i64 y, .int .i64 u, .int .i64 v] 28 (0, 0)) := by
    have := row_new (W.alloc (.cells #[.int .i64 x, .int .i64 y, .int .i64 u, .int .i64 v] 28)) #[.int .i64 x, .int .i64 y, .int .i64 u, .int .i64 v] 28
    rw [hW0]
    simpa using this
  obtain ⟨a0, a1, a2, a3⟩ := row4 hr0
  obtain ⟨b0, b1, b2, b3⟩ := row4 hr1
  clear hr0 hr1
  have q0 : (x != x) = false := by simp
  have q1 : (y != y) = false := by simp
  have q2 : (u != u) = false := by simp
  have q3 : (v != v) = false := by simp
  go_enter Tryd.func22, Tryd.ntmps22
  go_wp2_with fail
  rw [← hW0]
  (try go_wp2_with fail)
  clear hW0
  refine wp_loop_rounds 5 ?_
  rw [rounds_succ]
  go_wp2_with fail
  go_quiet (fail)
  go_wp2_with fail
  rw [rounds_succ]
  go_wp2_with fail
  go_quiet (fail)
  go_wp2_with fail
  rw [rounds_succ]
  go_wp2_with fail
  go_quiet (fail)
  go_wp2_with fail
  rw [rounds_succ]
  go_wp2_with fail
  go_quiet (fail)
  go_wp2_with fail
  rw [rounds_succ]
  go_wp2_with fail
  go_ret
  refine ⟨rfl, Below.trans' hB0.out (Quiet.below ?_)⟩
  exact Quiet.drewN (Quiet.refl _) _
end Go.Proofs.YtmoekjgnichgnaaDoor
