/-
  What comes in, for laws on fields: a field's four numbers opened; the laws' helpers on it; whole rows of four.
-/
import Derived.Test.YtdimmlpnfghndabFi
import Derived.Test.YtdimmlpnfghndabMk
import Derived.Test.YtdimmlpnfghndabEnds0
import Derived.OpenShut
import Derived.ChangeOld
import Derived.Deep.Fields
import Derived.Lib.SmallJoins
import Derived.Deep.RegionHeld3
namespace Go.Proofs.Ytdimmlpnfghndab
open Go.ChangeShapes Go.WideShapes Go.ChangeAt Go.RowKit Go.Deep Go.Joins
set_option linter.unusedVariables false
variable {H : Type} {enc : TypeId × Value → H}

set_option maxRecDepth 100000 in
theorem open_field {W : World} {base : Nat} {v : Value} {d : DataW H} {p : List MemPlace} (hv : Value.okWide Try.prog W .any base 23 v)
    (h : DataW.Trod enc Try.prog W 0 (fun _ => true) true 23 v d p) : ∃ n L R B : Int, v = .agg #[.int .i64 n, .int .i64 L, .int .i64 R, .int .i64 B] := by
  obtain ⟨c0, c1, c2, c3, y0, y1, y2, y3, m, rfl, rfl, rfl, hy0, hy1, hy2, hy3⟩ := open_agg4 Try.underlying23 (by kernel_rfl) (by kernel_rfl) hv h
  obtain ⟨x, e0, rfl, wx⟩ := DataW.trod_int Try.underlying2 hy0
  obtain ⟨y, e1, rfl, wy⟩ := DataW.trod_int Try.underlying2 hy1
  obtain ⟨z, e2, rfl, wz⟩ := DataW.trod_int Try.underlying2 hy2
  obtain ⟨f, e3, rfl, wf⟩ := DataW.trod_int Try.underlying2 hy3
  simp at e0 e1 e2 e3
  subst e0 e1 e2 e3
  exact ⟨x, y, z, f, rfl⟩

theorem row4 {w : World} {b : Nat} {x0 x1 x2 x3 : Value} {t : TypeId} (h : w.heap[b]? = some (.cells #[x0, x1, x2, x3] t (0, 0))) :
    w.cell? ⟨b, 0, none⟩ = some x0 ∧ w.cell? ⟨b, 1, none⟩ = some x1 ∧ w.cell? ⟨b, 2, none⟩ = some x2 ∧ w.cell? ⟨b, 3, none⟩ = some x3 ∧ w.frozen? ⟨b, 0, none⟩ = false ∧ w.frozen? ⟨b, 1, none⟩ = false ∧ w.frozen? ⟨b, 2, none⟩ = false ∧ w.frozen? ⟨b, 3, none⟩ = false :=
  ⟨(cell_of_row _ _ 0 _ _ (0, 0) h).trans rfl, (cell_of_row _ _ 1 _ _ (0, 0) h).trans rfl, (cell_of_row _ _ 2 _ _ (0, 0) h).trans rfl, (cell_of_row _ _ 3 _ _ (0, 0) h).trans rfl, frozen_of_row _ _ 0 _ _ h, frozen_of_row _ _ 1 _ _ h, frozen_of_row _ _ 2 _ _ h, frozen_of_row _ _ 3 _ _ h⟩
theorem row5 {w : World} {b : Nat} {x0 x1 x2 x3 x4 : Value} {t : TypeId} (h : w.heap[b]? = some (.cells #[x0, x1, x2, x3, x4] t (0, 0))) :
    w.cell? ⟨b, 0, none⟩ = some x0 ∧ w.cell? ⟨b, 1, none⟩ = some x1 ∧ w.cell? ⟨b, 2, none⟩ = some x2 ∧ w.cell? ⟨b, 3, none⟩ = some x3 ∧ w.cell? ⟨b, 4, none⟩ = some x4 ∧ w.frozen? ⟨b, 0, none⟩ = false ∧ w.frozen? ⟨b, 1, none⟩ = false ∧ w.frozen? ⟨b, 2, none⟩ = false ∧ w.frozen? ⟨b, 3, none⟩ = false ∧ w.frozen? ⟨b, 4, none⟩ = false :=
  ⟨(cell_of_row _ _ 0 _ _ (0, 0) h).trans rfl, (cell_of_row _ _ 1 _ _ (0, 0) h).trans rfl, (cell_of_row _ _ 2 _ _ (0, 0) h).trans rfl, (cell_of_row _ _ 3 _ _ (0, 0) h).trans rfl, (cell_of_row _ _ 4 _ _ (0, 0) h).trans rfl, frozen_of_row _ _ 0 _ _ h, frozen_of_row _ _ 1 _ _ h, frozen_of_row _ _ 2 _ _ h, frozen_of_row _ _ 3 _ _ h, frozen_of_row _ _ 4 _ _ h⟩
theorem row1 {w : World} {b : Nat} {x0 : Value} {t : TypeId} (h : w.heap[b]? = some (.cells #[x0] t (0, 0))) : w.cell? ⟨b, 0, none⟩ = some x0 ∧ w.frozen? ⟨b, 0, none⟩ = false :=
  ⟨(cell_of_row _ _ 0 _ _ (0, 0) h).trans rfl, frozen_of_row _ _ 0 _ _ h⟩
theorem fieldIn_of_row {w : World} {b : Nat} {n L R B : Int} {t : TypeId} (h : w.heap[b]? = some (.cells #[.int .i64 n, .int .i64 L, .int .i64 R, .int .i64 B] t (0, 0))) : FieldIn w b n L R B :=
  ⟨(row4 h).1, (row4 h).2.1, (row4 h).2.2.1, (row4 h).2.2.2.1⟩
theorem below4 {W w1 : World} {b : Nat} (x0 x1 x2 x3 : Value) (h : Below W.heap.size W w1) (hb : W.heap.size ≤ b) : Below W.heap.size W ((((w1.setCell ⟨b, 0, none⟩ x0).setCell ⟨b, 1, none⟩ x1).setCell ⟨b, 2, none⟩ x2).setCell ⟨b, 3, none⟩ x3) :=
  (((h.setCell (p := ⟨b, 0, none⟩) hb x0).setCell (p := ⟨b, 1, none⟩) hb x1).setCell (p := ⟨b, 2, none⟩) hb x2).setCell (p := ⟨b, 3, none⟩) hb x3
theorem box_set4 {w : World} {b : Nat} {x0 x1 x2 x3 : Value} (y0 y1 y2 y3 : Value) {t : TypeId} (h : w.heap[b]? = some (.cells #[x0, x1, x2, x3] t (0, 0))) :
    ((((w.setCell ⟨b, 0, none⟩ y0).setCell ⟨b, 1, none⟩ y1).setCell ⟨b, 2, none⟩ y2).setCell ⟨b, 3, none⟩ y3).heap[b]? = some (.cells #[y0, y1, y2, y3] t (0, 0)) :=
  heap_setCell_same _ b 3 _ t y3 (heap_setCell_same _ b 2 _ t y2 (heap_setCell_same _ b 1 _ t y1 (heap_setCell_same _ b 0 _ t y0 h)))
theorem alloc_row (W : World) (cs : Array Value) (t : TypeId) : (W.alloc (.cells cs t)).heap[W.heap.size]? = some (.cells cs t (0, 0)) := heap_alloc_new W _
theorem alloc_row2 (W : World) (o1 : Obj) (cs2 : Array Value) (t2 : TypeId) : ((W.alloc o1).alloc (.cells cs2 t2)).heap[W.heap.size + 1]? = some (.cells cs2 t2 (0, 0)) := by
  have := alloc_row (W.alloc o1) cs2 t2
  simpa using this
theorem alloc_row3 (W : World) (o1 o2 : Obj) (cs2 : Array Value) (t2 : TypeId) : (((W.alloc o1).alloc o2).alloc (.cells cs2 t2)).heap[W.heap.size + 1 + 1]? = some (.cells cs2 t2 (0, 0)) := by
  have := alloc_row ((W.alloc o1).alloc o2) cs2 t2
  simpa using this
theorem row_alloc {W : World} {b : Nat} {o : Obj} (h : W.heap[b]? = some o) (o' : Obj) : (W.alloc o').heap[b]? = some o := box_keep h (below_alloc _ _)

set_option maxHeartbeats 400000 in
theorem toField_any (n L R B : Int) (W : World) : Calls Try.prog 5 #[.agg #[.int .i64 n, .int .i64 L, .int .i64 R, .int .i64 B]] W (RetB (.agg #[.int .i64 n, .int .i64 L, .int .i64 R, .int .i64 B]) W) := by
  go_enter Try.func5, Try.ntmps5
  go_wp2
  exact bodyPost_ret (v := .agg #[.int .i64 n, .int .i64 L, .int .i64 R, .int .i64 B]) (by simp [results, Try.results5, go_sem]) rfl ⟨rfl, ((below_alloc _ _).alloc (by simp) _).alloc (by simp; omega) _⟩

theorem specIs_is {n L R B : Int} {b : Bool} (h : okF n L R B = b) (W : World) : Calls Try.prog 7 #[.agg #[.int .i64 n, .int .i64 L, .int .i64 R, .int .i64 B]] W (RetB (.bool b) W) := by rw [← h]; exact specIs_any n L R B W
theorem implIs_is {n L R B : Int} {b : Bool} (h : okF n L R B = b) (W : World) : Calls Try.prog 9 #[.agg #[.int .i64 n, .int .i64 L, .int .i64 R, .int .i64 B]] W (RetB (.bool b) W) := by rw [← h]; exact implIs_any n L R B W

/-! ### ExchangeSides -/
def swR (n L R B : Int) : Int × Int × Int × Int × Int := if okF n L R B = true then (n, L, B, R, 0) else (0, 0, 0, 0, 1)
def fcV (r : Int × Int × Int × Int × Int) : Value := .tuple #[.agg #[.int .i64 r.1, .int .i64 r.2.1, .int .i64 r.2.2.1, .int .i64 r.2.2.2.1], .int .i64 r.2.2.2.2]

end Go.Proofs.Ytdimmlpnfghndab
