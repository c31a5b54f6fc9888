/-
  What comes in, for laws on fields: a field's four numbers opened; the laws' helpers on it; whole rows of four.
-/
import Derived.Test.YtdimmlpnfghndaaFi
import Derived.Test.YtdimmlpnfghndaaMk
import Derived.Test.YtdimmlpnfghndaaEnds0
import Derived.OpenShut
import Derived.ChangeOld
import Derived.Deep.Fields
import Derived.Lib.SmallJoins
import Derived.Deep.RegionHeld3
namespace Go.Proofs.Ytdimmlpnfghndaa
open Go.ChangeShapes Go.WideShapes Go.ChangeAt Go.RowKit Go.Deep Go.Joins
set_option linter.unusedVariables false
variable {H : Type} {enc : TypeId × Value → H}

set_option maxRecDepth 100000 in
theorem open_field {W : World} {base : Nat} {v : Value} {d : DataW H} {p : List MemPlace} (hv : Value.okWide Try.prog W .any base 23 v)
    (h : DataW.Trod enc Try.prog W 0 (fun _ => true) true 23 v d p) : ∃ n L R B : Int, v = .agg #[.int .i64 n, .int .i64 L, .int .i64 R, .int .i64 B] := by
  obtain ⟨c0, c1, c2, c3, y0, y1, y2, y3, m, rfl, rfl, rfl, hy0, hy1, hy2, hy3⟩ := open_agg4 Try.underlying23 (by kernel_rfl) (by kernel_rfl) hv h
  obtain ⟨x, e0, rfl, wx⟩ := DataW.trod_int Try.underlying2 hy0
  obtain ⟨y, e1, rfl, wy⟩ := DataW.trod_int Try.underlying2 hy1
  obtain ⟨z, e2, rfl, wz⟩ := DataW.trod_int Try.underlying2 hy2
  obtain ⟨f, e3, rfl, wf⟩ := DataW.trod_int Try.underlying2 hy3
  simp at e0 e1 e2 e3
  subst e0 e1 e2 e3
  exact ⟨x, y, z, f, rfl⟩

theorem row4 {w : World} {b : Nat} {x0 x1 x2 x3 : Value} {t : TypeId} (h : w.heap[b]? = some (.cells #[x0, x1, x2, x3] t (0, 0))) :
    w.cell? ⟨b, 0, none⟩ = some x0 ∧ w.cell? ⟨b, 1, none⟩ = some x1 ∧ w.cell? ⟨b, 2, none⟩ = some x2 ∧ w.cell? ⟨b, 3, none⟩ = some x3 ∧ w.frozen? ⟨b, 0, none⟩ = false ∧ w.frozen? ⟨b, 1, none⟩ = false ∧ w.frozen? ⟨b, 2, none⟩ = false ∧ w.frozen? ⟨b, 3, none⟩ = false :=
  ⟨(cell_of_row _ _ 0 _ _ (0, 0) h).trans rfl, (cell_of_row _ _ 1 _ _ (0, 0) h).trans rfl, (cell_of_row _ _ 2 _ _ (0, 0) h).trans rfl, (cell_of_row _ _ 3 _ _ (0, 0) h).trans rfl, frozen_of_row _ _ 0 _ _ h, frozen_of_row _ _ 1 _ _ h, frozen_of_row _ _ 2 _ _ h, frozen_of_row _ _ 3 _ _ h⟩
theorem row5 {w : World} {b : Nat} {x0 x1 x2 x3 x4 : Value} {t : TypeId} (h : w.heap[b]? = some (.cells #[x0, x1, x2, x3, x4] t (0, 0))) :
    w.cell? ⟨b, 0, none⟩ = some x0 ∧ w.cell? ⟨b, 1, none⟩ = some x1 ∧ w.cell? ⟨b, 2, none⟩ = some x2 ∧ w.cell? ⟨b, 3, none⟩ = some x3 ∧ w.cell? ⟨b, 4, none⟩ = some x4 ∧ w.frozen? ⟨b, 0, none⟩ = false ∧ w.frozen? ⟨b, 1, none⟩ = false ∧ w.frozen? ⟨b, 2, none⟩ = false ∧ w.frozen? ⟨b, 3, none⟩ = false ∧ w.frozen? ⟨b, 4, none⟩ = false :=
  ⟨(cell_of_row _ _ 0 _ _ (0, 0) h).trans rfl, (cell_of_row _ _ 1 _ _ (0, 0) h).trans rfl, (cell_of_row _ _ 2 _ _ (0, 0) h).trans rfl, (cell_of_row _ _ 3 _ _ (0, 0) h).trans rfl, (cell_of_row _ _ 4 _ _ (0, 0) h).trans rfl, frozen_of_row _ _ 0 _ _ h, frozen_of_row _ _ 1 _ _ h, frozen_of_row _ _ 2 _ _ h, frozen_of_row _ _ 3 _ _ h, frozen_of_row _ _ 4 _ _ h⟩
theorem row1 {w : World} {b : Nat} {x0 : Value} {t : TypeId} (h : w.heap[b]? = some (.cells #[x0] t (0, 0))) : w.cell? ⟨b, 0, none⟩ = some x0 ∧ w.frozen? ⟨b, 0, none⟩ = false :=
  ⟨(cell_of_row _ _ 0 _ _ (0, 0) h).trans rfl, frozen_of_row _ _ 0 _ _ h⟩
theorem fieldIn_of_row {w : World} {b : Nat} {n L R B : Int} {t : TypeId} (h : w.heap[b]? = some (.cells #[.int .i64 n, .int .i64 L, .int .i64 R, .int .i64 B] t (0, 0))) : FieldIn w b n L R B :=
  ⟨(row4 h).1, (row4 h).2.1, (row4 h).2.2.1, (row4 h).2.2.2.1⟩
theorem below4 {W w1 : World} {b : Nat} (x0 x1 x2 x3 : Value) (h : Below W.heap.size W w1) (hb : W.heap.size ≤ b) : Below W.heap.size W ((((w1.setCell ⟨b, 0, none⟩ x0).setCell ⟨b, 1, none⟩ x1).setCell ⟨b, 2, none⟩ x2).setCell ⟨b, 3, none⟩ x3) :=
  (((h.setCell (p := ⟨b, 0, none⟩) hb x0).setCell (p := ⟨b, 1, none⟩) hb x1).setCell (p := ⟨b, 2, none⟩) hb x2).setCell (p := ⟨b, 3, none⟩) hb x3
theorem box_set4 {w : World} {b : Nat} {x0 x1 x2 x3 : Value} (y0 y1 y2 y3 : Value) {t : TypeId} (h : w.heap[b]? = some (.cells #[x0, x1, x2, x3] t (0, 0))) :
    ((((w.setCell ⟨b, 0, none⟩ y0).setCell ⟨b, 1, none⟩ y1).setCell ⟨b, 2, none⟩ y2).setCell ⟨b, 3, none⟩ y3).heap[b]? = some (.cells #[y0, y1, y2, y3] t (0, 0)) :=
  heap_setCell_same _ b 3 _ t y3 (heap_setCell_same _ b 2 _ t y2 (heap_setCell_same _ b 1 _ t y1 (heap_setCell_same _ b 0 _ t y0 h)))
theorem alloc_row (W : World) (cs : Array Value) (t : TypeId) : (W.alloc (.cells cs t)).heap[W.heap.size]? = some (.cells cs t (0, 0)) := heap_alloc_new W _
theorem alloc_row2 (W : World) (o1 : Obj) (cs2 : Array Value) (t2 : TypeId) : ((W.alloc o1).alloc (.cells cs2 t2)).heap[W.heap.size + 1]? = some (.cells cs2 t2 (0, 0)) := by
  have := alloc_row (W.alloc o1) cs2 t2
  simpa using this
theorem alloc_row3 (W : World) (o1 o2 : Obj) (cs2 : Array Value) (t2 : TypeId) : (((W.alloc o1).alloc o2).alloc (.cells cs2 t2)).heap[W.heap.size + 1 + 1]? = some (.cells cs2 t2 (0, 0)) := by
  have := alloc_row ((W.alloc o1).alloc o2) cs2 t2
  simpa using this
theorem row_alloc {W : World} {b : Nat} {o : Obj} (h : W.heap[b]? = some o) (o' : Obj) : (W.alloc o').heap[b]? = some o := box_keep h (below_alloc _ _)

set_option maxHeartbeats 400000 in
theorem toField_any (n L R B : Int) (W : World) : Calls Try.prog 15 #[.agg #[.int .i64 n, .int .i64 L, .int .i64 R, .int .i64 B]] W (RetB (.agg #[.int .i64 n, .int .i64 L, .int .i64 R, .int .i64 B]) W) := by
  go_enter Try.func15, Try.ntmps15
  go_wp2
  exact bodyPost_ret (v := .agg #[.int .i64 n, .int .i64 L, .int .i64 R, .int .i64 B]) (by simp [results, Try.results15, go_sem]) rfl ⟨rfl, ((below_alloc _ _).alloc (by simp) _).alloc (by simp; omega) _⟩

set_option maxHeartbeats 400000 in
theorem eqField_same (n L R B : Int) (W : World) : Calls Try.prog 28 #[.agg #[.int .i64 n, .int .i64 L, .int .i64 R, .int .i64 B], .agg #[.int .i64 n, .int .i64 L, .int .i64 R, .int .i64 B]] W (RetB (.bool true) W) := by
  have hB : Hid (Below W.heap.size W ((W.alloc (.cells #[.int .i64 n, .int .i64 L, .int .i64 R, .int .i64 B] 25)).alloc (.cells #[.int .i64 n, .int .i64 L, .int .i64 R, .int .i64 B] 25))) := hide ((below_alloc _ _).alloc (by simp) _)
  go_enter Try.func28, Try.ntmps28
  go_wp2
  go_ret
  exact ⟨rfl, hB.out⟩

set_option maxHeartbeats 400000 in
theorem specIsE_any (n L R B : Int) (W : World) : Calls Try.prog 14 #[.agg #[.int .i64 n, .int .i64 L, .int .i64 R, .int .i64 B]] W (RetB (.bool (okF n L R B)) W) := by
  have hB0 := hide (below_alloc W (.cells #[.int .i64 n, .int .i64 L, .int .i64 R, .int .i64 B] 25))
  obtain ⟨r, hr⟩ : ∃ r, r = okF n L R B := ⟨_, rfl⟩
  have HR := hide hr
  rw [← hr]
  clear hr
  go_enter Try.func14, Try.ntmps14
  go_wp2_with fail
  refine (specIs_any n L R B _).mono ?_
  rw [← HR.out]
  rintro e w1 ⟨rfl, hb1⟩
  have hB1 := hide (Below.trans' hB0.out hb1)
  clear hb1
  go_wp2_with fail
  go_ret
  exact ⟨rfl, hB1.out⟩

theorem specIs_is {n L R B : Int} {b : Bool} (h : okF n L R B = b) (W : World) : Calls Try.prog 41 #[.agg #[.int .i64 n, .int .i64 L, .int .i64 R, .int .i64 B]] W (RetB (.bool b) W) := by rw [← h]; exact specIs_any n L R B W
theorem implIs_is {n L R B : Int} {b : Bool} (h : okF n L R B = b) (W : World) : Calls Try.prog 16 #[.agg #[.int .i64 n, .int .i64 L, .int .i64 R, .int .i64 B]] W (RetB (.bool b) W) := by rw [← h]; exact implIs_any n L R B W

/-! ### ExchangeSides -/
def swR (n L R B : Int) : Int × Int × Int × Int × Int := if okF n L R B = true then (n, L, B, R, 0) else (0, 0, 0, 0, 1)
def fcV (r : Int × Int × Int × Int × Int) : Value := .tuple #[.agg #[.int .i64 r.1, .int .i64 r.2.1, .int .i64 r.2.2.1, .int .i64 r.2.2.2.1], .int .i64 r.2.2.2.2]

set_option maxHeartbeats 1000000 in
theorem specSwap_any (n L R B : Int) (W : World) : Calls Try.prog 39 #[.agg #[.int .i64 n, .int .i64 L, .int .i64 R, .int .i64 B]] W (RetB (fcV (swR n L R B)) W) := by
  obtain ⟨W0, hW0⟩ : ∃ W0, W0 = (W.alloc (.cells #[.int .i64 n, .int .i64 L, .int .i64 R, .int .i64 B] 25)).alloc (.cells #[.int .i64 0, .int .i64 0, .int .i64 0, .int .i64 0] 25) := ⟨_, rfl⟩
  have hB0 : Hid (Below W.heap.size W W0) := by rw [hW0]; exact hide ((below_alloc _ _).alloc (by simp) _)
  have hX0 : Hid (FieldIn W0 W.heap.size n L R B) := by rw [hW0]; exact hide ((fieldIn_new W n L R B 25).keep (below_alloc _ _))
  have hR0 : Hid (W0.heap[W.heap.size + 1]? = some (.cells #[.int .i64 0, .int .i64 0, .int .i64 0, .int .i64 0] 25 (0, 0))) := by rw [hW0]; exact hide (alloc_row2 _ _ _ _)
  cases hok : okF n L R B
  · have HR : Hid (swR n L R B = (0, 0, 0, 0, 1)) := hide (by simp [swR, hok])
    have HOK := hide hok
    clear hok
    rw [HR.out]
    go_enter Try.func39, Try.ntmps39
    go_wp2_with fail
    rw [← hW0]
    clear hW0
    go_wp2_with fail
    refine (specIs_is HOK.out _).mono ?_
    rintro e w1 ⟨rfl, hb1⟩
    (try clear X0 X1 X2 X3)
    have hX1 := hide (hX0.out.keep hb1)
    obtain ⟨X0, X1, X2, X3⟩ := hX1.out
    (try clear R0 R1 R2 R3 Rf0 Rf1 Rf2 Rf3)
    have hR1 := hide (box_keep hR0.out hb1)
    obtain ⟨R0, R1, R2, R3, Rf0, Rf1, Rf2, Rf3⟩ := row4 hR1.out
    have hB1 := hide (Below.trans' hB0.out hb1)
    clear hb1
    go_wp2_with fail
    obtain ⟨r0, r1, r2, r3, _⟩ := row4 hR1.out
    exact bodyPost_ret (v := fcV (0, 0, 0, 0, 1)) (by simp [results, Try.results39, go_sem, r0, r1, r2, r3, fcV]) rfl ⟨rfl, below4 _ _ _ _ hB1.out (by omega)⟩
  · have HR : Hid (swR n L R B = (n, L, B, R, 0)) := hide (by simp [swR, hok])
    have HOK := hide hok
    clear hok
    rw [HR.out]
    go_enter Try.func39, Try.ntmps39
    go_wp2_with fail
    rw [← hW0]
    clear hW0
    go_wp2_with fail
    refine (specIs_is HOK.out _).mono ?_
    rintro e w1 ⟨rfl, hb1⟩
    (try clear X0 X1 X2 X3)
    have hX1 := hide (hX0.out.keep hb1)
    obtain ⟨X0, X1, X2, X3⟩ := hX1.out
    (try clear R0 R1 R2 R3 Rf0 Rf1 Rf2 Rf3)
    have hR1 := hide (box_keep hR0.out hb1)
    obtain ⟨R0, R1, R2, R3, Rf0, Rf1, Rf2, Rf3⟩ := row4 hR1.out
    have hB1 := hide (Below.trans' hB0.out hb1)
    clear hb1
    go_wp2_with fail
    obtain ⟨r0, r1, r2, r3, _⟩ := row4 hR1.out
    exact bodyPost_ret (v := fcV (n, L, B, R, 0)) (by simp [results, Try.results39, go_sem, r0, r1, r2, r3, fcV]) rfl ⟨rfl, below4 _ _ _ _ hB1.out (by omega)⟩

set_option maxHeartbeats 1000000 in
theorem implSwap_any (n L R B : Int) (W : World) : Calls Try.prog 40 #[.agg #[.int .i64 n, .int .i64 L, .int .i64 R, .int .i64 B]] W (RetB (fcV (swR n L R B)) W) := by
  obtain ⟨W0, hW0⟩ : ∃ W0, W0 = (W.alloc (.cells #[.int .i64 n, .int .i64 L, .int .i64 R, .int .i64 B] 25)).alloc (.cells #[.int .i64 0, .int .i64 0, .int .i64 0, .int .i64 0] 25) := ⟨_, rfl⟩
  have hB0 : Hid (Below W.heap.size W W0) := by rw [hW0]; exact hide ((below_alloc _ _).alloc (by simp) _)
  have hX0 : Hid (W0.heap[W.heap.size]? = some (.cells #[.int .i64 n, .int .i64 L, .int .i64 R, .int .i64 B] 25 (0, 0))) := by rw [hW0]; exact hide (row_alloc (alloc_row _ _ _) _)
  have hR0 : Hid (W0.heap[W.heap.size + 1]? = some (.cells #[.int .i64 0, .int .i64 0, .int .i64 0, .int .i64 0] 25 (0, 0))) := by rw [hW0]; exact hide (alloc_row2 _ _ _ _)
  obtain ⟨X0, X1, X2, X3, Xf0, Xf1, Xf2, Xf3⟩ := row4 hX0.out
  cases hok : okF n L R B
  · have HR : Hid (swR n L R B = (0, 0, 0, 0, 1)) := hide (by simp [swR, hok])
    have HOK := hide hok
    clear hok
    rw [HR.out]
    go_enter Try.func40, Try.ntmps40
    go_wp2_with fail
    rw [← hW0]
    clear hW0
    go_wp2_with fail
    refine (implIs_is HOK.out _).mono ?_
    rintro e w1 ⟨rfl, hb1⟩
    (try clear X0 X1 X2 X3 Xf0 Xf1 Xf2 Xf3)
    have hX1 := hide (box_keep hX0.out hb1)
    obtain ⟨X0, X1, X2, X3, Xf0, Xf1, Xf2, Xf3⟩ := row4 hX1.out
    (try clear R0 R1 R2 R3 Rf0 Rf1 Rf2 Rf3)
    have hR1 := hide (box_keep hR0.out hb1)
    obtain ⟨R0, R1, R2, R3, Rf0, Rf1, Rf2, Rf3⟩ := row4 hR1.out
    have hB1 := hide (Below.trans' hB0.out hb1)
    clear hb1
    go_wp2_with fail
    obtain ⟨r0, r1, r2, r3, _⟩ := row4 hR1.out
    exact bodyPost_ret (v := fcV (0, 0, 0, 0, 1)) (by simp [results, Try.results40, go_sem, r0, r1, r2, r3, fcV]) rfl ⟨rfl, below4 _ _ _ _ hB1.out (by omega)⟩
  · have HR : Hid (swR n L R B = (n, L, B, R, 0)) := hide (by simp [swR, hok])
    have HOK := hide hok
    clear hok
    rw [HR.out]
    go_enter Try.func40, Try.ntmps40
    go_wp2_with fail
    rw [← hW0]
    clear hW0
    go_wp2_with fail
    refine (implIs_is HOK.out _).mono ?_
    rintro e w1 ⟨rfl, hb1⟩
    (try clear X0 X1 X2 X3 Xf0 Xf1 Xf2 Xf3)
    have hX1 := hide (box_keep hX0.out hb1)
    obtain ⟨X0, X1, X2, X3, Xf0, Xf1, Xf2, Xf3⟩ := row4 hX1.out
    (try clear R0 R1 R2 R3 Rf0 Rf1 Rf2 Rf3)
    have hR1 := hide (box_keep hR0.out hb1)
    obtain ⟨R0, R1, R2, R3, Rf0, Rf1, Rf2, Rf3⟩ := row4 hR1.out
    have hB1 := hide (Below.trans' hB0.out hb1)
    clear hb1
    go_wp2_with fail
    obtain ⟨r0, r1, r2, r3, _⟩ := row4 hR1.out
    exact bodyPost_ret (v := fcV (n, L, B, R, 0)) (by simp [results, Try.results40, go_sem, r0, r1, r2, r3, fcV]) rfl ⟨rfl, below4 _ _ _ _ ((hB1.out.setCell (p := ⟨W.heap.size, 2, none⟩) (by simp) _).setCell (p := ⟨W.heap.size, 3, none⟩) (by simp) _) (by omega)⟩
end Go.Proofs.Ytdimmlpnfghndaa
