/-
  Dots and boxes, for texts: a position that comes in opened.
-/
import Derived.Test.YtincdnlinepcgaaDoorTb
namespace Go.Proofs.YtincdnlinepcgaaDoor
open Go.ChangeShapes Go.WideShapes Go.ChangeAt Go.RowKit Go.Deep Go.Joins
variable {H : Type} {enc : TypeId × Value → H}

set_option maxRecDepth 100000 in
theorem open_boxes {W : World} {base : Nat} {v : Value} {d : DataW H} {p : List MemPlace} (hv : Value.okWide Tryd.prog W .any base 23 v)
    (h : DataW.Trod enc Tryd.prog W 0 (fun _ => true) true 23 v d p) : ∃ w h E : Int, v = .agg #[.int .i64 w, .int .i64 h, .int .i64 E] := by
  obtain ⟨c0, c1, c2, y0, y1, y2, m, rfl, rfl, rfl, hy0, hy1, hy2⟩ := open_agg3 Tryd.underlying23 (by kernel_rfl) (by kernel_rfl) hv h
  obtain ⟨x, e0, rfl, wx⟩ := DataW.trod_int Tryd.underlying2 hy0
  obtain ⟨y, e1, rfl, wy⟩ := DataW.trod_int Tryd.underlying2 hy1
  obtain ⟨f, e2, rfl, wf⟩ := DataW.trod_int Tryd.underlying2 hy2
  simp at e0 e1 e2
  subst e0 e1 e2
  exact ⟨x, y, f, rfl⟩

set_option maxHeartbeats 400000 in
theorem toBoxes_any (w h E : Int) (W : World) : Calls Tryd.prog 6 #[.agg #[.int .i64 w, .int .i64 h, .int .i64 E]] W (RetB (.agg #[.int .i64 w, .int .i64 h, .int .i64 E]) W) := by
  go_enter Tryd.func6, Tryd.ntmps6
  go_wp2
  exact bodyPost_ret (v := .agg #[.int .i64 w, .int .i64 h, .int .i64 E]) (by simp [results, Tryd.results6, go_sem]) rfl ⟨rfl, ((below_alloc _ _).alloc (by simp) _).alloc (by simp; omega) _⟩
end Go.Proofs.YtincdnlinepcgaaDoor
