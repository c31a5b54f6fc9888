/-
  What comes in, for laws of dots and boxes: a grid's three numbers opened; toBoxes.
-/
import Derived.Test.YtincdnlinepcgabBxU
import Derived.Test.YtincdnlinepcgabMk
import Derived.OpenShut
import Derived.ChangeOld
import Derived.Deep.Fields
import Derived.Lib.SmallJoins
namespace Go.Proofs.Ytincdnlinepcgab
open Go.ChangeShapes Go.WideShapes Go.ChangeAt Go.RowKit Go.Deep Go.Joins
variable {H : Type} {enc : TypeId × Value → H}

set_option maxRecDepth 100000 in
theorem open_boxes {W : World} {base : Nat} {v : Value} {d : DataW H} {p : List MemPlace} (hv : Value.okWide Try.prog W .any base 23 v)
    (h : DataW.Trod enc Try.prog W 0 (fun _ => true) true 23 v d p) : ∃ w h E : Int, v = .agg #[.int .i64 w, .int .i64 h, .int .i64 E] := by
  obtain ⟨c0, c1, c2, y0, y1, y2, m, rfl, rfl, rfl, hy0, hy1, hy2⟩ := open_agg3 Try.underlying23 (by kernel_rfl) (by kernel_rfl) hv h
  obtain ⟨x, e0, rfl, wx⟩ := DataW.trod_int Try.underlying2 hy0
  obtain ⟨y, e1, rfl, wy⟩ := DataW.trod_int Try.underlying2 hy1
  obtain ⟨f, e2, rfl, wf⟩ := DataW.trod_int Try.underlying2 hy2
  simp at e0 e1 e2
  subst e0 e1 e2
  exact ⟨x, y, f, rfl⟩

set_option maxHeartbeats 400000 in
theorem toBoxes_any (w h E : Int) (W : World) : Calls Try.prog 8 #[.agg #[.int .i64 w, .int .i64 h, .int .i64 E]] W (RetB (.agg #[.int .i64 w, .int .i64 h, .int .i64 E]) W) := by
  go_enter Try.func8, Try.ntmps8
  go_wp2
  exact bodyPost_ret (v := .agg #[.int .i64 w, .int .i64 h, .int .i64 E]) (by simp [results, Try.results8, go_sem]) rfl ⟨rfl, ((below_alloc _ _).alloc (by simp) _).alloc (by simp; omega) _⟩
end Go.Proofs.Ytincdnlinepcgab
