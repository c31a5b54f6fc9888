/-
  What comes in, for laws of dots and boxes: a grid's three numbers opened; the laws' helpers on it.
-/
import Derived.Test.YtincdnlinepcgaaBxW
import Derived.Test.YtincdnlinepcgaaMk
import Derived.OpenShut
import Derived.ChangeOld
import Derived.Deep.Fields
import Derived.Lib.SmallJoins
namespace Go.Proofs.Ytincdnlinepcgaa
open Go.ChangeShapes Go.WideShapes Go.ChangeAt Go.RowKit Go.Deep Go.Joins
variable {H : Type} {enc : TypeId × Value → H}

set_option maxRecDepth 100000 in
theorem open_boxes {W : World} {base : Nat} {v : Value} {d : DataW H} {p : List MemPlace} (hv : Value.okWide Try.prog W .any base 23 v)
    (h : DataW.Trod enc Try.prog W 0 (fun _ => true) true 23 v d p) : ∃ w h E : Int, v = .agg #[.int .i64 w, .int .i64 h, .int .i64 E] := by
  obtain ⟨c0, c1, c2, y0, y1, y2, m, rfl, rfl, rfl, hy0, hy1, hy2⟩ := open_agg3 Try.underlying23 (by kernel_rfl) (by kernel_rfl) hv h
  obtain ⟨x, e0, rfl, wx⟩ := DataW.trod_int Try.underlying2 hy0
  obtain ⟨y, e1, rfl, wy⟩ := DataW.trod_int Try.underlying2 hy1
  obtain ⟨f, e2, rfl, wf⟩ := DataW.trod_int Try.underlying2 hy2
  simp at e0 e1 e2
  subst e0 e1 e2
  exact ⟨x, y, f, rfl⟩

set_option maxHeartbeats 400000 in
theorem toBoxes_any (w h E : Int) (W : World) : Calls Try.prog 14 #[.agg #[.int .i64 w, .int .i64 h, .int .i64 E]] W (RetB (.agg #[.int .i64 w, .int .i64 h, .int .i64 E]) W) := by
  go_enter Try.func14, Try.ntmps14
  go_wp2
  exact bodyPost_ret (v := .agg #[.int .i64 w, .int .i64 h, .int .i64 E]) (by simp [results, Try.results14, go_sem]) rfl ⟨rfl, ((below_alloc _ _).alloc (by simp) _).alloc (by simp; omega) _⟩

set_option maxHeartbeats 400000 in
theorem eqBoxes_same (w h E : Int) (W : World) : Calls Try.prog 31 #[.agg #[.int .i64 w, .int .i64 h, .int .i64 E], .agg #[.int .i64 w, .int .i64 h, .int .i64 E]] W (RetB (.bool true) W) := by
  have hB : Hid (Below W.heap.size W ((W.alloc (.cells #[.int .i64 w, .int .i64 h, .int .i64 E] 25)).alloc (.cells #[.int .i64 w, .int .i64 h, .int .i64 E] 25))) := hide ((below_alloc _ _).alloc (by simp) _)
  go_enter Try.func31, Try.ntmps31
  go_wp2
  go_ret
  exact ⟨rfl, hB.out⟩

set_option maxHeartbeats 400000 in
theorem specIsE_any (w h E : Int) (W : World) : Calls Try.prog 13 #[.agg #[.int .i64 w, .int .i64 h, .int .i64 E]] W (RetB (.bool (okBox w h E)) W) := by
  have hB0 := hide (below_alloc W (.cells #[.int .i64 w, .int .i64 h, .int .i64 E] 25))
  obtain ⟨r, hr⟩ : ∃ r, r = okBox w h E := ⟨_, rfl⟩
  have HR := hide hr
  rw [← hr]
  clear hr
  go_enter Try.func13, Try.ntmps13
  go_wp2_with fail
  refine (specIs_any w h E _).mono ?_
  rw [← HR.out]
  rintro e w1 ⟨rfl, hb1⟩
  have hB1 := hide (Below.trans' hB0.out hb1)
  clear hb1
  go_wp2_with fail
  go_ret
  exact ⟨rfl, hB1.out⟩

theorem freeR_le (w h E : Int) : (freeR w h E).1.length ≤ 1048576 := by
  unfold freeR
  split
  · rename_i hb
    exact Nat.le_trans (freeE_le hb) (by omega)
  · simp
theorem withR_le (w h E n : Int) : (withR w h E n).1.length ≤ 1048576 := by
  unfold withR
  split
  · rename_i hb
    split
    · exact Nat.le_trans (withB_le hb) (by omega)
    · simp
  · simp
end Go.Proofs.Ytincdnlinepcgaa
