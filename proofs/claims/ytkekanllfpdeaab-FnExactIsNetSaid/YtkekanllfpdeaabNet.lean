/-
  Nets: what comes in, sizes, copies, comparisons.
-/
import Derived.Test.YtkekanllfpdeaabOpen
import Derived.Test.YtkekanllfpdeaabGrid
import Derived.Test.YtkekanllfpdeaabPast
namespace Go.Proofs.Ytkekanllfpdeaab
open Go.ChangeShapes Go.WideShapes Go.ChangeAt Go.RowKit Go.Deep
set_option linter.unusedVariables false
section
variable {H : Type} {enc : TypeId × Value → H}
set_option maxRecDepth 100000 in
theorem open_net {W : World} {base : Nat} {v : Value} {d : DataW H} {p : List MemPlace} (hv : Value.okWide Try.prog W .any base 42 v)
    (h : DataW.Trod enc Try.prog W 0 (fun _ => true) true 42 v d p) : ∃ s a c X, v = .agg #[.int .i64 s, .slice a X.length c] ∧ RowsAt W a X ∧ X.length ≤ 9223372036854775807 ∧ Fits X ∧ (Lit.int .i64 s).wf = true := by
  obtain ⟨cs, rfl, hsz⟩ := okWide_struct Try.underlying42 hv
  have hC : Try.prog.cellsOf 42 = 2 := by kernel_rfl
  have hC1 : Try.prog.cellsOf 2 = 1 := by kernel_rfl
  have hC2 : Try.prog.cellsOf 26 = 1 := by kernel_rfl
  rw [hC] at hsz
  obtain ⟨l⟩ := cs
  match l, hsz with
  | [c0, c1], _ =>
    obtain ⟨fuel, hf⟩ := h
    obtain ⟨y0, y1, n, _, _, h0, h1⟩ := trod_struct2 Try.underlying42 hf
    simp only [Value.cells, hC1, hC2, List.drop_zero, List.take_one, List.head?_cons, Option.toList, List.drop_succ_cons] at h0 h1
    obtain ⟨a, c, X, he, hr⟩ := open_rows h1
    simp at he
    subst he
    obtain ⟨s, hs0, _, hs⟩ := DataW.trod_int Try.underlying2 h0
    simp at hs0
    subst hs0
    exact ⟨s, a, c, X, rfl, hr.1, hr.2.1, hr.2.2, hs⟩
end
theorem szAll_range {X : List (List Int)} : -1 ≤ szAll X 1048576 ∧ (szAll X 1048576 < 0 → szAll X 1048576 = -1) := by
  unfold szAll
  split
  · omega
  · have := szRows_le X (1048576 - (X.length : Int)) (by omega)
    omega

set_option maxHeartbeats 400000 in
theorem szNet_any (s : Int) (a : Option Addr) (c : Nat) (X : List (List Int)) (w : World) (ha : RowsAt w a X) (hn : X.length ≤ 9223372036854775807) (hf : Fits X) :
    Calls Try.prog 24 #[.agg #[.int .i64 s, .slice a X.length c], .int .i64 1048576] w fun e w' => e = .returned (.int .i64 (szAll X 1048576)) ∧ Below w.heap.size w w' := by
  have hlo := szAll_range (X := X)
  obtain ⟨m, hs⟩ : ∃ m, m = szAll X 1048576 := ⟨_, rfl⟩
  rw [← hs] at hlo ⊢
  have HS := hide hs
  clear hs
  go_enter Try.func24, Try.ntmps24
  go_wp2_with fail
  have hB : Below w.heap.size w (w.alloc (.cells #[.int .i64 s, .slice a X.length c] 42)) := (Below.refl _ _).alloc (Nat.le_refl _) _
  refine (szInt64SS_any _ _ X _ _ (ha.keep hB) (by omega) (by omega) hn hf).mono ?_
  rintro e w1 ⟨he, hB1⟩
  rw [← HS.out] at he
  subst he
  by_cases h : m < 0
  · obtain rfl : m = -1 := by omega
    go_wp2_with fail
    go_ret
    exact ⟨rfl, Below.trans' hB hB1⟩
  · go_wp2_with fail
    go_ret
    exact ⟨rfl, Below.trans' hB hB1⟩

set_option maxHeartbeats 400000 in
theorem eqNet_same (s : Int) (a b : Option Addr) (c d : Nat) (X : List (List Int)) (w : World) (ha : RowsAt w a X) (hb : RowsAt w b X) (hs : Small X) :
    Calls Try.prog 28 #[.agg #[.int .i64 s, .slice a X.length c], .agg #[.int .i64 s, .slice b X.length d]] w fun e w' => e = .returned (.bool true) ∧ Below w.heap.size w w' := by
  have hB : Below w.heap.size w ((w.alloc (.cells #[.int .i64 s, .slice a X.length c] 45)).alloc (.cells #[.int .i64 s, .slice b X.length d] 45)) := ((Below.refl _ _).alloc (Nat.le_refl _) _).alloc (by simp) _
  go_enter Try.func28, Try.ntmps28
  go_wp2_with fail
  refine (eqInt64SS_same _ _ _ _ X _ (ha.keep hB) (hb.keep hB) hs).mono ?_
  rintro e w1 ⟨rfl, hq⟩
  go_wp2_with fail
  go_ret
  exact ⟨rfl, hB.trans hq.below⟩

theorem row2' {w : World} {b : Nat} {x y : Value} {t : TypeId} (h : w.heap[b]? = some (.cells #[x, y] t (0, 0))) :
    w.cell? ⟨b, 0, none⟩ = some x ∧ w.cell? ⟨b, 1, none⟩ = some y ∧ w.frozen? ⟨b, 0, none⟩ = false ∧ w.frozen? ⟨b, 1, none⟩ = false :=
  ⟨(cell_of_row _ _ 0 _ _ (0, 0) h).trans rfl, (cell_of_row _ _ 1 _ _ (0, 0) h).trans rfl, frozen_of_row _ _ 0 _ _ h, frozen_of_row _ _ 1 _ _ h⟩
theorem box_set20 {w : World} {b : Nat} {x y x' : Value} {t : TypeId} (h : w.heap[b]? = some (.cells #[x, y] t (0, 0))) : (w.setCell ⟨b, 0, none⟩ x').heap[b]? = some (.cells #[x', y] t (0, 0)) := heap_setCell_same _ b 0 _ t x' h
theorem box_set21 {w : World} {b : Nat} {x y y' : Value} {t : TypeId} (h : w.heap[b]? = some (.cells #[x, y] t (0, 0))) : (w.setCell ⟨b, 1, none⟩ y').heap[b]? = some (.cells #[x, y'] t (0, 0)) := heap_setCell_same _ b 1 _ t y' h
theorem box_set2' {w : World} {b : Nat} {x y x' y' : Value} {t : TypeId} (h : w.heap[b]? = some (.cells #[x, y] t (0, 0))) :
    ((w.setCell ⟨b, 0, none⟩ x').setCell ⟨b, 1, none⟩ y').heap[b]? = some (.cells #[x', y'] t (0, 0)) := box_set21 (box_set20 h)

def NewNet (n : Int) (X : List (List Int)) (W : World) (e : Ending) (W' : World) : Prop :=
  ∃ a c, e = .returned (.agg #[.int .i64 n, .slice a X.length c]) ∧ GridOwn W' W.heap.size W'.heap.size a c X ∧ Below W.heap.size W W'

set_option maxRecDepth 100000 in
set_option maxHeartbeats 1000000 in
theorem toNet_any (n : Int) (a : Option Addr) (c : Nat) (X : List (List Int)) (W : World) (ha : RowsAt W a X) (hs : Small X) :
    Calls Try.prog 26 #[.agg #[.int .i64 n, .slice a X.length c]] W (NewNet n X W) := by
  obtain ⟨W1, hW1⟩ : ∃ W1, W1 = ((W.alloc (.cells #[.int .i64 n, .slice a X.length c] 42)).alloc (.cells #[.int .i64 0, .slice none 0 0] 45)).alloc (.cells #[.int .i64 n, .slice none 0 0] 45) := ⟨_, rfl⟩
  have hB1 : Hid (Below W.heap.size W W1) := by rw [hW1]; exact hide (((below_alloc _ _).alloc (by simp) _).alloc (by simp; omega) _)
  have hs1 : Hid (W1.heap.size = W.heap.size + 3) := by rw [hW1]; exact hide (by simp)
  have hr11 : Hid (W1.heap[W.heap.size + 1]? = some (.cells #[.int .i64 0, .slice none 0 0] 45 (0, 0))) := by
    have := heap_alloc_new (W.alloc (.cells #[.int .i64 n, .slice a X.length c] 42)) (.cells #[.int .i64 0, .slice none 0 0] 45 (0, 0))
    rw [hW1, Below.heap_alloc _ _ _ (by simp)]
    exact hide (by simpa using this)
  have hr12 : Hid (W1.heap[W.heap.size + 1 + 1]? = some (.cells #[.int .i64 n, .slice none 0 0] 45 (0, 0))) := by
    have := heap_alloc_new ((W.alloc (.cells #[.int .i64 n, .slice a X.length c] 42)).alloc (.cells #[.int .i64 0, .slice none 0 0] 45)) (.cells #[.int .i64 n, .slice none 0 0] 45 (0, 0))
    rw [hW1]
    exact hide (by simpa using this)
  have hlB : Below (W.alloc (.cells #[.int .i64 n, .slice a X.length c] 42)).heap.size (W.alloc (.cells #[.int .i64 n, .slice a X.length c] 42)) W1 := by rw [hW1]; exact ((Below.refl _ _).alloc (Nat.le_refl _) _).alloc (by simp) _
  have d0 : W1.cell? ⟨W.heap.size, 0, none⟩ = some (.int .i64 n) := cell_keep hlB (by simp [go_sem])
  have d1 : W1.cell? ⟨W.heap.size, 1, none⟩ = some (.slice a X.length c) := cell_keep hlB (by simp [go_sem])
  have D0 := hide d0
  have D1 := hide d1
  have hA1 := hide (ha.keep hB1.out)
  clear ha hlB
  go_enter Try.func26, Try.ntmps26
  go_wp2_with fail
  rw [← hW1]
  (try go_wp2_with fail)
  clear hW1 d0 d1
  refine (toInt64SS_any _ _ X _ hA1.out hs).mono ?_
  rintro e w2 ⟨a1, k1, rfl, ho1, hb1⟩
  have hu1 := box_keep hr11.out hb1
  have hu2 := box_keep hr12.out hb1
  obtain ⟨e0, e1, f0, f1⟩ := row2' hu1
  obtain ⟨d0, d1, h0, h1⟩ := row2' hu2
  have hB3 := (((Below.trans' hB1.out hb1).setCell (p := ⟨W.heap.size + 1 + 1, 1, none⟩) (by simp; omega) (.slice a1 X.length k1)).setCell (p := ⟨W.heap.size + 1, 0, none⟩) (by simp) (.int .i64 n)).setCell (p := ⟨W.heap.size + 1, 1, none⟩) (by simp) (.slice a1 X.length k1)
  have hfin : Hid (NewNet n X W (.returned (.agg #[.int .i64 n, .slice a1 X.length k1])) (((w2.setCell ⟨W.heap.size + 1 + 1, 1, none⟩ (.slice a1 X.length k1)).setCell ⟨W.heap.size + 1, 0, none⟩ (.int .i64 n)).setCell ⟨W.heap.size + 1, 1, none⟩ (.slice a1 X.length k1))) := by
    refine hide ⟨a1, k1, rfl, ?_, hB3⟩
    exact (((ho1.store (b := W.heap.size + 1 + 1) (by rw [hs1.out]; omega)).store (b := W.heap.size + 1) (by rw [hs1.out]; omega)).store (b := W.heap.size + 1) (by rw [hs1.out]; omega)).mono (by rw [hs1.out]; omega) (by simp [World.setCell])
  have hz1 := hide (box_set2' (x' := .int .i64 n) (y' := .slice a1 X.length k1) ((Below.heap_setCell w2 ⟨W.heap.size + 1 + 1, 1, none⟩ (.slice a1 X.length k1) (W.heap.size + 1) (by simp)).trans hu1))
  clear hu1 hu2 hb1 hB3 ho1
  go_wp2_with fail
  obtain ⟨j0, j1, _⟩ := row2' hz1.out
  exact bodyPost_ret (v := .agg #[.int .i64 n, .slice a1 X.length k1]) (by simp [results, Try.results26, go_sem, j0, j1]) rfl hfin.out
end Go.Proofs.Ytkekanllfpdeaab
