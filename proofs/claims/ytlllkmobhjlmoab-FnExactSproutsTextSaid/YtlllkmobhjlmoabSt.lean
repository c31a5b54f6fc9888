/-
  Sprouts positions: the law's own copies.
-/
import Derived.Test.YtlllkmobhjlmoabSs
import Derived.Test.YtlllkmobhjlmoabOpen3
namespace Go.Proofs.Ytlllkmobhjlmoab
open Go.RowKit
set_option linter.unusedVariables false

theorem row2' {w : World} {b : Nat} {x y : Value} {t : TypeId} (h : w.heap[b]? = some (.cells #[x, y] t (0, 0))) :
    w.cell? ⟨b, 0, none⟩ = some x ∧ w.cell? ⟨b, 1, none⟩ = some y ∧ w.frozen? ⟨b, 0, none⟩ = false ∧ w.frozen? ⟨b, 1, none⟩ = false :=
  ⟨(cell_of_row _ _ 0 _ _ (0, 0) h).trans rfl, (cell_of_row _ _ 1 _ _ (0, 0) h).trans rfl, frozen_of_row _ _ 0 _ _ h, frozen_of_row _ _ 1 _ _ h⟩
theorem box_set20 {w : World} {b : Nat} {x y x' : Value} {t : TypeId} (h : w.heap[b]? = some (.cells #[x, y] t (0, 0))) : (w.setCell ⟨b, 0, none⟩ x').heap[b]? = some (.cells #[x', y] t (0, 0)) := heap_setCell_same _ b 0 _ t x' h
theorem box_set21 {w : World} {b : Nat} {x y y' : Value} {t : TypeId} (h : w.heap[b]? = some (.cells #[x, y] t (0, 0))) : (w.setCell ⟨b, 1, none⟩ y').heap[b]? = some (.cells #[x, y'] t (0, 0)) := heap_setCell_same _ b 1 _ t y' h
theorem box_set2' {w : World} {b : Nat} {x y x' y' : Value} {t : TypeId} (h : w.heap[b]? = some (.cells #[x, y] t (0, 0))) :
    ((w.setCell ⟨b, 0, none⟩ x').setCell ⟨b, 1, none⟩ y').heap[b]? = some (.cells #[x', y'] t (0, 0)) := box_set21 (box_set20 h)

def NewSpr (n : Int) (X : List (List (List Int))) (W : World) (e : Ending) (W' : World) : Prop :=
  ∃ a c, e = .returned (.agg #[.int .i64 n, .slice a X.length c]) ∧ CubeOwn W' W.heap.size W'.heap.size a c X ∧ Below W.heap.size W W'

set_option maxRecDepth 100000 in
set_option maxHeartbeats 1000000 in
theorem toSprouts_any (n : Int) (a : Option Addr) (c : Nat) (X : List (List (List Int))) (W : World) (ha : CubeAt W a X) (hs : Small3 X) :
    Calls Try.prog 8 #[.agg #[.int .i64 n, .slice a X.length c]] W (NewSpr n X W) := by
  obtain ⟨W1, hW1⟩ : ∃ W1, W1 = ((W.alloc (.cells #[.int .i64 n, .slice a X.length c] 24)).alloc (.cells #[.int .i64 0, .slice none 0 0] 29)).alloc (.cells #[.int .i64 n, .slice none 0 0] 29) := ⟨_, rfl⟩
  have hB1 : Hid (Below W.heap.size W W1) := by rw [hW1]; exact hide (((below_alloc _ _).alloc (by simp) _).alloc (by simp; omega) _)
  have hs1 : Hid (W1.heap.size = W.heap.size + 3) := by rw [hW1]; exact hide (by simp)
  have hr11 : Hid (W1.heap[W.heap.size + 1]? = some (.cells #[.int .i64 0, .slice none 0 0] 29 (0, 0))) := by
    have := heap_alloc_new (W.alloc (.cells #[.int .i64 n, .slice a X.length c] 24)) (.cells #[.int .i64 0, .slice none 0 0] 29 (0, 0))
    rw [hW1, Below.heap_alloc _ _ _ (by simp)]
    exact hide (by simpa using this)
  have hr12 : Hid (W1.heap[W.heap.size + 1 + 1]? = some (.cells #[.int .i64 n, .slice none 0 0] 29 (0, 0))) := by
    have := heap_alloc_new ((W.alloc (.cells #[.int .i64 n, .slice a X.length c] 24)).alloc (.cells #[.int .i64 0, .slice none 0 0] 29)) (.cells #[.int .i64 n, .slice none 0 0] 29 (0, 0))
    rw [hW1]
    exact hide (by simpa using this)
  have hlB : Below (W.alloc (.cells #[.int .i64 n, .slice a X.length c] 24)).heap.size (W.alloc (.cells #[.int .i64 n, .slice a X.length c] 24)) W1 := by rw [hW1]; exact ((Below.refl _ _).alloc (Nat.le_refl _) _).alloc (by simp) _
  have d0 : W1.cell? ⟨W.heap.size, 0, none⟩ = some (.int .i64 n) := cell_keep hlB (by simp [go_sem])
  have d1 : W1.cell? ⟨W.heap.size, 1, none⟩ = some (.slice a X.length c) := cell_keep hlB (by simp [go_sem])
  have D0 := hide d0
  have D1 := hide d1
  have hA1 := hide (ha.keep hB1.out)
  clear ha hlB
  go_enter Try.func8, Try.ntmps8
  go_wp2_with fail
  rw [← hW1]
  (try go_wp2_with fail)
  clear hW1 d0 d1
  refine (toInt64SSS_any _ _ X _ hA1.out hs).mono ?_
  rintro e w2 ⟨a1, k1, rfl, ho1, hb1⟩
  have hu1 := box_keep hr11.out hb1
  have hu2 := box_keep hr12.out hb1
  obtain ⟨e0, e1, f0, f1⟩ := row2' hu1
  obtain ⟨d0, d1, h0, h1⟩ := row2' hu2
  have hB3 := (((Below.trans' hB1.out hb1).setCell (p := ⟨W.heap.size + 1 + 1, 1, none⟩) (by simp; omega) (.slice a1 X.length k1)).setCell (p := ⟨W.heap.size + 1, 0, none⟩) (by simp) (.int .i64 n)).setCell (p := ⟨W.heap.size + 1, 1, none⟩) (by simp) (.slice a1 X.length k1)
  have hfin : Hid (NewSpr n X W (.returned (.agg #[.int .i64 n, .slice a1 X.length k1])) (((w2.setCell ⟨W.heap.size + 1 + 1, 1, none⟩ (.slice a1 X.length k1)).setCell ⟨W.heap.size + 1, 0, none⟩ (.int .i64 n)).setCell ⟨W.heap.size + 1, 1, none⟩ (.slice a1 X.length k1))) := by
    refine hide ⟨a1, k1, rfl, ?_, hB3⟩
    exact (((ho1.store (b := W.heap.size + 1 + 1) (by rw [hs1.out]; omega)).store (b := W.heap.size + 1) (by rw [hs1.out]; omega)).store (b := W.heap.size + 1) (by rw [hs1.out]; omega)).mono (by rw [hs1.out]; omega) (by simp [World.setCell])
  have hz1 := hide (box_set2' (x' := .int .i64 n) (y' := .slice a1 X.length k1) ((Below.heap_setCell w2 ⟨W.heap.size + 1 + 1, 1, none⟩ (.slice a1 X.length k1) (W.heap.size + 1) (by simp)).trans hu1))
  clear hu1 hu2 hb1 hB3 ho1
  go_wp2_with fail
  obtain ⟨j0, j1, _⟩ := row2' hz1.out
  exact bodyPost_ret (v := .agg #[.int .i64 n, .slice a1 X.length k1]) (by simp [results, Try.results8, go_sem, j0, j1]) rfl hfin.out
end Go.Proofs.Ytlllkmobhjlmoab
