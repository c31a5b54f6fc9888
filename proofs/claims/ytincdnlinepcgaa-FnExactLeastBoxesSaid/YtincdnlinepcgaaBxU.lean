/-
  Dots and boxes: the model's move.
-/
import Derived.Test.YtincdnlinepcgaaBxT
import Derived.IntWalk
namespace Go.Proofs.Ytincdnlinepcgaa
open Go.RowKit
set_option linter.unusedVariables false

theorem okBox_with {w h E k : Int} (hb : okBox w h E = true) (hk0 : 0 ≤ k) (hk : k < nEdge w h) : okBox w h (withE E k) = true := by
  obtain ⟨h1, h2, h3, h4, h5, h6⟩ := okBox_parts hb
  exact okBox_mk h1 h2 h3 h4 (withE_nonneg _ _) (withE_lt h5 h6 (by omega))

set_option maxRecDepth 100000 in
set_option maxHeartbeats 1000000 in
theorem specMove_any (w h E k : Int) (hb : okBox w h E = true) (hk0 : 0 ≤ k) (hk : k < nEdge w h) (W : World) :
    Calls Try.prog 51 #[.agg #[.int .i64 w, .int .i64 h, .int .i64 E], .int .i64 k] W (RetB (.tuple #[.agg #[.int .i64 w, .int .i64 h, .int .i64 (withE E k)], .int .i64 (takenBy w h E (withE E k))]) W) := by
  obtain ⟨m, hm, hm24⟩ := edges_nat hb
  have hk24 : k < 24 := by omega
  obtain ⟨e1, e2⟩ := okBox_E hb
  have hbF := okBox_with hb hk0 hk
  have hdiff := takenBy_diff hb hk0
  have hl1 := withB_le (n := 4) hb
  have hl2 := withB_le (n := 4) hbF
  have hor := or_walk (k := k) e1 e2 (by omega)
  have hsh := shl_walk64 (k := k) (by omega)
  have hu := u64_small hk0 (by omega)
  obtain ⟨F, hF⟩ : ∃ F, F = withE E k := ⟨_, rfl⟩
  rw [← hF] at hbF hdiff hl2 hor ⊢
  obtain ⟨L1, hL1⟩ : ∃ L1, L1 = withB w h E 4 := ⟨_, rfl⟩
  obtain ⟨L2, hL2⟩ : ∃ L2, L2 = withB w h F 4 := ⟨_, rfl⟩
  obtain ⟨n1, hn1⟩ : ∃ n1, n1 = L1.length := ⟨_, rfl⟩
  obtain ⟨n2, hn2⟩ : ∃ n2, n2 = L2.length := ⟨_, rfl⟩
  rw [← hL1, ← hn1] at hl1 hdiff
  rw [← hL2, ← hn2] at hl2 hdiff
  have HD := hide hdiff
  have H1 := hide (And.intro hL1 hn1)
  have H2 := hide (And.intro hL2 hn2)
  clear hF hL1 hL2 hn1 hn2 hdiff hm hm24 hk
  obtain ⟨W0, hW0⟩ : ∃ W0, W0 = (W.alloc (.cells #[.int .i64 w, .int .i64 h, .int .i64 E] 25)).alloc (.cells #[.int .i64 0, .int .i64 0, .int .i64 0] 25) := ⟨_, rfl⟩
  have hB0 : Below W.heap.size W W0 := by rw [hW0]; exact (below_alloc _ _).alloc (by simp) _
  have hs0 : W0.heap.size = W.heap.size + 2 := by rw [hW0]; simp
  have hx0 : W0.heap[W.heap.size]? = some (.cells #[.int .i64 w, .int .i64 h, .int .i64 E] 25 (0, 0)) := by
    rw [hW0, Below.heap_alloc _ _ _ (by simp)]
    exact heap_alloc_new W _
  have hr0 : W0.heap[W.heap.size + 1]? = some (.cells #[.int .i64 0, .int .i64 0, .int .i64 0] 25 (0, 0)) := by
    have := heap_alloc_new (W.alloc (.cells #[.int .i64 w, .int .i64 h, .int .i64 E] 25)) (.cells #[.int .i64 0, .int .i64 0, .int .i64 0] 25 (0, 0))
    rw [hW0]
    simpa using this
  have c0 : W0.cell? ⟨W.heap.size, 0, none⟩ = some (.int .i64 w) := (cell_of_row _ _ 0 _ _ (0, 0) hx0).trans rfl
  have c1 : W0.cell? ⟨W.heap.size, 1, none⟩ = some (.int .i64 h) := (cell_of_row _ _ 1 _ _ (0, 0) hx0).trans rfl
  have c2 : W0.cell? ⟨W.heap.size, 2, none⟩ = some (.int .i64 E) := (cell_of_row _ _ 2 _ _ (0, 0) hx0).trans rfl
  have HB0 := hide hB0
  have HS0 := hide hs0
  have HX0 := hide hx0
  have HR0 := hide hr0
  clear hB0 hs0 hx0 hr0
  go_enter Try.func51, Try.ntmps51
  go_wp2_with fail
  rw [← hW0]
  clear hW0
  go_wp2_with fail
  refine (specWith_any w h E 4 hb _).mono ?_
  rw [← H1.out.1]
  rintro e w1 ⟨a1, l1, rfl, ho1, hb1⟩
  rw [← H1.out.2]
  have hx1 := (hb1.block _ (by rw [HS0.out]; omega)).trans HX0.out
  have hr1 := (hb1.block _ (by rw [HS0.out]; omega)).trans HR0.out
  have hB1 : Below W.heap.size W w1 := HB0.out.trans (hb1.mono (by rw [HS0.out]; omega))
  have hs1 : W.heap.size + 2 ≤ w1.heap.size := by have := hb1.size; rw [HS0.out] at this; exact this
  have c0 : w1.cell? ⟨W.heap.size, 0, none⟩ = some (.int .i64 w) := (cell_of_row _ _ 0 _ _ (0, 0) hx1).trans rfl
  have c1 : w1.cell? ⟨W.heap.size, 1, none⟩ = some (.int .i64 h) := (cell_of_row _ _ 1 _ _ (0, 0) hx1).trans rfl
  have c2 : w1.cell? ⟨W.heap.size, 2, none⟩ = some (.int .i64 E) := (cell_of_row _ _ 2 _ _ (0, 0) hx1).trans rfl
  have f2 : w1.frozen? ⟨W.heap.size, 2, none⟩ = false := frozen_of_row _ _ 2 _ _ hx1
  have hx2 : Hid ((w1.setCell ⟨W.heap.size, 2, none⟩ (.int .i64 F)).heap[W.heap.size]? = some (.cells #[.int .i64 w, .int .i64 h, .int .i64 F] 25 (0, 0))) := hide (heap_setCell_same w1 W.heap.size 2 _ _ (.int .i64 F) hx1)
  have hr2 : Hid ((w1.setCell ⟨W.heap.size, 2, none⟩ (.int .i64 F)).heap[W.heap.size + 1]? = some (.cells #[.int .i64 0, .int .i64 0, .int .i64 0] 25 (0, 0))) := hide ((Below.heap_setCell _ _ _ _ (by simp)).trans hr1)
  have hB2 : Hid (Below W.heap.size W (w1.setCell ⟨W.heap.size, 2, none⟩ (.int .i64 F))) := hide (hB1.setCell (p := ⟨W.heap.size, 2, none⟩) (Nat.le_refl _) _)
  have hs2 : Hid (W.heap.size + 2 ≤ (w1.setCell ⟨W.heap.size, 2, none⟩ (.int .i64 F)).heap.size) := hide (by simpa [World.setCell] using hs1)
  clear hx1 hr1 hB1 hb1 ho1 hs1
  go_wp2_with fail
  obtain ⟨W2, hW2⟩ : ∃ W2, W2 = w1.setCell ⟨W.heap.size, 2, none⟩ (.int .i64 F) := ⟨_, rfl⟩
  rw [← hW2] at hx2 hr2 hB2 hs2 ⊢
  clear hW2 c0 c1 c2 f2
  have hbx : BoxIn W2 W.heap.size w h F := ⟨(cell_of_row _ _ 0 _ _ (0, 0) hx2.out).trans rfl, (cell_of_row _ _ 1 _ _ (0, 0) hx2.out).trans rfl, (cell_of_row _ _ 2 _ _ (0, 0) hx2.out).trans rfl⟩
  have hd6 : Below W2.heap.size W2 W2.drew := Below.drew (Below.refl _ _)
  obtain ⟨k0, k1, k2⟩ := hbx.keep hd6
  have hrd := (hd6.block _ (by have := hs2.out; omega)).trans hr2.out
  have HRD := hide hrd
  have HD6 := hide hd6
  have hsd : Hid (W.heap.size + 2 ≤ W2.drew.heap.size) := hs2
  clear hbx hrd hd6
  have hwr : IntKind.i64.wrap ((n2 : Int) - (n1 : Int)) = (n2 : Int) - (n1 : Int) := IntWalk.i64_in _ (by omega)
  go_region_held3 (fun W' => W'.cell? ⟨W.heap.size, 0, none⟩ = some (.int .i64 w) ∧ W'.cell? ⟨W.heap.size, 1, none⟩ = some (.int .i64 h) ∧ W'.cell? ⟨W.heap.size, 2, none⟩ = some (.int .i64 F)) (first | exact ⟨k0, k1, k2⟩ | exact ⟨cell_keep hb3 k0, cell_keep hb3 k1, cell_keep hb3 k2⟩ | (refine ⟨?_, ?_, ?_⟩ <;> simp [go_sem, g0, g1, g2]))
    ((go_at_call 46; refine (specWith_any w h F 4 hbF _).mono ?_; rw [← H2.out.1]; rintro e w3 ⟨a2, l2, rfl, ho2, hb3⟩; rw [← H2.out.2]; have hr3 := (hb3.block _ (by have := hsd.out; omega)).trans HRD.out; have d0 : w3.cell? ⟨W.heap.size + 1, 0, none⟩ = some (.int .i64 0) := (cell_of_row _ _ 0 _ _ (0, 0) hr3).trans rfl; have d1 : w3.cell? ⟨W.heap.size + 1, 1, none⟩ = some (.int .i64 0) := (cell_of_row _ _ 1 _ _ (0, 0) hr3).trans rfl; have d2 : w3.cell? ⟨W.heap.size + 1, 2, none⟩ = some (.int .i64 0) := (cell_of_row _ _ 2 _ _ (0, 0) hr3).trans rfl; have f0 : w3.frozen? ⟨W.heap.size + 1, 0, none⟩ = false := frozen_of_row _ _ 0 _ _ hr3; have f1 : w3.frozen? ⟨W.heap.size + 1, 1, none⟩ = false := frozen_of_row _ _ 1 _ _ hr3; have f2 : w3.frozen? ⟨W.heap.size + 1, 2, none⟩ = false := frozen_of_row _ _ 2 _ _ hr3; have g0 := cell_keep hb3 k0; have g1 := cell_keep hb3 k1; have g2 := cell_keep hb3 k2; have HB3 := hide hb3; clear hr3))
  go_wp2
  have hb4 : Below W.heap.size W (((w3.setCell ⟨W.heap.size + 1, 0, none⟩ (.int .i64 w)).setCell ⟨W.heap.size + 1, 1, none⟩ (.int .i64 h)).setCell ⟨W.heap.size + 1, 2, none⟩ (.int .i64 F)) :=
    (((hB2.out.trans (((HD6.out).trans (HB3.out.mono (Nat.le_refl _))).mono (by have := hs2.out; omega))).setCell (p := ⟨W.heap.size + 1, 0, none⟩) (by simp) _).setCell (p := ⟨W.heap.size + 1, 1, none⟩) (by simp) _).setCell (p := ⟨W.heap.size + 1, 2, none⟩) (by simp) _
  exact bodyPost_ret (v := .tuple #[.agg #[.int .i64 w, .int .i64 h, .int .i64 F], .int .i64 (↑n2 - ↑n1)]) (by simp [results, Try.results51, go_sem, d0, d1, d2]) rfl ⟨by rw [HD.out], hb4⟩
end Go.Proofs.Ytincdnlinepcgaa
