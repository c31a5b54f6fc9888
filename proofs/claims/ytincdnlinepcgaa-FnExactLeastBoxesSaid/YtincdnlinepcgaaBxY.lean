/-
  Dots and boxes: AddEdge, both texts.
-/
import Derived.Test.YtincdnlinepcgaaBxW
namespace Go.Proofs.Ytincdnlinepcgaa
open Go.RowKit
set_option linter.unusedVariables false

/-- A block of three cells, in the walk's spelling. -/
theorem row3 {w : World} {b : Nat} {x y z : Value} {t : TypeId} (h : w.heap[b]? = some (.cells #[x, y, z] t (0, 0))) :
    w.cell? ⟨b, 0, none⟩ = some x ∧ w.cell? ⟨b, 1, none⟩ = some y ∧ w.cell? ⟨b, 2, none⟩ = some z ∧ w.frozen? ⟨b, 0, none⟩ = false ∧ w.frozen? ⟨b, 1, none⟩ = false ∧ w.frozen? ⟨b, 2, none⟩ = false :=
  ⟨(cell_of_row _ _ 0 _ _ (0, 0) h).trans rfl, (cell_of_row _ _ 1 _ _ (0, 0) h).trans rfl, (cell_of_row _ _ 2 _ _ (0, 0) h).trans rfl, frozen_of_row _ _ 0 _ _ h, frozen_of_row _ _ 1 _ _ h, frozen_of_row _ _ 2 _ _ h⟩
theorem below3 {W w1 : World} {b : Nat} (x y z : Value) (h : Below W.heap.size W w1) (hb : W.heap.size ≤ b) : Below W.heap.size W (((w1.setCell ⟨b, 0, none⟩ x).setCell ⟨b, 1, none⟩ y).setCell ⟨b, 2, none⟩ z) :=
  ((h.setCell (p := ⟨b, 0, none⟩) hb _).setCell (p := ⟨b, 1, none⟩) hb _).setCell (p := ⟨b, 2, none⟩) hb _
theorem alloc2_rows (W : World) (a b : Array Value) (s t : TypeId) : ((W.alloc (.cells a s)).alloc (.cells b t)).heap[W.heap.size]? = some (.cells a s (0, 0)) ∧ ((W.alloc (.cells a s)).alloc (.cells b t)).heap[W.heap.size + 1]? = some (.cells b t (0, 0)) := by
  refine ⟨?_, ?_⟩
  · rw [Below.heap_alloc _ _ _ (by simp)]
    exact heap_alloc_new W _
  · have := heap_alloc_new (W.alloc (.cells a s)) (.cells b t (0, 0))
    simpa using this

/-- Wide, High, Edges, the boxes taken, the code. -/
def addR (w h E e : Int) : Int × Int × Int × Int × Int :=
  if okBox w h E then (if inn e 0 (nEdge w h - 1) then (if drawn E e then (0, 0, 0, 0, 5) else (w, h, withE E e, takenBy w h E (withE E e), 0)) else (0, 0, 0, 0, 2)) else (0, 0, 0, 0, 1)
def addV (r : Int × Int × Int × Int × Int) : Value := .tuple #[.agg #[.int .i64 r.1, .int .i64 r.2.1, .int .i64 r.2.2.1], .int .i64 r.2.2.2.1, .int .i64 r.2.2.2.2]

set_option maxRecDepth 100000 in
set_option maxHeartbeats 2000000 in
theorem implAdd_any (w h E e : Int) (W : World) : Calls Try.prog 30 #[.agg #[.int .i64 w, .int .i64 h, .int .i64 E], .int .i64 e] W (RetB (addV (addR w h E e)) W) := by
  obtain ⟨W0, hW0⟩ : ∃ W0, W0 = (W.alloc (.cells #[.int .i64 w, .int .i64 h, .int .i64 E] 25)).alloc (.cells #[.int .i64 0, .int .i64 0, .int .i64 0] 25) := ⟨_, rfl⟩
  have hB0 : Hid (Below W.heap.size W W0) := by rw [hW0]; exact hide ((below_alloc _ _).alloc (by simp) _)
  have hs0 : Hid (W0.heap.size = W.heap.size + 2) := by rw [hW0]; exact hide (by simp)
  have hrows := alloc2_rows W #[.int .i64 w, .int .i64 h, .int .i64 E] #[.int .i64 0, .int .i64 0, .int .i64 0] 25 25
  rw [← hW0] at hrows
  have hX0 := hide hrows.1
  have hR0 := hide hrows.2
  clear hrows
  obtain ⟨c0, c1, c2, _⟩ := row3 hX0.out
  obtain ⟨r, hr⟩ : ∃ r, r = addR w h E e := ⟨_, rfl⟩
  rw [← hr]
  unfold addR at hr
  cases hb : okBox w h E
  · have HR : Hid (r = (0, 0, 0, 0, 1)) := hide (by rw [hr, hb]; rfl)
    have HB := hide hb
    clear hb hr
    go_enter Try.func30, Try.ntmps30
    go_wp2_with fail
    rw [← hW0]
    clear hW0
    go_wp2_with fail
    refine (implIs_any w h E _).mono ?_
    rw [HB.out]
    rintro e1 w1 ⟨rfl, hb1⟩
    have hB1 := hide (hB0.out.trans (hb1.mono (by rw [hs0.out]; omega)))
    have hr1 := (hb1.block _ (by rw [hs0.out]; omega)).trans hR0.out
    obtain ⟨d0, d1, d2, f0, f1, f2⟩ := row3 hr1
    clear hb1 hr1 c0 c1 c2
    go_wp2_with fail
    refine bodyPost_ret (v := .tuple #[.agg #[.int .i64 0, .int .i64 0, .int .i64 0], .int .i64 0, .int .i64 1]) (by simp [results, Try.results30, go_sem, d0, d1, d2]) rfl ?_
    rw [HR.out]
    exact ⟨rfl, below3 _ _ _ hB1.out (by omega)⟩
  · rw [hb, if_pos rfl] at hr
    have HB := hide hb
    obtain ⟨h1, h2, h3, h4, _, _⟩ := okBox_parts hb
    obtain ⟨E1, E2⟩ := okBox_E hb
    obtain ⟨m, hm, hm24⟩ := edges_nat hb
    clear hb
    cases hin : inn e 0 (nEdge w h - 1)
    · have HR : Hid (r = (0, 0, 0, 0, 2)) := hide (by rw [hr, hin]; rfl)
      have hno : e < 0 ∨ (m : Int) ≤ e := by simp [inn, hm] at hin; omega
      have HM := hide hm
      clear hin hr hm
      by_cases he0 : e < 0
      · have hd0 : decide (e < 0) = true := decide_eq_true he0
        clear hno
        go_enter Try.func30, Try.ntmps30
        go_wp2_with fail
        rw [← hW0]
        clear hW0
        go_wp2_with fail
        refine (implIs_any w h E _).mono ?_
        rw [HB.out]
        rintro e1 w1 ⟨rfl, hb1⟩
        have hB1 := hide (hB0.out.trans (hb1.mono (by rw [hs0.out]; omega)))
        have hr1 := (hb1.block _ (by rw [hs0.out]; omega)).trans hR0.out
        obtain ⟨d0, d1, d2, f0, f1, f2⟩ := row3 hr1
        clear hb1 hr1 c0 c1 c2
        go_wp2_with fail
        refine bodyPost_ret (v := .tuple #[.agg #[.int .i64 0, .int .i64 0, .int .i64 0], .int .i64 0, .int .i64 2]) (by simp [results, Try.results30, go_sem, d0, d1, d2]) rfl ?_
        rw [HR.out]
        exact ⟨rfl, below3 _ _ _ hB1.out (by omega)⟩
      · have hd0 : decide (e < 0) = false := decide_eq_false he0
        have hdm : decide ((m : Int) ≤ e) = true := decide_eq_true (by omega)
        have hme : (m : Int) ≤ e := by omega
        clear hno
        go_enter Try.func30, Try.ntmps30
        go_wp2_with fail
        rw [← hW0]
        clear hW0
        go_wp2_with fail
        refine (implIs_any w h E _).mono ?_
        rw [HB.out]
        rintro e1 w1 ⟨rfl, hb1⟩
        have hB1 := hide (hB0.out.trans (hb1.mono (by rw [hs0.out]; omega)))
        have hr1 := (hb1.block _ (by rw [hs0.out]; omega)).trans hR0.out
        have hx1 := (hb1.block _ (by rw [hs0.out]; omega)).trans hX0.out
        have hs1 : W.heap.size + 2 ≤ w1.heap.size := by have := hb1.size; rw [hs0.out] at this; exact this
        have HS1 := hide hs1
        have HR1 := hide hr1
        obtain ⟨c0, c1, c2, _⟩ := row3 hx1
        clear hb1 hr1 hx1
        go_wp2_with fail
        refine (edges_any w h E h1 h2 h3 h4 _).mono ?_
        rw [HM.out]
        rintro e1 w2 ⟨rfl, hb2⟩
        have hB2 := hide (Below.trans' hB1.out hb2)
        have hr2 := (hb2.block _ (by have := HS1.out; omega)).trans HR1.out
        obtain ⟨d0, d1, d2, f0, f1, f2⟩ := row3 hr2
        clear hb2 hr2 c0 c1 c2
        go_wp2_with fail
        refine bodyPost_ret (v := .tuple #[.agg #[.int .i64 0, .int .i64 0, .int .i64 0], .int .i64 0, .int .i64 2]) (by simp [results, Try.results30, go_sem, d0, d1, d2]) rfl ?_
        rw [HR.out]
        exact ⟨rfl, below3 _ _ _ hB2.out (by omega)⟩
    · rw [hin, if_pos rfl] at hr
      obtain ⟨he0, hem⟩ : 0 ≤ e ∧ e < (m : Int) := by simp [inn, hm] at hin; omega
      have hn0 : ¬ e < 0 := by omega
      have hd0 : decide (e < 0) = false := decide_eq_false hn0
      have hdm : decide ((m : Int) ≤ e) = false := decide_eq_false (by omega)
      have HM := hide hm
      clear hin hm
      cases hdr : drawn E e
      · rw [hdr] at hr
        have HR : Hid (r = (w, h, withE E e, takenBy w h E (withE E e), 0)) := hide (by rw [hr]; rfl)
        have hbF : Hid (okBox w h (withE E e) = true) := hide (okBox_with HB.out he0 (by rw [HM.out]; exact hem))
        obtain ⟨F, hF⟩ : ∃ F, F = withE E e := ⟨_, rfl⟩
        obtain ⟨tk, htk⟩ : ∃ tk, tk = takenBy w h E F := ⟨_, rfl⟩
        rw [← hF] at HR hbF
        have HF := hide hF
        have HT := hide htk
        rw [← htk] at HR
        have HD := hide hdr
        clear hr hF htk hdr
        go_enter Try.func30, Try.ntmps30
        go_wp2_with fail
        rw [← hW0]
        clear hW0
        go_wp2_with fail
        refine (implIs_any w h E _).mono ?_
        rw [HB.out]
        rintro e1 w1 ⟨rfl, hb1⟩
        have hB1 := hide (hB0.out.trans (hb1.mono (by rw [hs0.out]; omega)))
        have hr1 := hide ((hb1.block _ (by rw [hs0.out]; omega)).trans hR0.out)
        have hx1 := hide ((hb1.block _ (by rw [hs0.out]; omega)).trans hX0.out)
        have hs1 : Hid (W.heap.size + 2 ≤ w1.heap.size) := hide (by have := hb1.size; rw [hs0.out] at this; exact this)
        obtain ⟨c0, c1, c2, _⟩ := row3 hx1.out
        clear hb1
        go_wp2_with fail
        refine (edges_any w h E h1 h2 h3 h4 _).mono ?_
        rw [HM.out]
        rintro e1 w2 ⟨rfl, hb2⟩
        have hB2 := hide (Below.trans' hB1.out hb2)
        have hr2 := hide ((hb2.block _ (by have := hs1.out; omega)).trans hr1.out)
        have hx2 := hide ((hb2.block _ (by have := hs1.out; omega)).trans hx1.out)
        have hs2 := hide (Nat.le_trans hs1.out hb2.size)
        clear c0 c1 c2 hb2
        obtain ⟨c0, c1, c2, _⟩ := row3 hx2.out
        go_wp2_with fail
        refine (isDrawn_any w h E e E1 E2 he0 (by omega) _).mono ?_
        rw [HD.out]
        rintro e1 w3 ⟨rfl, hb3⟩
        have hB3 := hide (Below.trans' hB2.out hb3)
        have hr3 := hide ((hb3.block _ (by have := hs2.out; omega)).trans hr2.out)
        have hx3 := hide ((hb3.block _ (by have := hs2.out; omega)).trans hx2.out)
        have hs3 := hide (Nat.le_trans hs2.out hb3.size)
        clear c0 c1 c2 hb3
        obtain ⟨c0, c1, c2, _⟩ := row3 hx3.out
        go_wp2_with fail
        refine (withEdge_any w h E e E1 E2 he0 (by omega) _).mono ?_
        rw [← HF.out]
        rintro e1 w4 ⟨rfl, hb4⟩
        have hB4 := hide (Below.trans' hB3.out hb4)
        have hr4 := hide ((hb4.block _ (by have := hs3.out; omega)).trans hr3.out)
        have hx4 := hide ((hb4.block _ (by have := hs3.out; omega)).trans hx3.out)
        have hs4 := hide (Nat.le_trans hs3.out hb4.size)
        clear c0 c1 c2 hb4
        go_wp2_with fail
        obtain ⟨W5, hW5⟩ : ∃ W5, W5 = w4.alloc (.cells #[.int .i64 w, .int .i64 h, .int .i64 F] 25) := ⟨_, rfl⟩
        have hB5 : Hid (Below W.heap.size W W5) := by rw [hW5]; exact hide (hB4.out.alloc hB4.out.size _)
        have hr5 : Hid (W5.heap[W.heap.size + 1]? = some (.cells #[.int .i64 0, .int .i64 0, .int .i64 0] 25 (0, 0))) := by rw [hW5]; exact hide ((Below.heap_alloc _ _ _ (by have := hs4.out; omega)).trans hr4.out)
        have hx5 : Hid (W5.heap[W.heap.size]? = some (.cells #[.int .i64 w, .int .i64 h, .int .i64 E] 25 (0, 0))) := by rw [hW5]; exact hide ((Below.heap_alloc _ _ _ (by have := hs4.out; omega)).trans hx4.out)
        have hy5 : Hid (W5.heap[w4.heap.size]? = some (.cells #[.int .i64 w, .int .i64 h, .int .i64 F] 25 (0, 0))) := by rw [hW5]; exact hide (heap_alloc_new w4 _)
        have hs5 : Hid (w4.heap.size < W5.heap.size) := by rw [hW5]; exact hide (by simp)
        rw [← hW5]
        clear hW5
        have hd6 : Below W5.heap.size W5 W5.drew := Below.drew (Below.refl _ _)
        have lt4 : W.heap.size + 1 < w4.heap.size := by have := hs4.out; omega
        obtain ⟨j0, j1, j2, _⟩ := row3 ((hd6.block _ (by have := hs5.out; omega)).trans hx5.out)
        obtain ⟨k0, k1, k2, _⟩ := row3 ((hd6.block _ hs5.out).trans hy5.out)
        have hrd := hide ((hd6.block _ (by have := hs5.out; omega)).trans hr5.out)
        have HD6 := hide hd6
        clear hd6
        go_region_held3 (fun W' => W'.cell? ⟨W.heap.size, 0, none⟩ = some (.int .i64 w) ∧ W'.cell? ⟨W.heap.size, 1, none⟩ = some (.int .i64 h) ∧ W'.cell? ⟨W.heap.size, 2, none⟩ = some (.int .i64 E) ∧ W'.cell? ⟨w4.heap.size, 0, none⟩ = some (.int .i64 w) ∧ W'.cell? ⟨w4.heap.size, 1, none⟩ = some (.int .i64 h) ∧ W'.cell? ⟨w4.heap.size, 2, none⟩ = some (.int .i64 F)) (first | exact ⟨j0, j1, j2, k0, k1, k2⟩ | exact ⟨cell_keep hb3 j0, cell_keep hb3 j1, cell_keep hb3 j2, cell_keep hb3 k0, cell_keep hb3 k1, cell_keep hb3 k2⟩ | (refine ⟨?_, ?_, ?_, ?_, ?_, ?_⟩ <;> simp [go_sem, *] <;> omega))
          ((go_at_call 54; refine (takenBy_any w h E F HB.out hbF.out _).mono ?_; rw [← HT.out]; rintro e1 w6 ⟨rfl, hb3⟩; have hr6 := (hb3.block _ (by have := HD6.out.size; have := hs5.out; omega)).trans hrd.out; obtain ⟨d0, d1, d2, f0, f1, f2⟩ := row3 hr6; have HB3 := hide hb3; clear hr6))
        go_wp2
        refine bodyPost_ret (v := .tuple #[.agg #[.int .i64 w, .int .i64 h, .int .i64 F], .int .i64 tk, .int .i64 0]) (by simp [results, Try.results30, go_sem, d0, d1, d2]) rfl ?_
        rw [HR.out]
        exact ⟨rfl, below3 _ _ _ (hB5.out.trans ((Below.trans' HD6.out HB3.out).mono (by have := hB5.out.size; exact this))) (by omega)⟩
      · rw [hdr] at hr
        have HR : Hid (r = (0, 0, 0, 0, 5)) := hide (by rw [hr]; rfl)
        have HD := hide hdr
        clear hr hdr
        go_enter Try.func30, Try.ntmps30
        go_wp2_with fail
        rw [← hW0]
        clear hW0
        go_wp2_with fail
        refine (implIs_any w h E _).mono ?_
        rw [HB.out]
        rintro e1 w1 ⟨rfl, hb1⟩
        have hB1 := hide (hB0.out.trans (hb1.mono (by rw [hs0.out]; omega)))
        have hr1 := hide ((hb1.block _ (by rw [hs0.out]; omega)).trans hR0.out)
        have hx1 := hide ((hb1.block _ (by rw [hs0.out]; omega)).trans hX0.out)
        have hs1 : Hid (W.heap.size + 2 ≤ w1.heap.size) := hide (by have := hb1.size; rw [hs0.out] at this; exact this)
        obtain ⟨c0, c1, c2, _⟩ := row3 hx1.out
        clear hb1
        go_wp2_with fail
        refine (edges_any w h E h1 h2 h3 h4 _).mono ?_
        rw [HM.out]
        rintro e1 w2 ⟨rfl, hb2⟩
        have hB2 := hide (Below.trans' hB1.out hb2)
        have hr2 := hide ((hb2.block _ (by have := hs1.out; omega)).trans hr1.out)
        have hx2 := hide ((hb2.block _ (by have := hs1.out; omega)).trans hx1.out)
        have hs2 := hide (Nat.le_trans hs1.out hb2.size)
        clear c0 c1 c2 hb2
        obtain ⟨c0, c1, c2, _⟩ := row3 hx2.out
        go_wp2_with fail
        refine (isDrawn_any w h E e E1 E2 he0 (by omega) _).mono ?_
        rw [HD.out]
        rintro e1 w3 ⟨rfl, hb3⟩
        have hB3 := hide (Below.trans' hB2.out hb3)
        obtain ⟨d0, d1, d2, f0, f1, f2⟩ := row3 ((hb3.block _ (by have := hs2.out; omega)).trans hr2.out)
        clear hb3 c0 c1 c2
        go_wp2_with fail
        refine bodyPost_ret (v := .tuple #[.agg #[.int .i64 0, .int .i64 0, .int .i64 0], .int .i64 0, .int .i64 5]) (by simp [results, Try.results30, go_sem, d0, d1, d2]) rfl ?_
        rw [HR.out]
        exact ⟨rfl, below3 _ _ _ hB3.out (by omega)⟩

set_option maxRecDepth 100000 in
set_option maxHeartbeats 2000000 in
theorem specAdd_any (w h E e : Int) (W : World) : Calls Try.prog 29 #[.agg #[.int .i64 w, .int .i64 h, .int .i64 E], .int .i64 e] W (RetB (addV (addR w h E e)) W) := by
  obtain ⟨W0, hW0⟩ : ∃ W0, W0 = (W.alloc (.cells #[.int .i64 w, .int .i64 h, .int .i64 E] 25)).alloc (.cells #[.int .i64 0, .int .i64 0, .int .i64 0] 25) := ⟨_, rfl⟩
  have hB0 : Hid (Below W.heap.size W W0) := by rw [hW0]; exact hide ((below_alloc _ _).alloc (by simp) _)
  have hs0 : Hid (W0.heap.size = W.heap.size + 2) := by rw [hW0]; exact hide (by simp)
  have hrows := alloc2_rows W #[.int .i64 w, .int .i64 h, .int .i64 E] #[.int .i64 0, .int .i64 0, .int .i64 0] 25 25
  rw [← hW0] at hrows
  have hX0 := hide hrows.1
  have hR0 := hide hrows.2
  clear hrows
  obtain ⟨c0, c1, c2, _⟩ := row3 hX0.out
  obtain ⟨r, hr⟩ : ∃ r, r = addR w h E e := ⟨_, rfl⟩
  rw [← hr]
  unfold addR at hr
  cases hb : okBox w h E
  · have HR : Hid (r = (0, 0, 0, 0, 1)) := hide (by rw [hr, hb]; rfl)
    have HB := hide hb
    clear hb hr
    go_enter Try.func29, Try.ntmps29
    go_wp2_with fail
    rw [← hW0]
    clear hW0
    go_wp2_with fail
    refine (specIs_any w h E _).mono ?_
    rw [HB.out]
    rintro e1 w1 ⟨rfl, hb1⟩
    have hB1 := hide (hB0.out.trans (hb1.mono (by rw [hs0.out]; omega)))
    obtain ⟨d0, d1, d2, f0, f1, f2⟩ := row3 ((hb1.block _ (by rw [hs0.out]; omega)).trans hR0.out)
    clear hb1 c0 c1 c2
    go_wp2_with fail
    refine bodyPost_ret (v := .tuple #[.agg #[.int .i64 0, .int .i64 0, .int .i64 0], .int .i64 0, .int .i64 1]) (by simp [results, Try.results29, go_sem, d0, d1, d2]) rfl ?_
    rw [HR.out]
    exact ⟨rfl, below3 _ _ _ hB1.out (by omega)⟩
  · rw [hb, if_pos rfl] at hr
    have HB := hide hb
    obtain ⟨h1, h2, h3, h4, _, _⟩ := okBox_parts hb
    obtain ⟨E1, E2⟩ := okBox_E hb
    obtain ⟨m, hm, hm24⟩ := edges_nat hb
    clear hb
    cases hin : inn e 0 (nEdge w h - 1)
    · have HR : Hid (r = (0, 0, 0, 0, 2)) := hide (by rw [hr, hin]; rfl)
      rw [hm] at hin
      have HM := hide hm
      have HI := hide hin
      clear hin hr hm
      go_enter Try.func29, Try.ntmps29
      go_wp2_with fail
      rw [← hW0]
      clear hW0
      go_wp2_with fail
      refine (specIs_any w h E _).mono ?_
      rw [HB.out]
      rintro e1 w1 ⟨rfl, hb1⟩
      have hB1 := hide (hB0.out.trans (hb1.mono (by rw [hs0.out]; omega)))
      have hr1 := hide ((hb1.block _ (by rw [hs0.out]; omega)).trans hR0.out)
      have hx1 := hide ((hb1.block _ (by rw [hs0.out]; omega)).trans hX0.out)
      have hs1 : Hid (W.heap.size + 2 ≤ w1.heap.size) := hide (by have := hb1.size; rw [hs0.out] at this; exact this)
      clear c0 c1 c2 hb1
      obtain ⟨c0, c1, c2, _⟩ := row3 hx1.out
      go_wp2_with fail
      refine (specCount_any w h E h1 h2 h3 h4 _).mono ?_
      rw [HM.out]
      rintro e1 w2 ⟨rfl, hb2⟩
      have hB2 := hide (Below.trans' hB1.out hb2)
      have hr2 := hide ((hb2.block _ (by have := hs1.out; omega)).trans hr1.out)
      have hs2 := hide (Nat.le_trans hs1.out hb2.size)
      clear c0 c1 c2 hb2
      go_wp2_with fail
      refine (inn_is _ _ _ HI.out _).mono ?_
      rintro e1 w3 ⟨rfl, hb3⟩
      have hB3 := hide (Below.trans' hB2.out hb3)
      obtain ⟨d0, d1, d2, f0, f1, f2⟩ := row3 ((hb3.block _ (by have := hs2.out; omega)).trans hr2.out)
      clear hb3
      go_wp2_with fail
      refine bodyPost_ret (v := .tuple #[.agg #[.int .i64 0, .int .i64 0, .int .i64 0], .int .i64 0, .int .i64 2]) (by simp [results, Try.results29, go_sem, d0, d1, d2]) rfl ?_
      rw [HR.out]
      exact ⟨rfl, below3 _ _ _ hB3.out (by omega)⟩
    · rw [hin, if_pos rfl] at hr
      rw [hm] at hin
      obtain ⟨he0, hem⟩ : 0 ≤ e ∧ e < (m : Int) := by simp [inn] at hin; omega
      have hu := u64_small he0 (by omega)
      have hdw := dg_walk (k := e) E1 E2
      have HM := hide hm
      have HI := hide hin
      clear hin hm
      cases hdr : drawn E e
      · rw [hdr] at hr
        have HR : Hid (r = (w, h, withE E e, takenBy w h E (withE E e), 0)) := hide (by rw [hr]; rfl)
        have hx0 : dg E e = 0 := dg_of_free hdr
        have hxd : (dg E e == 1) = false := by simp [hx0]
        obtain ⟨F, hF⟩ : ∃ F, F = withE E e := ⟨_, rfl⟩
        obtain ⟨tk, htk⟩ : ∃ tk, tk = takenBy w h E (withE E e) := ⟨_, rfl⟩
        rw [← htk, ← hF] at HR
        have HF := hide hF
        have HT := hide htk
        clear hr hF htk hdr hx0
        go_enter Try.func29, Try.ntmps29
        go_wp2_with fail
        rw [← hW0]
        clear hW0
        go_wp2_with fail
        refine (specIs_any w h E _).mono ?_
        rw [HB.out]
        rintro e1 w1 ⟨rfl, hb1⟩
        have hB1 := hide (hB0.out.trans (hb1.mono (by rw [hs0.out]; omega)))
        have hr1 := hide ((hb1.block _ (by rw [hs0.out]; omega)).trans hR0.out)
        have hx1 := hide ((hb1.block _ (by rw [hs0.out]; omega)).trans hX0.out)
        have hs1 : Hid (W.heap.size + 2 ≤ w1.heap.size) := hide (by have := hb1.size; rw [hs0.out] at this; exact this)
        clear c0 c1 c2 hb1
        obtain ⟨c0, c1, c2, _⟩ := row3 hx1.out
        go_wp2_with fail
        refine (specCount_any w h E h1 h2 h3 h4 _).mono ?_
        rw [HM.out]
        rintro e1 w2 ⟨rfl, hb2⟩
        have hB2 := hide (Below.trans' hB1.out hb2)
        have hr2 := hide ((hb2.block _ (by have := hs1.out; omega)).trans hr1.out)
        have hx2 := hide ((hb2.block _ (by have := hs1.out; omega)).trans hx1.out)
        have hs2 := hide (Nat.le_trans hs1.out hb2.size)
        clear c0 c1 c2 hb2
        go_wp2_with fail
        refine (inn_is _ _ _ HI.out _).mono ?_
        rintro e1 w3 ⟨rfl, hb3⟩
        have hB3 := hide (Below.trans' hB2.out hb3)
        have hr3 := hide ((hb3.block _ (by have := hs2.out; omega)).trans hr2.out)
        have hx3 := hide ((hb3.block _ (by have := hs2.out; omega)).trans hx2.out)
        have hs3 := hide (Nat.le_trans hs2.out hb3.size)
        clear hb3
        obtain ⟨c0, c1, c2, _⟩ := row3 hx3.out
        go_wp2_with fail
        refine (specMove_any w h E e HB.out he0 (by rw [HM.out]; exact hem) _).mono ?_
        rw [← HT.out, ← HF.out]
        rintro e1 w4 ⟨rfl, hb4⟩
        have hB4 := hide (Below.trans' hB3.out hb4)
        have hr4 := hide ((hb4.block _ (by have := hs3.out; omega)).trans hr3.out)
        have hs4 := hide (Nat.le_trans hs3.out hb4.size)
        clear hb4 c0 c1 c2
        have hr5 := (Below.heap_alloc w4 (.cells #[.int .i64 w, .int .i64 h, .int .i64 F] 25) _ (by have := hs4.out; omega)).trans hr4.out
        obtain ⟨d0, d1, d2, f0, f1, f2⟩ := row3 hr5
        have hB5 := hide (hB4.out.alloc hB4.out.size (.cells #[.int .i64 w, .int .i64 h, .int .i64 F] 25))
        clear hr5
        go_wp2_with fail
        refine bodyPost_ret (v := .tuple #[.agg #[.int .i64 w, .int .i64 h, .int .i64 F], .int .i64 tk, .int .i64 0]) (by simp [results, Try.results29, go_sem, d0, d1, d2]) rfl ?_
        rw [HR.out]
        exact ⟨rfl, below3 _ _ _ hB5.out (by omega)⟩
      · rw [hdr] at hr
        have HR : Hid (r = (0, 0, 0, 0, 5)) := hide (by rw [hr]; rfl)
        have hx0 : dg E e = 1 := dg_of_drawn hdr
        have hxd : (dg E e == 1) = true := by simp [hx0]
        clear hr hdr hx0
        go_enter Try.func29, Try.ntmps29
        go_wp2_with fail
        rw [← hW0]
        clear hW0
        go_wp2_with fail
        refine (specIs_any w h E _).mono ?_
        rw [HB.out]
        rintro e1 w1 ⟨rfl, hb1⟩
        have hB1 := hide (hB0.out.trans (hb1.mono (by rw [hs0.out]; omega)))
        have hr1 := hide ((hb1.block _ (by rw [hs0.out]; omega)).trans hR0.out)
        have hx1 := hide ((hb1.block _ (by rw [hs0.out]; omega)).trans hX0.out)
        have hs1 : Hid (W.heap.size + 2 ≤ w1.heap.size) := hide (by have := hb1.size; rw [hs0.out] at this; exact this)
        clear c0 c1 c2 hb1
        obtain ⟨c0, c1, c2, _⟩ := row3 hx1.out
        go_wp2_with fail
        refine (specCount_any w h E h1 h2 h3 h4 _).mono ?_
        rw [HM.out]
        rintro e1 w2 ⟨rfl, hb2⟩
        have hB2 := hide (Below.trans' hB1.out hb2)
        have hr2 := hide ((hb2.block _ (by have := hs1.out; omega)).trans hr1.out)
        have hx2 := hide ((hb2.block _ (by have := hs1.out; omega)).trans hx1.out)
        have hs2 := hide (Nat.le_trans hs1.out hb2.size)
        clear c0 c1 c2 hb2
        go_wp2_with fail
        refine (inn_is _ _ _ HI.out _).mono ?_
        rintro e1 w3 ⟨rfl, hb3⟩
        have hB3 := hide (Below.trans' hB2.out hb3)
        obtain ⟨d0, d1, d2, f0, f1, f2⟩ := row3 ((hb3.block _ (by have := hs2.out; omega)).trans hr2.out)
        obtain ⟨c0, c1, c2, _⟩ := row3 ((hb3.block _ (by have := hs2.out; omega)).trans hx2.out)
        clear hb3
        go_wp2_with fail
        refine bodyPost_ret (v := .tuple #[.agg #[.int .i64 0, .int .i64 0, .int .i64 0], .int .i64 0, .int .i64 5]) (by simp [results, Try.results29, go_sem, d0, d1, d2]) rfl ?_
        rw [HR.out]
        exact ⟨rfl, below3 _ _ _ hB3.out (by omega)⟩
end Go.Proofs.Ytincdnlinepcgaa
