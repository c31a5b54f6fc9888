/-
  Dots and boxes: slices.MinFunc at positions.
-/
import Derived.Test.YtincdnlinepcgaaLi
namespace Go.Proofs.Ytincdnlinepcgaa
open Go.RowKit
set_option linter.unusedVariables false

theorem box_keep' {w w' : World} {b : Nat} {o : Obj} (h : w.heap[b]? = some o) (hB : Below w.heap.size w w') : w'.heap[b]? = some o := (hB.block b (block_lt h)).trans h
theorem row3' {w : World} {b : Nat} {x y z : Value} {t : TypeId} (h : w.heap[b]? = some (.cells #[x, y, z] t (0, 0))) :
    w.cell? ⟨b, 0, none⟩ = some x ∧ w.cell? ⟨b, 1, none⟩ = some y ∧ w.cell? ⟨b, 2, none⟩ = some z ∧ w.frozen? ⟨b, 0, none⟩ = false ∧ w.frozen? ⟨b, 1, none⟩ = false ∧ w.frozen? ⟨b, 2, none⟩ = false :=
  ⟨(cell_of_row _ _ 0 _ _ (0, 0) h).trans rfl, (cell_of_row _ _ 1 _ _ (0, 0) h).trans rfl, (cell_of_row _ _ 2 _ _ (0, 0) h).trans rfl, frozen_of_row _ _ 0 _ _ h, frozen_of_row _ _ 1 _ _ h, frozen_of_row _ _ 2 _ _ h⟩
theorem box_set3' {w : World} {b : Nat} {x y z x' y' z' : Value} {t : TypeId} (h : w.heap[b]? = some (.cells #[x, y, z] t (0, 0))) :
    (((w.setCell ⟨b, 0, none⟩ x').setCell ⟨b, 1, none⟩ y').setCell ⟨b, 2, none⟩ z').heap[b]? = some (.cells #[x', y', z'] t (0, 0)) :=
  heap_setCell_same _ b 2 _ t z' (heap_setCell_same _ b 1 _ t y' (heap_setCell_same _ b 0 _ t x' h))
theorem below3' {B : Nat} {W w1 : World} {b : Nat} (x y z : Value) (h : Below B W w1) (hb : B ≤ b) : Below B W (((w1.setCell ⟨b, 0, none⟩ x).setCell ⟨b, 1, none⟩ y).setCell ⟨b, 2, none⟩ z) :=
  ((h.setCell (p := ⟨b, 0, none⟩) hb _).setCell (p := ⟨b, 1, none⟩) hb _).setCell (p := ⟨b, 2, none⟩) hb _

set_option maxRecDepth 100000 in
set_option maxHeartbeats 4000000 in
theorem minFunc_any (w h : Int) (g : Nat) (c : Nat) (fs : List Int) (W : World) (hf : BoxesAt W g w h fs) (h0 : 0 < fs.length) (hl : fs.length ≤ 8) :
    Calls Try.prog 59 #[.slice (some ⟨g, 0, none⟩) fs.length c, .func (.func 60) #[] #[]] W
      (fun e W' => ∃ m : Int, e = .returned (.agg #[.int .i64 w, .int .i64 h, .int .i64 m]) ∧ m ∈ fs ∧ (∀ x ∈ fs, m ≤ x) ∧ Below W.heap.size W W') := by
  obtain ⟨n, hn⟩ : ∃ n, n = fs.length := ⟨_, rfl⟩
  rw [← hn] at hl h0 ⊢
  have HN := hide hn
  obtain ⟨z, hz⟩ : ∃ z, fs[0]? = some z := ⟨_, List.getElem?_eq_getElem (by rw [← hn]; exact h0)⟩
  have HZ := hide hz
  obtain ⟨d0, d1, d2⟩ := (hf.keep (below_alloc W (.cells #[.int .i64 0, .int .i64 0, .int .i64 0] 25))) 0 z hz
  rw [Nat.zero_mul] at d0
  rw [show 0 * 3 + 1 = 1 by rfl] at d1
  rw [show 0 * 3 + 2 = 2 by rfl] at d2
  obtain ⟨W0, hW0⟩ : ∃ W0, W0 = (W.alloc (.cells #[.int .i64 0, .int .i64 0, .int .i64 0] 25)).alloc (.cells #[.int .i64 w, .int .i64 h, .int .i64 z] 25) := ⟨_, rfl⟩
  have hB0 : Hid (Below W.heap.size W W0) := by rw [hW0]; exact hide ((below_alloc _ _).alloc (by simp) _)
  have hs0 : Hid (W0.heap.size = W.heap.size + 2) := by rw [hW0]; exact hide (by simp)
  have hrz : Hid (W0.heap[W.heap.size]? = some (.cells #[.int .i64 0, .int .i64 0, .int .i64 0] 25 (0, 0))) := by
    rw [hW0, Below.heap_alloc _ _ _ (by simp)]
    exact hide (heap_alloc_new W _)
  have hrm : Hid (W0.heap[W.heap.size + 1]? = some (.cells #[.int .i64 w, .int .i64 h, .int .i64 z] 25 (0, 0))) := by
    have := heap_alloc_new (W.alloc (.cells #[.int .i64 0, .int .i64 0, .int .i64 0] 25)) (.cells #[.int .i64 w, .int .i64 h, .int .i64 z] 25 (0, 0))
    rw [hW0]
    exact hide (by simpa using this)
  have hF0 := hide (hf.keep hB0.out)
  have hgl : g < W.heap.size := World.block_lt_of_cell? W _ (hf 0 z hz).1
  clear hf hn hz
  have hn1 : ¬ ((n : Int) < 1) := by omega
  go_enter Try.func59, Try.ntmps59
  go_wp2_with fail
  rw [← hW0]
  clear hW0 d0 d1 d2 hn1
  go_loopg [6] (n - 1) (fun g2 i wr => ∃ (k : Nat) (m : Int), k + g2 = n ∧ i = .int .i64 k ∧ 1 ≤ k ∧ wr.heap[W.heap.size]? = some (.cells #[.int .i64 0, .int .i64 0, .int .i64 0] 25 (0, 0)) ∧ wr.heap[W.heap.size + 1]? = some (.cells #[.int .i64 w, .int .i64 h, .int .i64 m] 25 (0, 0)) ∧ m ∈ fs ∧ (∀ x ∈ fs.take k, m ≤ x) ∧ Below (W.heap.size) W0 wr)
  case atStart => exact ⟨1, z, by omega, rfl, Nat.le_refl _, hrz.out, hrm.out, List.mem_of_getElem? HZ.out, fun x hx => by
    have hz1 : fs.take 1 = [z] := by rw [List.take_add_one, HZ.out]; simp
    rw [hz1] at hx
    simp at hx
    omega, Below.refl _ _⟩
  case round =>
    obtain ⟨k, m, hk, rfl, hk1, hz', hm', hmem, hmin, hB⟩ := hrel
    have HMEM := hide hmem
    have HMIN := hide hmin
    have HBW := hide hB
    have HZ' := hide hz'
    have HM' := hide hm'
    cases gk with
    | zero =>
      obtain rfl : k = n := by omega
      obtain ⟨d0, d1, d2, f0, f1, f2⟩ := row3' hz'
      obtain ⟨c0, c1, c2, _⟩ := row3' hm'
      have hfin : Hid (m ∈ fs ∧ (∀ x ∈ fs, m ≤ x) ∧ Below W.heap.size W (((wr.setCell ⟨W.heap.size, 0, none⟩ (.int .i64 w)).setCell ⟨W.heap.size, 1, none⟩ (.int .i64 h)).setCell ⟨W.heap.size, 2, none⟩ (.int .i64 m))) := hide
        ⟨hmem, fun x hx => hmin x (by rw [HN.out, List.take_length]; exact hx), below3' _ _ _ (hB0.out.trans hB) (Nat.le_refl _)⟩
      have hr4 := hide (box_set3' (x' := .int .i64 w) (y' := .int .i64 h) (z' := .int .i64 m) hz')
      clear hz' hm' hmem hmin hB
      go_wp2_with fail
      obtain ⟨j0, j1, j2, _⟩ := row3' hr4.out
      exact bodyPost_ret (v := .agg #[.int .i64 w, .int .i64 h, .int .i64 m]) (by simp [results, Try.results59, go_sem, j0, j1, j2]) rfl ⟨m, rfl, hfin.out⟩
    | succ g2 =>
      have hlt : k < n := by omega
      obtain ⟨y, hy⟩ : ∃ y, fs[k]? = some y := ⟨_, List.getElem?_eq_getElem (by rw [← HN.out]; exact hlt)⟩
      have hFr : BoxesAt wr g w h fs := fun k x hk => by
        obtain ⟨a0, a1, a2⟩ := hF0.out k x hk
        exact ⟨(hB.cell (p := ⟨g, k * 3, none⟩) hgl).trans a0, (hB.cell (p := ⟨g, k * 3 + 1, none⟩) hgl).trans a1, (hB.cell (p := ⟨g, k * 3 + 2, none⟩) hgl).trans a2⟩
      obtain ⟨d0, d1, d2⟩ := hFr k y hy
      obtain ⟨b0, b1, b2, _⟩ := row3' hm'
      have e0 : ∀ p : Past wr, p.to.cell? ⟨g, k * 3, none⟩ = some (.int .i64 w) := fun p => p.cell d0
      have e1 : ∀ p : Past wr, p.to.cell? ⟨g, k * 3 + 1, none⟩ = some (.int .i64 h) := fun p => p.cell d1
      have e2 : ∀ p : Past wr, p.to.cell? ⟨g, k * 3 + 2, none⟩ = some (.int .i64 y) := fun p => p.cell d2
      have c0 : ∀ p : Past wr, p.to.cell? ⟨W.heap.size + 1, 0, none⟩ = some (.int .i64 w) := fun p => p.cell b0
      have c1 : ∀ p : Past wr, p.to.cell? ⟨W.heap.size + 1, 1, none⟩ = some (.int .i64 h) := fun p => p.cell b1
      have c2 : ∀ p : Past wr, p.to.cell? ⟨W.heap.size + 1, 2, none⟩ = some (.int .i64 m) := fun p => p.cell b2
      have hk0 : (0 : Int) ≤ k := by omega
      have hkn : (k : Int) < n := by omega
      have HY := hide hy
      have HD := hide (And.intro d0 (And.intro d1 d2))
      obtain ⟨q, hq⟩ : ∃ q, q = cmpI y m := ⟨_, rfl⟩
      have HQ := hide hq
      have htk : Hid (fs.take (k + 1) = fs.take k ++ [y]) := hide (by rw [List.take_add_one, hy]; rfl)
      clear hy hz' hm' hmem hmin hB hFr d0 d1 d2 b0 b1 b2 hq
      by_cases hym : y < m
      · have hq0 : q = -1 := by rw [HQ.out]; unfold cmpI; rw [if_pos hym]
        have HQ2 : Hid (cmpI y m = -1) := hide (by rw [← HQ.out]; exact hq0)
        clear hq0 HQ
        have hcl : Hid (∀ W' : World, Calls Try.prog 60 #[.agg #[.int .i64 w, .int .i64 h, .int .i64 y], .agg #[.int .i64 w, .int .i64 h, .int .i64 m]] W' (RetB (.int .i64 (-1)) W')) := hide (fun W' => by have := cmpBoxes_any w h y m W'; rw [HQ2.out] at this; exact this)
        go_wp2_with fail
        refine wp_region_past (by kernel_rfl) (by kernel_rfl) ?_
        repeat (first | go_big_quiet_step ((with_reducible exact ret_past (hcl.out _))) | quiet_step ((with_reducible exact ret_past (hcl.out _))))
        refine wpQuiet_nil ?_
        rintro _ ⟨pq, rfl⟩
        have hm6 := box_keep' HM'.out pq.old
        have hz6 := box_keep' HZ'.out pq.old
        obtain ⟨a0, a1, a2, f0, f1, f2⟩ := row3' hm6
        have x0 := cell_keep pq.old HD.out.1
        have x1 := cell_keep pq.old HD.out.2.1
        have x2 := cell_keep pq.old HD.out.2.2
        have hm7 := hide (box_set3' (x' := .int .i64 w) (y' := .int .i64 h) (z' := .int .i64 y) hm6)
        have hz7 : Hid ((((pq.to.setCell ⟨W.heap.size + 1, 0, none⟩ (.int .i64 w)).setCell ⟨W.heap.size + 1, 1, none⟩ (.int .i64 h)).setCell ⟨W.heap.size + 1, 2, none⟩ (.int .i64 y)).heap[W.heap.size]? = some (.cells #[.int .i64 0, .int .i64 0, .int .i64 0] 25 (0, 0))) := hide
          ((((Below.heap_setCell _ _ _ _ (by simp)).trans (Below.heap_setCell _ _ _ _ (by simp))).trans (Below.heap_setCell _ _ _ _ (by simp))).trans hz6)
        have hB7 := hide (below3' (b := W.heap.size + 1) (.int .i64 w) (.int .i64 h) (.int .i64 y) (HBW.out.trans (pq.old.mono (by have := HBW.out.size; have := hs0.out; omega))) (by omega))
        clear hm6 hz6 c0 c1 c2 e0 e1 e2
        go_wp2_with fail
        go_roundg g2
        case rel => exact ⟨k + 1, y, by omega, by go_num, by omega, hz7.out, hm7.out, List.mem_of_getElem? HY.out, fun x hx => by
          rw [htk.out] at hx
          rcases List.mem_append.1 hx with h1 | h1
          · have := HMIN.out x h1; omega
          · simp at h1; omega, hB7.out⟩
        case measure => omega
      · have hq0 : 0 ≤ q := by rw [HQ.out]; unfold cmpI; rw [if_neg hym]; split <;> omega
        clear hq0
        obtain ⟨HQ3⟩ : Nonempty (Hid (cmpI y m = q ∧ 0 ≤ q)) := ⟨hide ⟨HQ.out.symm, by rw [HQ.out]; unfold cmpI; rw [if_neg hym]; split <;> omega⟩⟩
        have hq0 := HQ3.out.2
        have hcl : Hid (∀ W' : World, Calls Try.prog 60 #[.agg #[.int .i64 w, .int .i64 h, .int .i64 y], .agg #[.int .i64 w, .int .i64 h, .int .i64 m]] W' (RetB (.int .i64 q) W')) := hide (fun W' => by have := cmpBoxes_any w h y m W'; rw [HQ3.out.1] at this; exact this)
        go_wp2_with fail
        refine wp_region_past (by kernel_rfl) (by kernel_rfl) ?_
        repeat (first | go_big_quiet_step ((with_reducible exact ret_past (hcl.out _))) | quiet_step ((with_reducible exact ret_past (hcl.out _))))
        refine wpQuiet_nil ?_
        rintro _ ⟨pq, rfl⟩
        have hm6 := hide (box_keep' HM'.out pq.old)
        have hz6 := hide (box_keep' HZ'.out pq.old)
        have hB7 := hide (HBW.out.trans (pq.old.mono (by have := HBW.out.size; have := hs0.out; omega)))
        clear c0 c1 c2 e0 e1 e2
        go_wp2_with fail
        go_roundg g2
        case rel => exact ⟨k + 1, m, by omega, by go_num, by omega, hz6.out, hm6.out, HMEM.out, fun x hx => by
          rw [htk.out] at hx
          rcases List.mem_append.1 hx with h1 | h1
          · exact HMIN.out x h1
          · simp at h1; omega, hB7.out⟩
        case measure => omega
end Go.Proofs.Ytincdnlinepcgaa
