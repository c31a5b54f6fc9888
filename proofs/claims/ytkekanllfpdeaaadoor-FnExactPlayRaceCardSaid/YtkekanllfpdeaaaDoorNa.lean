/-
  Nodes that are taken: isTurnOfFirst, with, freeOn, isFull, endOfMaking, endOfRace; checkSolve.
-/
import Derived.Test.YtkekanllfpdeaaaDoorBs
namespace Go.Proofs.YtkekanllfpdeaaaDoor
open Go.RowKit
set_option linter.unusedVariables false

theorem row_alloc {w : World} {k : Nat} {o : Obj} (h : w.heap[k]? = some o) (x : Obj) : (w.alloc x).heap[k]? = some o := by
  have hk := (Array.getElem?_eq_some_iff.1 h).1
  exact (Below.heap_alloc w x k hk).trans h
theorem alloc_row2 (w : World) (x : Obj) (cs : Array Value) (t : TypeId) : ((w.alloc x).alloc (.cells cs t)).heap[w.heap.size + 1]? = some (.cells cs t (0, 0)) := by
  have := heap_alloc_new (w.alloc x) (.cells cs t)
  simpa using this
theorem St.big {n F S : Int} (h : St n F S) : F < 65536 ∧ S < 65536 := by have := h.lt; omega

set_option maxHeartbeats 1000000 in
theorem isTurn_any (F S : Int) (f0 : 0 ≤ F) (f1 : F < 65536) (s0 : 0 ≤ S) (s1 : S < 65536) (W : World) : Calls Tryd.prog 72 #[.agg #[.int .i64 F, .int .i64 S]] W (RetB (.bool (t1 F S)) W) := by
  obtain ⟨yF, hyF⟩ : ∃ y, y = ones F := ⟨_, rfl⟩
  obtain ⟨yS, hyS⟩ : ∃ y, y = ones S := ⟨_, rfl⟩
  have HR : Hid (t1 F S = (yF == yS)) := hide (by unfold t1; rw [← hyF, ← hyS]; by_cases e : yF = yS <;> simp [e])
  have HCF : Hid (∀ V : World, Calls Tryd.prog 128 #[.int .i64 F] V (RetB (.int .i64 yF) V)) := hide (fun V => by rw [hyF]; exact countNodes_any F f0 f1 V)
  have HCS : Hid (∀ V : World, Calls Tryd.prog 128 #[.int .i64 S] V (RetB (.int .i64 yS) V)) := hide (fun V => by rw [hyS]; exact countNodes_any S s0 s1 V)
  obtain ⟨W0, hW0⟩ : ∃ W0, W0 = W.alloc (.cells #[.int .i64 F, .int .i64 S] 92) := ⟨_, rfl⟩
  have hB0 : Hid (Below W.heap.size W W0) := by rw [hW0]; exact hide (below_alloc _ _)
  have hX0 : Hid (W0.heap[W.heap.size]? = some (.cells #[.int .i64 F, .int .i64 S] 92 (0, 0))) := by rw [hW0]; exact hide (alloc_row _ _ _)
  obtain ⟨x0, x1, _⟩ := row2' hX0.out
  have q0 : ∀ p : Past W0, p.to.cell? ⟨W.heap.size, 0, none⟩ = some (.int .i64 F) := fun p => p.cell x0
  have q1 : ∀ p : Past W0, p.to.cell? ⟨W.heap.size, 1, none⟩ = some (.int .i64 S) := fun p => p.cell x1
  rw [HR.out]
  clear hyF hyS x0 x1
  go_enter Tryd.func72, Tryd.ntmps72
  go_wp2_with fail
  rw [← hW0]
  clear hW0
  (try go_wp2_with fail)
  refine wp_region_past (by kernel_rfl) (by kernel_rfl) ?_
  repeat (first | go_big_quiet_step ((first | (go_at_call 128; (with_reducible exact ret_past (HCF.out _))) | (go_at_call 128; (with_reducible exact ret_past (HCS.out _))))) | quiet_step ((first | (go_at_call 128; (with_reducible exact ret_past (HCF.out _))) | (go_at_call 128; (with_reducible exact ret_past (HCS.out _))))))
  refine wpQuiet_nil ?_
  rintro _ ⟨pq, rfl⟩
  have hB1 := hide (Below.trans' hB0.out pq.old)
  go_wp2_with fail
  go_ret
  exact ⟨rfl, hB1.out⟩
theorem isTurn_is {F S : Int} {b : Bool} (h : t1 F S = b) (f0 : 0 ≤ F) (f1 : F < 65536) (s0 : 0 ≤ S) (s1 : S < 65536) (W : World) : Calls Tryd.prog 72 #[.agg #[.int .i64 F, .int .i64 S]] W (RetB (.bool b) W) := by
  rw [← h]; exact isTurn_any F S f0 f1 s0 s1 W

theorem below2 {W w1 : World} {b : Nat} (x0 x1 : Value) (h : Below W.heap.size W w1) (hb : W.heap.size ≤ b) : Below W.heap.size W ((w1.setCell ⟨b, 0, none⟩ x0).setCell ⟨b, 1, none⟩ x1) :=
  (h.setCell (p := ⟨b, 0, none⟩) hb x0).setCell (p := ⟨b, 1, none⟩) hb x1
set_option maxRecDepth 100000 in
set_option maxHeartbeats 2000000 in
theorem with_any (F S i : Int) (f0 : 0 ≤ F) (f1 : F < 65536) (s0 : 0 ≤ S) (s1 : S < 65536) (hi : 0 ≤ i) (hi16 : i < 16) (W : World) :
    Calls Tryd.prog 76 #[.agg #[.int .i64 F, .int .i64 S], .int .i64 i] W (RetB (.agg #[.int .i64 (mF F S i), .int .i64 (mS F S i)]) W) := by
  obtain ⟨W0, hW0⟩ : ∃ W0, W0 = (W.alloc (.cells #[.int .i64 F, .int .i64 S] 92)).alloc (.cells #[.int .i64 0, .int .i64 0] 92) := ⟨_, rfl⟩
  have hB0 : Hid (Below W.heap.size W W0) := by rw [hW0]; exact hide ((below_alloc _ _).alloc (by simp) _)
  have hX0 : Hid (W0.heap[W.heap.size]? = some (.cells #[.int .i64 F, .int .i64 S] 92 (0, 0))) := by rw [hW0]; exact hide (row_alloc (alloc_row _ _ _) _)
  have hR0 : Hid (W0.heap[W.heap.size + 1]? = some (.cells #[.int .i64 0, .int .i64 0] 92 (0, 0))) := by rw [hW0]; exact hide (alloc_row2 _ _ _ _)
  have hs := shl_walkL (k := i) (by omega)
  have h1 := or_walkL (E := F) (k := i) f0 (by omega) (by omega)
  have h2 := or_walkL (E := S) (k := i) s0 (by omega) (by omega)
  obtain ⟨x0, x1, _⟩ := row2' hX0.out
  cases ht : t1 F S
  · have HM : Hid (mF F S i = F ∧ mS F S i = withE S i) := hide (by simp [mF, mS, ht])
    have HT : Hid (∀ V : World, Calls Tryd.prog 72 #[.agg #[.int .i64 F, .int .i64 S]] V (RetB (.bool false) V)) := hide (fun V => isTurn_is ht f0 f1 s0 s1 V)
    obtain ⟨E, hE⟩ : ∃ E, E = withE S i := ⟨_, rfl⟩
    rw [HM.out.1, HM.out.2, ← hE]
    rw [← hE] at h2
    clear ht hE h1
    go_enter Tryd.func76, Tryd.ntmps76
    go_wp2_with fail
    rw [← hW0]
    clear hW0
    (try go_wp2_with fail)
    refine (HT.out _).mono ?_
    rintro e w1 ⟨rfl, hb1⟩
    have hB1 := hide (Below.trans' hB0.out hb1)
    have hX1 := hide (box_keep hX0.out hb1)
    have hR1 := hide (box_keep hR0.out hb1)
    clear hb1 x0 x1
    obtain ⟨x0, x1, _⟩ := row2' hX1.out
    have q1 : ∀ p : Past w1, p.to.cell? ⟨W.heap.size, 1, none⟩ = some (.int .i64 S) := fun p => p.cell x1
    go_wp2_with fail
    refine wp_region_past_tail 6 (by kernel_rfl) (by kernel_rfl) ?_
    simp only [List.take_succ_cons, List.take_zero, List.drop_succ_cons, List.drop_zero]
    repeat (first | go_big_quiet_step (fail) | quiet_step (fail))
    refine wpQuiet_nil ?_
    rintro _ ⟨pq, rfl⟩
    have hB2 := hide (Below.trans' hB1.out pq.old)
    have hX2 := hide (box_keep hX1.out pq.old)
    have hR2 := hide (box_keep hR1.out pq.old)
    clear x0 x1 q1 hs h2
    obtain ⟨x0, x1, xf0, xf1⟩ := row2' hX2.out
    obtain ⟨w2, hw2⟩ : ∃ w2, w2 = pq.to := ⟨_, rfl⟩
    rw [← hw2] at hB2 hX2 hR2 x0 x1 xf0 xf1 ⊢
    clear hw2
    obtain ⟨w3, hw3⟩ : ∃ w3, w3 = w2.setCell ⟨W.heap.size, 1, none⟩ (.int .i64 E) := ⟨_, rfl⟩
    have hX3 : Hid (w3.heap[W.heap.size]? = some (.cells #[.int .i64 F, .int .i64 E] 92 (0, 0))) := by rw [hw3]; exact hide (box_set21 hX2.out)
    have hR3 : Hid (w3.heap[W.heap.size + 1]? = some (.cells #[.int .i64 0, .int .i64 0] 92 (0, 0))) := by rw [hw3]; exact hide ((Below.heap_setCell w2 ⟨W.heap.size, 1, none⟩ _ (W.heap.size + 1) (by simp)).trans hR2.out)
    have hB3 : Hid (Below W.heap.size W w3) := by rw [hw3]; exact hide (hB2.out.setCell (p := ⟨W.heap.size, 1, none⟩) (Nat.le_refl _) _)
    have hu := hide hw3
    clear hw3
    obtain ⟨r0, r1, rf0, rf1⟩ := row2' hR2.out
    go_wp2_with fail
    rw [← hu.out]
    clear hu x0 x1 xf0 xf1 r0 r1 rf0 rf1
    obtain ⟨r0, r1, rf0, rf1⟩ := row2' hR3.out
    exact bodyPost_ret (v := .agg #[.int .i64 F, .int .i64 E]) (by simp [results, Tryd.results76, go_sem, r0, r1]) rfl ⟨rfl, below2 _ _ hB3.out (by omega)⟩
  · have HM : Hid (mF F S i = withE F i ∧ mS F S i = S) := hide (by simp [mF, mS, ht])
    have HT : Hid (∀ V : World, Calls Tryd.prog 72 #[.agg #[.int .i64 F, .int .i64 S]] V (RetB (.bool true) V)) := hide (fun V => isTurn_is ht f0 f1 s0 s1 V)
    obtain ⟨E, hE⟩ : ∃ E, E = withE F i := ⟨_, rfl⟩
    rw [HM.out.1, HM.out.2, ← hE]
    rw [← hE] at h1
    clear ht hE h2
    go_enter Tryd.func76, Tryd.ntmps76
    go_wp2_with fail
    rw [← hW0]
    clear hW0
    (try go_wp2_with fail)
    refine (HT.out _).mono ?_
    rintro e w1 ⟨rfl, hb1⟩
    have hB1 := hide (Below.trans' hB0.out hb1)
    have hX1 := hide (box_keep hX0.out hb1)
    have hR1 := hide (box_keep hR0.out hb1)
    clear hb1 x0 x1
    obtain ⟨x0, x1, _⟩ := row2' hX1.out
    have q0 : ∀ p : Past w1, p.to.cell? ⟨W.heap.size, 0, none⟩ = some (.int .i64 F) := fun p => p.cell x0
    go_wp2_with fail
    refine wp_region_past_tail 6 (by kernel_rfl) (by kernel_rfl) ?_
    simp only [List.take_succ_cons, List.take_zero, List.drop_succ_cons, List.drop_zero]
    repeat (first | go_big_quiet_step (fail) | quiet_step (fail))
    refine wpQuiet_nil ?_
    rintro _ ⟨pq, rfl⟩
    have hB2 := hide (Below.trans' hB1.out pq.old)
    have hX2 := hide (box_keep hX1.out pq.old)
    have hR2 := hide (box_keep hR1.out pq.old)
    clear x0 x1 q0 hs h1
    obtain ⟨x0, x1, xf0, xf1⟩ := row2' hX2.out
    obtain ⟨w2, hw2⟩ : ∃ w2, w2 = pq.to := ⟨_, rfl⟩
    rw [← hw2] at hB2 hX2 hR2 x0 x1 xf0 xf1 ⊢
    clear hw2
    obtain ⟨w3, hw3⟩ : ∃ w3, w3 = w2.setCell ⟨W.heap.size, 0, none⟩ (.int .i64 E) := ⟨_, rfl⟩
    have hX3 : Hid (w3.heap[W.heap.size]? = some (.cells #[.int .i64 E, .int .i64 S] 92 (0, 0))) := by rw [hw3]; exact hide (box_set20 hX2.out)
    have hR3 : Hid (w3.heap[W.heap.size + 1]? = some (.cells #[.int .i64 0, .int .i64 0] 92 (0, 0))) := by rw [hw3]; exact hide ((Below.heap_setCell w2 ⟨W.heap.size, 0, none⟩ _ (W.heap.size + 1) (by simp)).trans hR2.out)
    have hB3 : Hid (Below W.heap.size W w3) := by rw [hw3]; exact hide (hB2.out.setCell (p := ⟨W.heap.size, 0, none⟩) (Nat.le_refl _) _)
    have hu := hide hw3
    clear hw3
    obtain ⟨r0, r1, rf0, rf1⟩ := row2' hR2.out
    go_wp2_with fail
    rw [← hu.out]
    clear hu x0 x1 xf0 xf1 r0 r1 rf0 rf1
    obtain ⟨r0, r1, rf0, rf1⟩ := row2' hR3.out
    exact bodyPost_ret (v := .agg #[.int .i64 E, .int .i64 S]) (by simp [results, Tryd.results76, go_sem, r0, r1]) rfl ⟨rfl, below2 _ _ hB3.out (by omega)⟩
end Go.Proofs.YtkekanllfpdeaaaDoor
