/-
  Dots and boxes: the program's small functions on grids, edges and boxes.
-/
import Derived.Test.YtincdnlinepcgaaBx
import Derived.Test.YtincdnlinepcgaaPast
import Derived.Test.YtincdnlinepcgaaEq
namespace Go.Proofs.Ytincdnlinepcgaa
open Go.RowKit
set_option linter.unusedVariables false

def RetB (v : Value) (W : World) (e : Ending) (W' : World) : Prop := e = .returned v ∧ Below W.heap.size W W'
theorem ret_past {P : Program} {f : FuncId} {args : Array Value} {w : World} {p : Past w} {v : Value} (h : Calls P f args p.to (RetB v p.to)) : Calls P f args p.to fun e w'' => e = .returned v ∧ ∃ q : Past w, w'' = q.to := calls_past h (fun _ _ h => h)
theorem below_alloc (W : World) (o : Obj) : Below W.heap.size W (W.alloc o) := (Below.refl _ _).alloc (Nat.le_refl _) _

set_option maxHeartbeats 400000 in
theorem side_any (n : Int) (W : World) : Calls Try.prog 39 #[.int .i64 n] W fun e W' => e = .returned (.bool (decide (1 ≤ n) && decide (n ≤ 3))) ∧ W = W' := by
  by_cases h1 : 1 ≤ n
  · by_cases h2 : n ≤ 3
    · go_enter Try.func39, Try.ntmps39
      go_wp2
      go_ret
      exact ⟨ret_bool (by simp [h1, h2]), rfl⟩
    · go_enter Try.func39, Try.ntmps39
      go_wp2
      go_ret
      exact ⟨ret_bool (by simp [h2]), rfl⟩
  · go_enter Try.func39, Try.ntmps39
    go_wp2
    go_ret
    exact ⟨ret_bool (by simp; omega), rfl⟩

set_option maxHeartbeats 400000 in
theorem boxes_any (w h E : Int) (h1 : 1 ≤ w) (h2 : w ≤ 3) (h3 : 1 ≤ h) (h4 : h ≤ 3) (W : World) :
    Calls Try.prog 44 #[.agg #[.int .i64 w, .int .i64 h, .int .i64 E]] W (RetB (.int .i64 (w * h)) W) := by
  obtain ⟨g1, g2, _⟩ := grid_nums h1 h2 h3 h4
  go_enter Try.func44, Try.ntmps44
  go_wp2
  go_ret
  exact ⟨rfl, below_alloc _ _⟩

set_option maxHeartbeats 400000 in
theorem lying_any (w h E : Int) (h1 : 1 ≤ w) (h2 : w ≤ 3) (h3 : 1 ≤ h) (h4 : h ≤ 3) (W : World) :
    Calls Try.prog 62 #[.agg #[.int .i64 w, .int .i64 h, .int .i64 E]] W (RetB (.int .i64 (nLie w h)) W) := by
  obtain ⟨_, _, g1, g2, _⟩ := grid_nums h1 h2 h3 h4
  go_enter Try.func62, Try.ntmps62
  go_wp2
  go_ret
  exact ⟨rfl, below_alloc _ _⟩

set_option maxHeartbeats 400000 in
theorem isDrawn_any (w h E k : Int) (h0 : 0 ≤ E) (h1 : E < 16777216) (hk : 0 ≤ k) (hk' : k < 24) (W : World) :
    Calls Try.prog 52 #[.agg #[.int .i64 w, .int .i64 h, .int .i64 E], .int .i64 k] W (RetB (.bool (drawn E k)) W) := by
  have hd := hide (dg_walk (k := k) h0 h1)
  go_enter Try.func52, Try.ntmps52
  go_wp2
  go_ret
  exact ⟨ret_bool (by rw [hd.out]; rfl), below_alloc _ _⟩

set_option maxHeartbeats 400000 in
theorem withEdge_any (w h E k : Int) (h0 : 0 ≤ E) (h1 : E < 16777216) (hk : 0 ≤ k) (hk' : k < 24) (W : World) :
    Calls Try.prog 53 #[.agg #[.int .i64 w, .int .i64 h, .int .i64 E], .int .i64 k] W (RetB (.agg #[.int .i64 w, .int .i64 h, .int .i64 (withE E k)]) W) := by
  have hd := or_walk (k := k) h0 h1 (by omega)
  have hs := shl_walk64 (k := k) (by omega)
  go_enter Try.func53, Try.ntmps53
  go_wp2
  go_region
  go_wp2
  exact bodyPost_ret (v := .agg #[.int .i64 w, .int .i64 h, .int .i64 (withE E k)]) (by simp [results, Try.results53, go_sem]) rfl ⟨rfl, (((Below.refl _ _).alloc (Nat.le_refl _) _).alloc (by simp) _).drew⟩

set_option maxHeartbeats 400000 in
theorem edges_any (w h E : Int) (h1 : 1 ≤ w) (h2 : w ≤ 3) (h3 : 1 ≤ h) (h4 : h ≤ 3) (W : World) :
    Calls Try.prog 40 #[.agg #[.int .i64 w, .int .i64 h, .int .i64 E]] W (RetB (.int .i64 (nEdge w h)) W) := by
  have hg := grid_nums h1 h2 h3 h4
  obtain ⟨_, _, g1, g2, g3, g4, g5, g6, g7⟩ := hg
  have G := hide (And.intro g6 g7)
  clear g5 g6
  go_enter Try.func40, Try.ntmps40
  go_wp2
  have c0 : ∀ p : Past (W.alloc (.cells #[.int .i64 w, .int .i64 h, .int .i64 E] 25)), p.to.cell? ⟨W.heap.size, 0, none⟩ = some (.int .i64 w) := fun p => p.cell (by simp [go_sem])
  have c1 : ∀ p : Past (W.alloc (.cells #[.int .i64 w, .int .i64 h, .int .i64 E] 25)), p.to.cell? ⟨W.heap.size, 1, none⟩ = some (.int .i64 h) := fun p => p.cell (by simp [go_sem])
  have c2 : ∀ p : Past (W.alloc (.cells #[.int .i64 w, .int .i64 h, .int .i64 E] 25)), p.to.cell? ⟨W.heap.size, 2, none⟩ = some (.int .i64 E) := fun p => p.cell (by simp [go_sem])
  refine wp_region_past (by kernel_rfl) (by kernel_rfl) ?_
  repeat (first | go_big_quiet_step ((go_at_call 62; exact ret_past (lying_any _ _ _ h1 h2 h3 h4 _))) | quiet_step ((go_at_call 62; exact ret_past (lying_any _ _ _ h1 h2 h3 h4 _))))
  refine wpQuiet_nil ?_
  rintro _ ⟨pq, rfl⟩
  go_wp2
  go_ret
  exact ⟨ret_int (by rw [G.out.1]; try rw [G.out.2]), Below.trans' (below_alloc _ _) pq.old⟩

/-- The box of a position, in whatever has come of its world. -/
def BoxIn (W : World) (b : Nat) (w h E : Int) : Prop := W.cell? ⟨b, 0, none⟩ = some (.int .i64 w) ∧ W.cell? ⟨b, 1, none⟩ = some (.int .i64 h) ∧ W.cell? ⟨b, 2, none⟩ = some (.int .i64 E)
theorem boxIn_new (W : World) (w h E : Int) (t : TypeId) : BoxIn (W.alloc (.cells #[.int .i64 w, .int .i64 h, .int .i64 E] t)) W.heap.size w h E := by
  refine ⟨?_, ?_, ?_⟩ <;> simp [go_sem]
theorem BoxIn.keep {W W' : World} {b : Nat} {w h E : Int} (hx : BoxIn W b w h E) (hb : Below W.heap.size W W') : BoxIn W' b w h E := ⟨cell_keep hb hx.1, cell_keep hb hx.2.1, cell_keep hb hx.2.2⟩
theorem BoxIn.past {W : World} {b : Nat} {w h E : Int} (hx : BoxIn W b w h E) : (∀ p : Past W, p.to.cell? ⟨b, 0, none⟩ = some (.int .i64 w)) ∧ (∀ p : Past W, p.to.cell? ⟨b, 1, none⟩ = some (.int .i64 h)) ∧ (∀ p : Past W, p.to.cell? ⟨b, 2, none⟩ = some (.int .i64 E)) :=
  ⟨fun p => p.cell hx.1, fun p => p.cell hx.2.1, fun p => p.cell hx.2.2⟩

set_option maxHeartbeats 400000 in
theorem edgeAt_lies (w h E r c : Int) (h1 : 1 ≤ w) (h2 : w ≤ 3) (h3 : 1 ≤ h) (h4 : h ≤ 3) (hr0 : 0 ≤ r * w) (hr : r * w ≤ 9) (hc0 : 0 ≤ c) (hc : c ≤ 3) (W : World) :
    Calls Try.prog 63 #[.agg #[.int .i64 w, .int .i64 h, .int .i64 E], .agg #[.bool false, .int .i64 r, .int .i64 c]] W (RetB (.int .i64 (r * w + c)) W) := by
  go_enter Try.func63, Try.ntmps63
  go_wp2
  go_ret
  exact ⟨rfl, (below_alloc _ _).alloc (by simp) _⟩
set_option maxHeartbeats 400000 in
theorem edgeAt_stands (w h E r c : Int) (h1 : 1 ≤ w) (h2 : w ≤ 3) (h3 : 1 ≤ h) (h4 : h ≤ 3) (hr0 : 0 ≤ r * (w + 1)) (hr : r * (w + 1) ≤ 12) (hc0 : 0 ≤ c) (hc : c ≤ 3) (W : World) :
    Calls Try.prog 63 #[.agg #[.int .i64 w, .int .i64 h, .int .i64 E], .agg #[.bool true, .int .i64 r, .int .i64 c]] W (RetB (.int .i64 (nLie w h + r * (w + 1) + c)) W) := by
  obtain ⟨_, _, g1, g2, g3, g4, _, _, g7⟩ := grid_nums h1 h2 h3 h4
  have g8 : 0 ≤ nLie w h := by omega
  have g9 : nLie w h ≤ 12 := by omega
  clear g7 g1 g2
  go_enter Try.func63, Try.ntmps63
  go_wp2
  have hB : Below W.heap.size W ((W.alloc (.cells #[.int .i64 w, .int .i64 h, .int .i64 E] 25)).alloc (.cells #[.bool true, .int .i64 r, .int .i64 c] 64)) := (below_alloc _ _).alloc (by simp) _
  obtain ⟨c0, c1, c2⟩ := ((boxIn_new W w h E 25).keep (below_alloc _ (.cells #[.bool true, .int .i64 r, .int .i64 c] 64))).past
  have d1 : ∀ p : Past ((W.alloc (.cells #[.int .i64 w, .int .i64 h, .int .i64 E] 25)).alloc (.cells #[.bool true, .int .i64 r, .int .i64 c] 64)), p.to.cell? ⟨W.heap.size + 1, 1, none⟩ = some (.int .i64 r) := fun p => p.cell (by simp [go_sem])
  have d2 : ∀ p : Past ((W.alloc (.cells #[.int .i64 w, .int .i64 h, .int .i64 E] 25)).alloc (.cells #[.bool true, .int .i64 r, .int .i64 c] 64)), p.to.cell? ⟨W.heap.size + 1, 2, none⟩ = some (.int .i64 c) := fun p => p.cell (by simp [go_sem])
  refine wp_region_past (by kernel_rfl) (by kernel_rfl) ?_
  repeat (first | go_big_quiet_step ((go_at_call 62; exact ret_past (lying_any _ _ _ h1 h2 h3 h4 _))) | quiet_step ((go_at_call 62; exact ret_past (lying_any _ _ _ h1 h2 h3 h4 _))))
  refine wpQuiet_nil ?_
  rintro _ ⟨pq, rfl⟩
  go_wp2
  go_ret
  exact ⟨rfl, hB.trans (pq.old.mono (by simp; omega))⟩

/-- The number of the edge at a place. -/
def edgeNo (w h : Int) (s : Bool) (r c : Int) : Int := match s with | true => nLie w h + r * (w + 1) + c | false => r * w + c
theorem edgeAt_any (w h E r c : Int) (s : Bool) (h1 : 1 ≤ w) (h2 : w ≤ 3) (h3 : 1 ≤ h) (h4 : h ≤ 3) (hr0 : 0 ≤ r) (hr : r ≤ 3) (hc0 : 0 ≤ c) (hc : c ≤ 3) (W : World) :
    Calls Try.prog 63 #[.agg #[.int .i64 w, .int .i64 h, .int .i64 E], .agg #[.bool s, .int .i64 r, .int .i64 c]] W (RetB (.int .i64 (edgeNo w h s r c)) W) := by
  have k : 0 ≤ r * w ∧ r * w ≤ 9 ∧ 0 ≤ r * (w + 1) ∧ r * (w + 1) ≤ 12 := by
    rcases dims3 h1 h2 with rfl | rfl | rfl <;> omega
  cases s
  · exact edgeAt_lies w h E r c h1 h2 h3 h4 k.1 k.2.1 hc0 hc W
  · exact edgeAt_stands w h E r c h1 h2 h3 h4 k.2.2.1 k.2.2.2 hc0 hc W

set_option maxHeartbeats 1000000 in
theorem edgesAround_any (w h E i : Int) (h1 : 1 ≤ w) (h2 : w ≤ 3) (h3 : 1 ≤ h) (h4 : h ≤ 3) (h5 : 0 ≤ i) (h6 : i < w * h) (W : World) :
    Calls Try.prog 45 #[.agg #[.int .i64 w, .int .i64 h, .int .i64 E], .int .i64 i] W (RetB (.agg #[.int .i64 (arT w i), .int .i64 (arB w i), .int .i64 (arL w h i), .int .i64 (arR w h i)]) W) := by
  obtain ⟨g1, g2, g3, g4, g5, g6, g7, g8, g9, g10, g11, g12⟩ := box_nums h1 h2 h3 h4 h5 h6
  have hq : wrap64 (i.tdiv w) = i / w := by rw [Int.tdiv_eq_ediv_of_nonneg h5]; exact wrap64_small g1 (by omega)
  go_enter Try.func45, Try.ntmps45
  go_wp2
  go_quiet (fail)
  go_wp2
  obtain ⟨W1, hW1⟩ : ∃ W1, W1 = ((W.alloc (.cells #[.int .i64 w, .int .i64 h, .int .i64 E] 25)).alloc (.cells #[.int .i64 0, .int .i64 0, .int .i64 0, .int .i64 0] 48)).drewN nq := ⟨_, rfl⟩
  rw [← hW1]
  have hB1 : Below W.heap.size W W1 := by rw [hW1]; exact below_drewN ((below_alloc _ _).alloc (by simp) _) _
  have hsz : W1.heap.size = W.heap.size + 2 := by rw [hW1]; simp
  have hbx : BoxIn W1 W.heap.size w h E := by
    rw [hW1]
    exact (boxIn_new W w h E 25).keep (below_drewN (below_alloc _ _) _)
  have hrow : W1.heap[W.heap.size + 1]? = some (.cells #[.int .i64 0, .int .i64 0, .int .i64 0, .int .i64 0] 48 (0, 0)) := by
    rw [hW1]
    have := heap_alloc_new (W.alloc (.cells #[.int .i64 w, .int .i64 h, .int .i64 E] 25)) (.cells #[.int .i64 0, .int .i64 0, .int .i64 0, .int .i64 0] 48 (0, 0))
    simpa using this
  have HR := hide hrow
  obtain ⟨c0, c1, c2⟩ := hbx.past
  have HB := hide hB1
  have HS := hide hsz
  clear hW1 hrow hbx hB1 hsz
  refine wp_region_past_tail 23 (by kernel_rfl) (by kernel_rfl) ?_
  simp only [List.take_succ_cons, List.take_zero, List.drop_succ_cons, List.drop_zero]
  repeat (first | go_big_quiet_step ((go_at_call 63; (with_reducible refine ret_past (edgeAt_any _ _ _ _ _ _ h1 h2 h3 h4 ?_ ?_ ?_ ?_ _)) <;> omega)) | quiet_step ((go_at_call 63; (with_reducible refine ret_past (edgeAt_any _ _ _ _ _ _ h1 h2 h3 h4 ?_ ?_ ?_ ?_ _)) <;> omega)))
  refine wpQuiet_nil ?_
  rintro _ ⟨pq, rfl⟩
  have hr := (pq.old.block _ (by rw [HS.out]; omega)).trans HR.out
  have d0 : pq.to.cell? ⟨W.heap.size + 1, 0, none⟩ = some (.int .i64 0) := (cell_of_row _ _ 0 _ _ (0, 0) hr).trans rfl
  have d1 : pq.to.cell? ⟨W.heap.size + 1, 1, none⟩ = some (.int .i64 0) := (cell_of_row _ _ 1 _ _ (0, 0) hr).trans rfl
  have d2 : pq.to.cell? ⟨W.heap.size + 1, 2, none⟩ = some (.int .i64 0) := (cell_of_row _ _ 2 _ _ (0, 0) hr).trans rfl
  have d3 : pq.to.cell? ⟨W.heap.size + 1, 3, none⟩ = some (.int .i64 0) := (cell_of_row _ _ 3 _ _ (0, 0) hr).trans rfl
  have f0 : pq.to.frozen? ⟨W.heap.size + 1, 0, none⟩ = false := frozen_of_row _ _ 0 _ _ hr
  have f1 : pq.to.frozen? ⟨W.heap.size + 1, 1, none⟩ = false := frozen_of_row _ _ 1 _ _ hr
  have f2 : pq.to.frozen? ⟨W.heap.size + 1, 2, none⟩ = false := frozen_of_row _ _ 2 _ _ hr
  have f3 : pq.to.frozen? ⟨W.heap.size + 1, 3, none⟩ = false := frozen_of_row _ _ 3 _ _ hr
  have hlt := block_lt hr
  clear hr
  go_wp2
  have hb := (((((Below.trans HB.out (pq.old.mono (by rw [HS.out]; omega))).setCell (p := ⟨W.heap.size + 1, 0, none⟩) (by simp) (.int .i64 (edgeNo w h false (i / w) (i % w)))).setCell (p := ⟨W.heap.size + 1, 1, none⟩) (by simp) (.int .i64 (edgeNo w h false (i / w + 1) (i % w)))).setCell (p := ⟨W.heap.size + 1, 2, none⟩) (by simp) (.int .i64 (edgeNo w h true (i / w) (i % w)))).setCell (p := ⟨W.heap.size + 1, 3, none⟩) (by simp) (.int .i64 (edgeNo w h true (i / w) (i % w + 1))))
  exact bodyPost_ret (v := .agg #[.int .i64 (edgeNo w h false (i / w) (i % w)), .int .i64 (edgeNo w h false (i / w + 1) (i % w)), .int .i64 (edgeNo w h true (i / w) (i % w)), .int .i64 (edgeNo w h true (i / w) (i % w + 1))]) (by simp [results, Try.results45, go_sem, d0, d1, d2, d3]) rfl ⟨rfl, hb⟩
end Go.Proofs.Ytincdnlinepcgaa
