/-
  Dots and boxes, for texts: sides, edges, positions, both texts.
-/
import Derived.Test.YtincdnlinepcgaaDoorBx
import Derived.Test.YtincdnlinepcgaaDoorPast
import Derived.Deep.RegionHeld3
import Derived.StillTailTactics
import Derived.Deep.LoopGhost
import Derived.OpenShut
import Derived.ChangeOld
import Derived.Deep.Fields
import Derived.Lib.SmallJoins
namespace Go.Proofs.YtincdnlinepcgaaDoor
open Go.RowKit
set_option linter.unusedVariables false

theorem ret_bool {a b : Bool} (h : a = b) : Ending.returned (.bool a) = .returned (.bool b) := by rw [h]
theorem ret_int {a b : Int} (h : a = b) : Ending.returned (.int .i64 a) = .returned (.int .i64 b) := by rw [h]
theorem block_lt {w : World} {b : Nat} {o : Obj} (h : w.heap[b]? = some o) : b < w.heap.size := (Array.getElem?_eq_some_iff.1 h).1
def RetB (v : Value) (W : World) (e : Ending) (W' : World) : Prop := e = .returned v ∧ Below W.heap.size W W'

theorem ret_past {P : Program} {f : FuncId} {args : Array Value} {w : World} {p : Past w} {v : Value} (h : Calls P f args p.to (RetB v p.to)) : Calls P f args p.to fun e w'' => e = .returned v ∧ ∃ q : Past w, w'' = q.to := calls_past h (fun _ _ h => h)

theorem below_alloc (W : World) (o : Obj) : Below W.heap.size W (W.alloc o) := (Below.refl _ _).alloc (Nat.le_refl _) _

set_option maxHeartbeats 400000 in
theorem side_any (n : Int) (W : World) : Calls Tryd.prog 27 #[.int .i64 n] W fun e W' => e = .returned (.bool (decide (1 ≤ n) && decide (n ≤ 3))) ∧ W = W' := by
  by_cases h1 : 1 ≤ n
  · by_cases h2 : n ≤ 3
    · go_enter Tryd.func27, Tryd.ntmps27
      go_wp2
      go_ret
      exact ⟨ret_bool (by simp [h1, h2]), rfl⟩
    · go_enter Tryd.func27, Tryd.ntmps27
      go_wp2
      go_ret
      exact ⟨ret_bool (by simp [h2]), rfl⟩
  · go_enter Tryd.func27, Tryd.ntmps27
    go_wp2
    go_ret
    exact ⟨ret_bool (by simp; omega), rfl⟩

set_option maxHeartbeats 400000 in
theorem lying_any (w h E : Int) (h1 : 1 ≤ w) (h2 : w ≤ 3) (h3 : 1 ≤ h) (h4 : h ≤ 3) (W : World) :
    Calls Tryd.prog 30 #[.agg #[.int .i64 w, .int .i64 h, .int .i64 E]] W (RetB (.int .i64 (nLie w h)) W) := by
  obtain ⟨_, _, g1, g2, _⟩ := grid_nums h1 h2 h3 h4
  go_enter Tryd.func30, Tryd.ntmps30
  go_wp2
  go_ret
  exact ⟨rfl, below_alloc _ _⟩

set_option maxHeartbeats 400000 in
theorem isDrawn_any (w h E k : Int) (h0 : 0 ≤ E) (h1 : E < 16777216) (hk : 0 ≤ k) (hk' : k < 24) (W : World) :
    Calls Tryd.prog 18 #[.agg #[.int .i64 w, .int .i64 h, .int .i64 E], .int .i64 k] W (RetB (.bool (drawn E k)) W) := by
  have hd := hide (dg_walk (k := k) h0 h1)
  go_enter Tryd.func18, Tryd.ntmps18
  go_wp2
  go_ret
  exact ⟨ret_bool (by rw [hd.out]; rfl), below_alloc _ _⟩

set_option maxHeartbeats 400000 in
theorem withEdge_any (w h E k : Int) (h0 : 0 ≤ E) (h1 : E < 16777216) (hk : 0 ≤ k) (hk' : k < 24) (W : World) :
    Calls Tryd.prog 23 #[.agg #[.int .i64 w, .int .i64 h, .int .i64 E], .int .i64 k] W (RetB (.agg #[.int .i64 w, .int .i64 h, .int .i64 (withE E k)]) W) := by
  have hd := or_walk (k := k) h0 h1 (by omega)
  have hs := shl_walk64 (k := k) (by omega)
  go_enter Tryd.func23, Tryd.ntmps23
  go_wp2
  go_region
  go_wp2
  exact bodyPost_ret (v := .agg #[.int .i64 w, .int .i64 h, .int .i64 (withE E k)]) (by simp [results, Tryd.results23, go_sem]) rfl ⟨rfl, (((Below.refl _ _).alloc (Nat.le_refl _) _).alloc (by simp) _).drew⟩

set_option maxHeartbeats 400000 in
theorem edges_any (w h E : Int) (h1 : 1 ≤ w) (h2 : w ≤ 3) (h3 : 1 ≤ h) (h4 : h ≤ 3) (W : World) :
    Calls Tryd.prog 17 #[.agg #[.int .i64 w, .int .i64 h, .int .i64 E]] W (RetB (.int .i64 (nEdge w h)) W) := by
  have hg := grid_nums h1 h2 h3 h4
  obtain ⟨_, _, g1, g2, g3, g4, g5, g6, g7⟩ := hg
  have G := hide (And.intro g6 g7)
  clear g5 g6
  go_enter Tryd.func17, Tryd.ntmps17
  go_wp2
  have c0 : ∀ p : Past (W.alloc (.cells #[.int .i64 w, .int .i64 h, .int .i64 E] 26)), p.to.cell? ⟨W.heap.size, 0, none⟩ = some (.int .i64 w) := fun p => p.cell (by simp [go_sem])
  have c1 : ∀ p : Past (W.alloc (.cells #[.int .i64 w, .int .i64 h, .int .i64 E] 26)), p.to.cell? ⟨W.heap.size, 1, none⟩ = some (.int .i64 h) := fun p => p.cell (by simp [go_sem])
  have c2 : ∀ p : Past (W.alloc (.cells #[.int .i64 w, .int .i64 h, .int .i64 E] 26)), p.to.cell? ⟨W.heap.size, 2, none⟩ = some (.int .i64 E) := fun p => p.cell (by simp [go_sem])
  refine wp_region_past (by kernel_rfl) (by kernel_rfl) ?_
  repeat (first | go_big_quiet_step ((go_at_call 30; exact ret_past (lying_any _ _ _ h1 h2 h3 h4 _))) | quiet_step ((go_at_call 30; exact ret_past (lying_any _ _ _ h1 h2 h3 h4 _))))
  refine wpQuiet_nil ?_
  rintro _ ⟨pq, rfl⟩
  go_wp2
  go_ret
  exact ⟨ret_int (by rw [G.out.1]; try rw [G.out.2]), Below.trans' (below_alloc _ _) pq.old⟩

/-- The box of a position, in whatever has come of its world. -/
def BoxIn (W : World) (b : Nat) (w h E : Int) : Prop := W.cell? ⟨b, 0, none⟩ = some (.int .i64 w) ∧ W.cell? ⟨b, 1, none⟩ = some (.int .i64 h) ∧ W.cell? ⟨b, 2, none⟩ = some (.int .i64 E)

theorem boxIn_new (W : World) (w h E : Int) (t : TypeId) : BoxIn (W.alloc (.cells #[.int .i64 w, .int .i64 h, .int .i64 E] t)) W.heap.size w h E := by
  refine ⟨?_, ?_, ?_⟩ <;> simp [go_sem]

theorem BoxIn.keep {W W' : World} {b : Nat} {w h E : Int} (hx : BoxIn W b w h E) (hb : Below W.heap.size W W') : BoxIn W' b w h E := ⟨cell_keep hb hx.1, cell_keep hb hx.2.1, cell_keep hb hx.2.2⟩

theorem BoxIn.past {W : World} {b : Nat} {w h E : Int} (hx : BoxIn W b w h E) : (∀ p : Past W, p.to.cell? ⟨b, 0, none⟩ = some (.int .i64 w)) ∧ (∀ p : Past W, p.to.cell? ⟨b, 1, none⟩ = some (.int .i64 h)) ∧ (∀ p : Past W, p.to.cell? ⟨b, 2, none⟩ = some (.int .i64 E)) :=
  ⟨fun p => p.cell hx.1, fun p => p.cell hx.2.1, fun p => p.cell hx.2.2⟩

def sd (n : Int) : Bool := decide (1 ≤ n) && decide (n ≤ 3)
theorem sd_yes {n : Int} (h : sd n = true) : 1 ≤ n ∧ n ≤ 3 := by simpa [sd] using h

theorem sd_no {n : Int} (h : sd n = false) : ¬ (1 ≤ n ∧ n ≤ 3) := by simpa [sd] using h

theorem side_is {b : Bool} (n : Int) (h : sd n = b) (W : World) : Calls Tryd.prog 27 #[.int .i64 n] W (RetB (.bool b) W) :=
  (side_any n W).mono fun e W' ⟨he, hw⟩ => ⟨by rw [he, ← h]; rfl, by rw [← hw]; exact Below.refl _ _⟩

set_option maxHeartbeats 1000000 in
theorem implIs_any (w h E : Int) (W : World) :
    Calls Tryd.prog 13 #[.agg #[.int .i64 w, .int .i64 h, .int .i64 E]] W (RetB (.bool (okBox w h E)) W) := by
  have hB0 := hide (below_alloc W (.cells #[.int .i64 w, .int .i64 h, .int .i64 E] 26))
  obtain ⟨c0, c1, c2⟩ := (boxIn_new W w h E 26).past
  cases h1 : sd w
  · have hok : okBox w h E = false := by have := sd_no h1; simp [okBox]; omega
    have HK := hide hok
    have H1 := hide h1
    clear hok h1
    go_enter Tryd.func13, Tryd.ntmps13
    go_wp2
    refine wp_region_past (by kernel_rfl) (by kernel_rfl) ?_
    repeat (first | go_big_quiet_step ((go_at_call 27; (with_reducible exact ret_past (side_is _ H1.out _)))) | quiet_step ((go_at_call 27; (with_reducible exact ret_past (side_is _ H1.out _)))))
    refine wpQuiet_nil ?_
    rintro _ ⟨pq, rfl⟩
    go_wp2
    go_ret
    exact ⟨ret_bool HK.out.symm, Below.trans' hB0.out pq.old⟩
  · cases h2 : sd h
    · have hok : okBox w h E = false := by have := sd_no h2; simp [okBox]; omega
      have HK := hide hok
      have H1 := hide h1
      have H2 := hide h2
      clear hok h1 h2
      go_enter Tryd.func13, Tryd.ntmps13
      go_wp2
      refine wp_region_past (by kernel_rfl) (by kernel_rfl) ?_
      repeat (first | go_big_quiet_step ((first | (go_at_call 27; (with_reducible exact ret_past (side_is _ H1.out _))) | (go_at_call 27; (with_reducible exact ret_past (side_is _ H2.out _))))) | quiet_step ((first | (go_at_call 27; (with_reducible exact ret_past (side_is _ H1.out _))) | (go_at_call 27; (with_reducible exact ret_past (side_is _ H2.out _))))))
      refine wpQuiet_nil ?_
      rintro _ ⟨pq, rfl⟩
      go_wp2
      go_ret
      exact ⟨ret_bool HK.out.symm, Below.trans' hB0.out pq.old⟩
    · obtain ⟨k1, k2⟩ := sd_yes h1
      obtain ⟨k3, k4⟩ := sd_yes h2
      have H1 := hide h1
      have H2 := hide h2
      clear h1 h2
      by_cases hE : 0 ≤ E
      · have hn := grid_nums k1 k2 k3 k4
        have n1 : 0 ≤ nEdge w h := by omega
        have n2 : nEdge w h ≤ 24 := by omega
        have hsh := shl_walk64 (k := nEdge w h) (by omega)
        have hd : decide (0 ≤ E) = true := decide_eq_true hE
        have hok : okBox w h E = decide (E < 2 ^ (nEdge w h).toNat) := by simp [okBox, *]
        have HK := hide hok
        clear hok hn
        go_enter Tryd.func13, Tryd.ntmps13
        go_wp2
        refine wp_region_past (by kernel_rfl) (by kernel_rfl) ?_
        repeat (first | go_big_quiet_step ((first | (go_at_call 27; (with_reducible exact ret_past (side_is _ H1.out _))) | (go_at_call 27; (with_reducible exact ret_past (side_is _ H2.out _))) | (go_at_call 17; (with_reducible exact ret_past (edges_any _ _ _ k1 k2 k3 k4 _))))) | quiet_step ((first | (go_at_call 27; (with_reducible exact ret_past (side_is _ H1.out _))) | (go_at_call 27; (with_reducible exact ret_past (side_is _ H2.out _))) | (go_at_call 17; (with_reducible exact ret_past (edges_any _ _ _ k1 k2 k3 k4 _))))))
        refine wpQuiet_nil ?_
        rintro _ ⟨pq, rfl⟩
        go_wp2
        go_ret
        exact ⟨ret_bool HK.out.symm, Below.trans' hB0.out pq.old⟩
      · have hok : okBox w h E = false := by simp [okBox]; omega
        have hd : decide (0 ≤ E) = false := decide_eq_false hE
        have HK := hide hok
        clear hok
        go_enter Tryd.func13, Tryd.ntmps13
        go_wp2
        refine wp_region_past (by kernel_rfl) (by kernel_rfl) ?_
        repeat (first | go_big_quiet_step ((first | (go_at_call 27; (with_reducible exact ret_past (side_is _ H1.out _))) | (go_at_call 27; (with_reducible exact ret_past (side_is _ H2.out _))))) | quiet_step ((first | (go_at_call 27; (with_reducible exact ret_past (side_is _ H1.out _))) | (go_at_call 27; (with_reducible exact ret_past (side_is _ H2.out _))))))
        refine wpQuiet_nil ?_
        rintro _ ⟨pq, rfl⟩
        go_wp2
        go_ret
        exact ⟨ret_bool HK.out.symm, Below.trans' hB0.out pq.old⟩

theorem BoxIn.below {W W' : World} {B b : Nat} {w h E : Int} (hx : BoxIn W b w h E) (hb : Below B W W') (hB : b < B) : BoxIn W' b w h E :=
  ⟨(hb.cell (p := ⟨b, 0, none⟩) hB).trans hx.1, (hb.cell (p := ⟨b, 1, none⟩) hB).trans hx.2.1, (hb.cell (p := ⟨b, 2, none⟩) hB).trans hx.2.2⟩

set_option maxHeartbeats 400000 in
def inn (n lo hi : Int) : Bool := decide (lo ≤ n) && decide (n ≤ hi)
set_option maxHeartbeats 400000 in
theorem inn_any (n lo hi : Int) (W : World) : Calls Tryd.prog 24 #[.int .i64 n, .int .i64 lo, .int .i64 hi] W (RetB (.bool (inn n lo hi)) W) := by
  by_cases h1 : lo ≤ n
  · by_cases h2 : n ≤ hi
    · go_enter Tryd.func24, Tryd.ntmps24
      go_wp2
      go_ret
      exact ⟨ret_bool (by simp [inn, h1, h2]), Below.refl _ _⟩
    · go_enter Tryd.func24, Tryd.ntmps24
      go_wp2
      go_ret
      exact ⟨ret_bool (by simp [inn, h2]), Below.refl _ _⟩
  · go_enter Tryd.func24, Tryd.ntmps24
    go_wp2
    go_ret
    exact ⟨ret_bool (by simp [inn]; omega), Below.refl _ _⟩

theorem inn_is {b : Bool} (n lo hi : Int) (h : inn n lo hi = b) (W : World) : Calls Tryd.prog 24 #[.int .i64 n, .int .i64 lo, .int .i64 hi] W (RetB (.bool b) W) := by
  rw [← h]
  exact inn_any n lo hi W

theorem u64_small {k : Int} (h0 : 0 ≤ k) (h1 : k ≤ 64) : IntKind.u64.wrap k = k := by
  rw [IntKind.wrap_u64]
  omega

set_option maxHeartbeats 400000 in
theorem specCount_any (w h E : Int) (h1 : 1 ≤ w) (h2 : w ≤ 3) (h3 : 1 ≤ h) (h4 : h ≤ 3) (W : World) :
    Calls Tryd.prog 25 #[.agg #[.int .i64 w, .int .i64 h, .int .i64 E]] W (RetB (.int .i64 (nEdge w h)) W) := by
  obtain ⟨_, _, g1, g2, g3, g4, g5, g6, g7⟩ := grid_nums h1 h2 h3 h4
  have g8 : 0 ≤ h * (w + 1) := by omega
  have g9 : h * (w + 1) ≤ 12 := by omega
  have G := hide (And.intro g5 g6)
  clear g5 g6 g7 g3 g4
  go_enter Tryd.func25, Tryd.ntmps25
  go_wp2
  go_ret
  exact ⟨ret_int (by rw [G.out.2, G.out.1]), below_alloc _ _⟩

set_option maxHeartbeats 1000000 in
theorem specIs_any (w h E : Int) (W : World) :
    Calls Tryd.prog 11 #[.agg #[.int .i64 w, .int .i64 h, .int .i64 E]] W (RetB (.bool (okBox w h E)) W) := by
  have hB0 := hide (below_alloc W (.cells #[.int .i64 w, .int .i64 h, .int .i64 E] 26))
  obtain ⟨c0, c1, c2⟩ := (boxIn_new W w h E 26).past
  cases h1 : inn w 1 3
  · have hok : okBox w h E = false := by have : ¬ (1 ≤ w ∧ w ≤ 3) := by simpa [inn] using h1
                                         simp [okBox]; omega
    have HK := hide hok
    have H1 := hide h1
    clear hok h1
    go_enter Tryd.func11, Tryd.ntmps11
    go_wp2
    refine wp_region_past (by kernel_rfl) (by kernel_rfl) ?_
    repeat (first | go_big_quiet_step ((go_at_call 24; (with_reducible exact ret_past (inn_is _ _ _ H1.out _)))) | quiet_step ((go_at_call 24; (with_reducible exact ret_past (inn_is _ _ _ H1.out _)))))
    refine wpQuiet_nil ?_
    rintro _ ⟨pq, rfl⟩
    go_wp2
    go_ret
    exact ⟨ret_bool HK.out.symm, Below.trans' hB0.out pq.old⟩
  · cases h2 : inn h 1 3
    · have hok : okBox w h E = false := by have : ¬ (1 ≤ h ∧ h ≤ 3) := by simpa [inn] using h2
                                           simp [okBox]; omega
      have HK := hide hok
      have H1 := hide h1
      have H2 := hide h2
      clear hok h1 h2
      go_enter Tryd.func11, Tryd.ntmps11
      go_wp2
      refine wp_region_past (by kernel_rfl) (by kernel_rfl) ?_
      repeat (first | go_big_quiet_step ((first | (go_at_call 24; (with_reducible exact ret_past (inn_is _ _ _ H1.out _))) | (go_at_call 24; (with_reducible exact ret_past (inn_is _ _ _ H2.out _))))) | quiet_step ((first | (go_at_call 24; (with_reducible exact ret_past (inn_is _ _ _ H1.out _))) | (go_at_call 24; (with_reducible exact ret_past (inn_is _ _ _ H2.out _))))))
      refine wpQuiet_nil ?_
      rintro _ ⟨pq, rfl⟩
      go_wp2
      go_ret
      exact ⟨ret_bool HK.out.symm, Below.trans' hB0.out pq.old⟩
    · obtain ⟨k1, k2⟩ : 1 ≤ w ∧ w ≤ 3 := by simpa [inn] using h1
      obtain ⟨k3, k4⟩ : 1 ≤ h ∧ h ≤ 3 := by simpa [inn] using h2
      have H1 := hide h1
      have H2 := hide h2
      clear h1 h2
      by_cases hE : 0 ≤ E
      · have hn := grid_nums k1 k2 k3 k4
        have n1 : 0 ≤ nEdge w h := by omega
        have n2 : nEdge w h ≤ 24 := by omega
        have hsh := shl_walk64 (k := nEdge w h) (by omega)
        have hu := u64_small n1 (by omega)
        have hd : decide (0 ≤ E) = true := decide_eq_true hE
        have hok : okBox w h E = decide (E < 2 ^ (nEdge w h).toNat) := by simp [okBox, *]
        have HK := hide hok
        clear hok hn
        go_enter Tryd.func11, Tryd.ntmps11
        go_wp2
        refine wp_region_past (by kernel_rfl) (by kernel_rfl) ?_
        repeat (first | go_big_quiet_step ((first | (go_at_call 24; (with_reducible exact ret_past (inn_is _ _ _ H1.out _))) | (go_at_call 24; (with_reducible exact ret_past (inn_is _ _ _ H2.out _))) | (go_at_call 25; (with_reducible exact ret_past (specCount_any _ _ _ k1 k2 k3 k4 _))))) | quiet_step ((first | (go_at_call 24; (with_reducible exact ret_past (inn_is _ _ _ H1.out _))) | (go_at_call 24; (with_reducible exact ret_past (inn_is _ _ _ H2.out _))) | (go_at_call 25; (with_reducible exact ret_past (specCount_any _ _ _ k1 k2 k3 k4 _))))))
        refine wpQuiet_nil ?_
        rintro _ ⟨pq, rfl⟩
        go_wp2
        go_ret
        exact ⟨ret_bool HK.out.symm, Below.trans' hB0.out pq.old⟩
      · have hok : okBox w h E = false := by simp [okBox]; omega
        have hd : decide (0 ≤ E) = false := decide_eq_false hE
        have HK := hide hok
        clear hok
        go_enter Tryd.func11, Tryd.ntmps11
        go_wp2
        refine wp_region_past (by kernel_rfl) (by kernel_rfl) ?_
        repeat (first | go_big_quiet_step ((first | (go_at_call 24; (with_reducible exact ret_past (inn_is _ _ _ H1.out _))) | (go_at_call 24; (with_reducible exact ret_past (inn_is _ _ _ H2.out _))))) | quiet_step ((first | (go_at_call 24; (with_reducible exact ret_past (inn_is _ _ _ H1.out _))) | (go_at_call 24; (with_reducible exact ret_past (inn_is _ _ _ H2.out _))))))
        refine wpQuiet_nil ?_
        rintro _ ⟨pq, rfl⟩
        go_wp2
        go_ret
        exact ⟨ret_bool HK.out.symm, Below.trans' hB0.out pq.old⟩

theorem boxes_nat {w h E : Int} (hb : okBox w h E = true) : ∃ m : Nat, w * h = (m : Int) ∧ m ≤ 9 := by
  obtain ⟨h1, h2, h3, h4, _, _⟩ := okBox_parts hb
  have := grid_nums h1 h2 h3 h4
  exact ⟨(w * h).toNat, by omega, by omega⟩

end Go.Proofs.YtincdnlinepcgaaDoor
