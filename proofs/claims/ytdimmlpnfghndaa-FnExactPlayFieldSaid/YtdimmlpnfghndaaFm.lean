/-
  Col and snort: moves and the points that a player may colour, both texts.
-/
import Derived.Test.YtdimmlpnfghndaaFc
namespace Go.Proofs.Ytdimmlpnfghndaa
open Go.RowKit
set_option linter.unusedVariables false

/-- What a call hands back that has made a list of its own. -/
def NewL (zs : List Int) (w : World) (e : Ending) (w' : World) : Prop :=
  ∃ a c, e = .returned (.slice a zs.length c) ∧ w'.ownsRow w.heap.size 2 1 (.slice a zs.length c) zs.length (zs.map intV) ∧ Below w.heap.size w w'
/-- A row of the call's own, in a world that has kept all below B. -/
structure Owns (B : Nat) (W0 w : World) (v : Value) (zs : List Int) : Prop where
  own : w.ownsRow B 2 1 v zs.length (zs.map intV)
  old : Below B W0 w
  size : B ≤ w.heap.size
theorem Owns.keep {B : Nat} {W0 w w' : World} {v : Value} {zs : List Int} (h : Owns B W0 w v zs) (hb : Below w.heap.size w w') : Owns B W0 w' v zs :=
  ⟨ownsRow_keep h.own hb, h.old.trans (hb.mono h.size), Nat.le_trans h.size hb.size⟩
theorem Owns.snoc {B : Nat} {W0 w2 w3 : World} {v v' : Value} {zs : List Int} {z : Int} (h : Owns B W0 w2 v zs) (hown : w3.ownsRow B 2 1 v' (zs.length + 1) (zs.map intV ++ [.int .i64 z]))
    (hg : (w2.alloc (.cells #[.int .i64 z] 2)).grownBy w3 v.ownBlock) : Owns B W0 w3 v' (zs ++ [z]) := by
  refine ⟨by simpa [intV] using hown, (h.old.alloc h.size _).grown hg (by have := h.size; simp; omega) (fun j hj => by have := (h.own.alloc (.cells #[Value.int .i64 z] 2)).lt j hj; omega), ?_⟩
  have := hg.size
  have := h.size
  simp at *
  omega
theorem Owns.nil {B : Nat} {W0 w : World} (h : Below B W0 w) (hs : B ≤ w.heap.size) : Owns B W0 w (.slice none 0 0) [] := ⟨World.ownsRow_nil _ _ _ _, h, hs⟩
theorem Owns.list {B : Nat} {W W0 w : World} {v : Value} {zs : List Int} (h : Owns B W0 w v zs) (h0 : Below W.heap.size W W0) (hB : W.heap.size ≤ B) : NewL zs W (.returned v) w := by
  obtain ⟨a, c, rfl⟩ := own_form h.own
  exact ⟨a, c, rfl, ownsRow_base h.own hB, h0.trans (h.old.mono hB)⟩

/-! ### a move -/
def mvV (n L R B pl i : Int) : Value := .agg #[.int .i64 n, .int .i64 L, .int .i64 (mvR R pl i), .int .i64 (mvB B pl i)]
set_option maxHeartbeats 1000000 in
theorem specMove_any (n L R B pl i : Int) (hr0 : 0 ≤ R) (hr1 : R < 256) (hb0 : 0 ≤ B) (hb1 : B < 256) (hi : 0 ≤ i) (hi8 : i < 8) (W : World) :
    Calls Try.prog 55 #[.agg #[.int .i64 n, .int .i64 L, .int .i64 R, .int .i64 B], .int .i64 pl, .int .i64 i] W (RetB (mvV n L R B pl i) W) := by
  have hu := u64_small hi (by omega)
  have hs := shl_walkL (k := i) (by omega)
  have h1 := or_walkL (E := R) (k := i) hr0 (by omega) (by omega)
  have h2 := or_walkL (E := B) (k := i) hb0 (by omega) (by omega)
  by_cases hp : pl = 0
  · have HV : Hid (mvV n L R B pl i = .agg #[.int .i64 n, .int .i64 L, .int .i64 (withE R i), .int .i64 B]) := hide (by simp [mvV, mvR, mvB, hp])
    have hd : (pl == 0) = true := by simp [hp]
    rw [HV.out]
    clear hp h2
    go_enter Try.func55, Try.ntmps55
    go_wp2
    exact bodyPost_ret (v := .agg #[.int .i64 n, .int .i64 L, .int .i64 (withE R i), .int .i64 B]) (by simp [results, Try.results55, go_sem]) rfl ⟨rfl, (below_alloc _ _).alloc (by simp) _⟩
  · have HV : Hid (mvV n L R B pl i = .agg #[.int .i64 n, .int .i64 L, .int .i64 R, .int .i64 (withE B i)]) := hide (by simp [mvV, mvR, mvB, hp])
    have hd : (pl == 0) = false := by simp [hp]
    rw [HV.out]
    clear hp h1
    go_enter Try.func55, Try.ntmps55
    go_wp2
    exact bodyPost_ret (v := .agg #[.int .i64 n, .int .i64 L, .int .i64 R, .int .i64 (withE B i)]) (by simp [results, Try.results55, go_sem]) rfl ⟨rfl, (below_alloc _ _).alloc (by simp) _⟩
set_option maxHeartbeats 1000000 in
theorem coloured_any (n L R B pl i : Int) (hr0 : 0 ≤ R) (hr1 : R < 256) (hb0 : 0 ≤ B) (hb1 : B < 256) (hi : 0 ≤ i) (hi8 : i < 8) (W : World) :
    Calls Try.prog 58 #[.agg #[.int .i64 n, .int .i64 L, .int .i64 R, .int .i64 B], .int .i64 pl, .int .i64 i] W (RetB (mvV n L R B pl i) W) := by
  have hs := shl_walkL (k := i) (by omega)
  have h1 := or_walkL (E := R) (k := i) hr0 (by omega) (by omega)
  have h2 := or_walkL (E := B) (k := i) hb0 (by omega) (by omega)
  by_cases hp : pl = 0
  · have HV : Hid (mvV n L R B pl i = .agg #[.int .i64 n, .int .i64 L, .int .i64 (withE R i), .int .i64 B]) := hide (by simp [mvV, mvR, mvB, hp])
    have hd : (pl == 0) = true := by simp [hp]
    rw [HV.out]
    clear hp h2
    go_enter Try.func58, Try.ntmps58
    go_wp2
    go_region
    go_wp2
    exact bodyPost_ret (v := .agg #[.int .i64 n, .int .i64 L, .int .i64 (withE R i), .int .i64 B]) (by simp [results, Try.results58, go_sem]) rfl ⟨rfl, (((Below.refl _ _).alloc (Nat.le_refl _) _).alloc (by simp) _).drew⟩
  · have HV : Hid (mvV n L R B pl i = .agg #[.int .i64 n, .int .i64 L, .int .i64 R, .int .i64 (withE B i)]) := hide (by simp [mvV, mvR, mvB, hp])
    have hd : (pl == 0) = false := by simp [hp]
    rw [HV.out]
    clear hp h1
    go_enter Try.func58, Try.ntmps58
    go_wp2
    go_region
    go_wp2
    exact bodyPost_ret (v := .agg #[.int .i64 n, .int .i64 L, .int .i64 R, .int .i64 (withE B i)]) (by simp [results, Try.results58, go_sem]) rfl ⟨rfl, (((Below.refl _ _).alloc (Nat.le_refl _) _).alloc (by simp) _).drew⟩

/-- The box of a turn. -/
theorem box_set5 {w : World} {b : Nat} {x0 x1 x2 x3 x4 : Value} (y0 y1 y2 y3 y4 : Value) {t : TypeId} (h : w.heap[b]? = some (.cells #[x0, x1, x2, x3, x4] t (0, 0))) :
    (((((w.setCell ⟨b, 0, none⟩ y0).setCell ⟨b, 1, none⟩ y1).setCell ⟨b, 2, none⟩ y2).setCell ⟨b, 3, none⟩ y3).setCell ⟨b, 4, none⟩ y4).heap[b]? = some (.cells #[y0, y1, y2, y3, y4] t (0, 0)) :=
  heap_setCell_same _ b 4 _ t y4 (heap_setCell_same _ b 3 _ t y3 (heap_setCell_same _ b 2 _ t y2 (heap_setCell_same _ b 1 _ t y1 (heap_setCell_same _ b 0 _ t y0 h))))
theorem below5 {W w1 : World} {b : Nat} (x0 x1 x2 x3 x4 : Value) (h : Below W.heap.size W w1) (hb : W.heap.size ≤ b) : Below W.heap.size W (((((w1.setCell ⟨b, 0, none⟩ x0).setCell ⟨b, 1, none⟩ x1).setCell ⟨b, 2, none⟩ x2).setCell ⟨b, 3, none⟩ x3).setCell ⟨b, 4, none⟩ x4) :=
  (below4 x0 x1 x2 x3 h hb).setCell (p := ⟨b, 4, none⟩) hb x4

def tnV (n L R B pl : Int) : Value := .agg #[.int .i64 n, .int .i64 L, .int .i64 R, .int .i64 B, .int .i64 pl]
set_option maxRecDepth 100000 in
set_option maxHeartbeats 2000000 in
theorem after_any (n L R B pl i : Int) (hr0 : 0 ≤ R) (hr1 : R < 256) (hb0 : 0 ≤ B) (hb1 : B < 256) (hi : 0 ≤ i) (hi8 : i < 8) (hp0 : 0 ≤ pl) (hp1 : pl ≤ 1) (W : World) :
    Calls Try.prog 66 #[.agg #[.int .i64 n, .int .i64 L, .int .i64 R, .int .i64 B, .int .i64 pl], .int .i64 i] W (RetB (.agg #[.int .i64 n, .int .i64 L, .int .i64 (mvR R pl i), .int .i64 (mvB B pl i), .int .i64 (1 - pl)]) W) := by
  obtain ⟨W0, hW0⟩ : ∃ W0, W0 = (W.alloc (.cells #[.int .i64 n, .int .i64 L, .int .i64 R, .int .i64 B, .int .i64 pl] 64)).alloc (.cells #[.int .i64 0, .int .i64 0, .int .i64 0, .int .i64 0, .int .i64 0] 64) := ⟨_, rfl⟩
  have hB0 : Hid (Below W.heap.size W W0) := by rw [hW0]; exact hide ((below_alloc _ _).alloc (by simp) _)
  have hX0 : Hid (W0.heap[W.heap.size]? = some (.cells #[.int .i64 n, .int .i64 L, .int .i64 R, .int .i64 B, .int .i64 pl] 64 (0, 0))) := by rw [hW0]; exact hide (row_alloc (alloc_row _ _ _) _)
  have hR0 : Hid (W0.heap[W.heap.size + 1]? = some (.cells #[.int .i64 0, .int .i64 0, .int .i64 0, .int .i64 0, .int .i64 0] 64 (0, 0))) := by rw [hW0]; exact hide (alloc_row2 _ _ _ _)
  have hs0 : Hid (W0.heap.size = W.heap.size + 2) := by rw [hW0]; exact hide (by simp)
  have hco : Hid (∀ V : World, Calls Try.prog 58 #[.agg #[.int .i64 n, .int .i64 L, .int .i64 R, .int .i64 B], .int .i64 pl, .int .i64 i] V (RetB (mvV n L R B pl i) V)) := hide (fun V => coloured_any n L R B pl i hr0 hr1 hb0 hb1 hi hi8 V)
  obtain ⟨r, hr⟩ : ∃ r, r = mvR R pl i := ⟨_, rfl⟩
  obtain ⟨b, hb⟩ : ∃ b, b = mvB B pl i := ⟨_, rfl⟩
  unfold mvV at hco
  rw [← hr, ← hb] at hco ⊢
  have hsw : IntKind.i64.wrap (1 - pl) = 1 - pl := wraps_i64 _ (by omega) (by omega)
  obtain ⟨x0, x1, x2, x3, x4, _⟩ := row5 hX0.out
  clear hr hb
  go_enter Try.func66, Try.ntmps66
  go_wp2_with fail
  rw [← hW0]
  clear hW0
  (try go_wp2_with fail)
  have p0 : ∀ p : Past W0, p.to.cell? ⟨W.heap.size, 0, none⟩ = some (.int .i64 n) := fun p => p.cell x0
  have p1 : ∀ p : Past W0, p.to.cell? ⟨W.heap.size, 1, none⟩ = some (.int .i64 L) := fun p => p.cell x1
  have p2 : ∀ p : Past W0, p.to.cell? ⟨W.heap.size, 2, none⟩ = some (.int .i64 R) := fun p => p.cell x2
  have p3 : ∀ p : Past W0, p.to.cell? ⟨W.heap.size, 3, none⟩ = some (.int .i64 B) := fun p => p.cell x3
  have p4 : ∀ p : Past W0, p.to.cell? ⟨W.heap.size, 4, none⟩ = some (.int .i64 pl) := fun p => p.cell x4
  clear x0 x1 x2 x3 x4
  refine wp_region_past_tail 10 (by kernel_rfl) (by kernel_rfl) ?_
  simp only [List.take_succ_cons, List.take_zero, List.drop_succ_cons, List.drop_zero]
  repeat (first | go_big_quiet_step ((go_at_call 58; (with_reducible exact ret_past (hco.out _)))) | quiet_step ((go_at_call 58; (with_reducible exact ret_past (hco.out _)))))
  refine wpQuiet_nil ?_
  rintro _ ⟨pq, rfl⟩
  have hB1 := hide (Below.trans' hB0.out pq.old)
  have hR1 := hide (box_keep hR0.out pq.old)
  obtain ⟨r0, r1, r2, r3, r4, f0, f1, f2, f3, f4⟩ := row5 hR1.out
  clear p0 p1 p2 p3 p4 hsw
  go_wp2_with fail
  exact bodyPost_ret (v := .agg #[.int .i64 n, .int .i64 L, .int .i64 r, .int .i64 b, .int .i64 (1 - pl)]) (by simp [results, Try.results66, go_sem, r0, r1, r2, r3, r4]) rfl ⟨rfl, below5 _ _ _ _ _ hB1.out (by omega)⟩
end Go.Proofs.Ytdimmlpnfghndaa
