/-
  Col and snort: UnionOf, both texts.
-/
import Derived.Test.YtdimmlpnfghndaaFw
import Derived.Test.YtdimmlpnfghndaaFl
import Derived.Test.YtdimmlpnfghndaaQr
import Derived.Test.YtdimmlpnfghndaaFo
import Derived.BigRegion
namespace Go.Proofs.Ytdimmlpnfghndaa
open Go.RowKit Go.Shelf
attribute [local go_sem] Oper.semAt_some
set_option linter.unusedVariables false

theorem uniR_bad {n L R B n' L' R' B' : Int} (h : ¬ (okF n L R B = true ∧ okF n' L' R' B' = true)) : uniR n L R B n' L' R' B' = (0, 0, 0, 0, 1) := by unfold uniR; rw [if_neg h]
theorem uniR_big {n L R B n' L' R' B' : Int} (h : okF n L R B = true ∧ okF n' L' R' B' = true) (h8 : ¬ n + n' ≤ 8) : uniR n L R B n' L' R' B' = (0, 0, 0, 0, 3) := by unfold uniR; rw [if_pos h, if_neg h8]
theorem uniR_ok {n L R B n' L' R' B' : Int} (h : okF n L R B = true ∧ okF n' L' R' B' = true) (h8 : n + n' ≤ 8) : uniR n L R B n' L' R' B' = (n + n', uJ n L' n'.toNat L, orI R (R' * 2 ^ n.toNat), orI B (B' * 2 ^ n.toNat), 0) := by unfold uniR; rw [if_pos h, if_pos h8]

set_option maxRecDepth 100000 in
set_option maxHeartbeats 2000000 in
theorem specUnionOf_any (n L R B n' L' R' B' : Int) (W : World) : Calls Try.prog 37 #[.agg #[.int .i64 n, .int .i64 L, .int .i64 R, .int .i64 B], .agg #[.int .i64 n', .int .i64 L', .int .i64 R', .int .i64 B']] W (RetB (fcV (uniR n L R B n' L' R' B')) W) := by
  obtain ⟨W0, hW0⟩ : ∃ W0, W0 = ((W.alloc (.cells #[.int .i64 n, .int .i64 L, .int .i64 R, .int .i64 B] 25)).alloc (.cells #[.int .i64 n', .int .i64 L', .int .i64 R', .int .i64 B'] 25)).alloc (.cells #[.int .i64 0, .int .i64 0, .int .i64 0, .int .i64 0] 25) := ⟨_, rfl⟩
  have hB0 : Hid (Below W.heap.size W W0) := by rw [hW0]; exact hide (((below_alloc _ _).alloc (by simp) _).alloc (by simp; omega) _)
  have hX0 : Hid (FieldIn W0 W.heap.size n L R B) := by rw [hW0]; exact hide (fieldIn_of_row (row_alloc (row_alloc (alloc_row _ _ _) _) _))
  have hY0 : Hid (FieldIn W0 (W.heap.size + 1) n' L' R' B') := by rw [hW0]; exact hide (fieldIn_of_row (row_alloc (alloc_row2 _ _ _ _) _))
  have hR0 : Hid (W0.heap[W.heap.size + 1 + 1]? = some (.cells #[.int .i64 0, .int .i64 0, .int .i64 0, .int .i64 0] 25 (0, 0))) := by rw [hW0]; exact hide (alloc_row3 _ _ _ _ _)
  obtain ⟨X0, X1, X2, X3⟩ := hX0.out
  obtain ⟨Y0, Y1, Y2, Y3⟩ := hY0.out
  cases hok : okF n L R B
  · have HR := hide (uniR_bad (n := n) (L := L) (R := R) (B := B) (n' := n') (L' := L') (R' := R') (B' := B') (by simp [hok]))
    have HOK := hide hok
    rw [HR.out]
    clear hok
    go_enter Try.func37, Try.ntmps37
    go_wp2_with fail
    rw [← hW0]
    clear hW0
    go_wp2_with fail
    refine (specIs_is HOK.out _).mono ?_
    rintro e w1 ⟨rfl, hb1⟩
    (try clear X0 X1 X2 X3)
    have hX1 := hide (hX0.out.keep hb1)
    obtain ⟨X0, X1, X2, X3⟩ := hX1.out
    (try clear Y0 Y1 Y2 Y3)
    have hY1 := hide (hY0.out.keep hb1)
    obtain ⟨Y0, Y1, Y2, Y3⟩ := hY1.out
    (try clear R0 R1 R2 R3 Rf0 Rf1 Rf2 Rf3)
    have hR1 := hide (box_keep hR0.out hb1)
    obtain ⟨R0, R1, R2, R3, Rf0, Rf1, Rf2, Rf3⟩ := row4 hR1.out
    have hB1 := hide (Below.trans' hB0.out hb1)
    clear hb1
    go_wp2_with fail
    exact bodyPost_ret (v := fcV (0, 0, 0, 0, 1)) (by simp [results, Try.results37, go_sem, R0, R1, R2, R3, fcV]) rfl ⟨rfl, below4 _ _ _ _ hB1.out (by omega)⟩
  · have HOK := hide hok
    cases hok' : okF n' L' R' B'
    · have HR := hide (uniR_bad (n := n) (L := L) (R := R) (B := B) (n' := n') (L' := L') (R' := R') (B' := B') (by simp [hok']))
      have HOK' := hide hok'
      rw [HR.out]
      clear hok hok'
      go_enter Try.func37, Try.ntmps37
      go_wp2_with fail
      rw [← hW0]
      clear hW0
      go_wp2_with fail
      refine (specIs_is HOK.out _).mono ?_
      rintro e w1 ⟨rfl, hb1⟩
      (try clear X0 X1 X2 X3)
      have hX1 := hide (hX0.out.keep hb1)
      obtain ⟨X0, X1, X2, X3⟩ := hX1.out
      (try clear Y0 Y1 Y2 Y3)
      have hY1 := hide (hY0.out.keep hb1)
      obtain ⟨Y0, Y1, Y2, Y3⟩ := hY1.out
      (try clear R0 R1 R2 R3 Rf0 Rf1 Rf2 Rf3)
      have hR1 := hide (box_keep hR0.out hb1)
      obtain ⟨R0, R1, R2, R3, Rf0, Rf1, Rf2, Rf3⟩ := row4 hR1.out
      have hB1 := hide (Below.trans' hB0.out hb1)
      clear hb1
      go_wp2_with fail
      refine (specIs_is HOK'.out _).mono ?_
      rintro e w2 ⟨rfl, hb2⟩
      (try clear X0 X1 X2 X3)
      have hX2 := hide (hX1.out.keep hb2)
      obtain ⟨X0, X1, X2, X3⟩ := hX2.out
      (try clear Y0 Y1 Y2 Y3)
      have hY2 := hide (hY1.out.keep hb2)
      obtain ⟨Y0, Y1, Y2, Y3⟩ := hY2.out
      (try clear R0 R1 R2 R3 Rf0 Rf1 Rf2 Rf3)
      have hR2 := hide (box_keep hR1.out hb2)
      obtain ⟨R0, R1, R2, R3, Rf0, Rf1, Rf2, Rf3⟩ := row4 hR2.out
      have hB2 := hide (Below.trans' hB1.out hb2)
      clear hb2
      go_wp2_with fail
      exact bodyPost_ret (v := fcV (0, 0, 0, 0, 1)) (by simp [results, Try.results37, go_sem, R0, R1, R2, R3, fcV]) rfl ⟨rfl, below4 _ _ _ _ hB2.out (by omega)⟩
    · have HOK' := hide hok'
      obtain ⟨k0, k1, _⟩ := okF_nums hok
      obtain ⟨g0, g1, _⟩ := okF_nums hok'
      by_cases h8 : n + n' ≤ 8
      · have HR := hide (uniR_ok ⟨hok, hok'⟩ h8)
        have HUN : Hid (∀ V : World, Calls Try.prog 73 #[.agg #[.int .i64 n, .int .i64 L, .int .i64 R, .int .i64 B], .agg #[.int .i64 n', .int .i64 L', .int .i64 R', .int .i64 B']] V (RetB (.agg #[.int .i64 (n + n'), .int .i64 (uJ n L' n'.toNat L), .int .i64 (orI R (R' * 2 ^ n.toNat)), .int .i64 (orI B (B' * 2 ^ n.toNat))]) V)) := hide (fun V => specUnion_any n L R B n' L' R' B' HOK.out HOK'.out h8 V)
        rw [HR.out]
        obtain ⟨x, hx⟩ : ∃ x, x = uJ n L' n'.toNat L := ⟨_, rfl⟩
        obtain ⟨y, hy⟩ : ∃ y, y = orI R (R' * 2 ^ n.toNat) := ⟨_, rfl⟩
        obtain ⟨z, hz⟩ : ∃ z, z = orI B (B' * 2 ^ n.toNat) := ⟨_, rfl⟩
        rw [← hx, ← hy, ← hz] at HUN ⊢
        clear hok hok' hx hy hz
        go_enter Try.func37, Try.ntmps37
        go_wp2_with fail
        rw [← hW0]
        clear hW0
        go_wp2_with fail
        refine (specIs_is HOK.out _).mono ?_
        rintro e w1 ⟨rfl, hb1⟩
        (try clear X0 X1 X2 X3)
        have hX1 := hide (hX0.out.keep hb1)
        obtain ⟨X0, X1, X2, X3⟩ := hX1.out
        (try clear Y0 Y1 Y2 Y3)
        have hY1 := hide (hY0.out.keep hb1)
        obtain ⟨Y0, Y1, Y2, Y3⟩ := hY1.out
        (try clear R0 R1 R2 R3 Rf0 Rf1 Rf2 Rf3)
        have hR1 := hide (box_keep hR0.out hb1)
        obtain ⟨R0, R1, R2, R3, Rf0, Rf1, Rf2, Rf3⟩ := row4 hR1.out
        have hB1 := hide (Below.trans' hB0.out hb1)
        clear hb1
        go_wp2_with fail
        refine (specIs_is HOK'.out _).mono ?_
        rintro e w2 ⟨rfl, hb2⟩
        (try clear X0 X1 X2 X3)
        have hX2 := hide (hX1.out.keep hb2)
        obtain ⟨X0, X1, X2, X3⟩ := hX2.out
        (try clear Y0 Y1 Y2 Y3)
        have hY2 := hide (hY1.out.keep hb2)
        obtain ⟨Y0, Y1, Y2, Y3⟩ := hY2.out
        (try clear R0 R1 R2 R3 Rf0 Rf1 Rf2 Rf3)
        have hR2 := hide (box_keep hR1.out hb2)
        obtain ⟨R0, R1, R2, R3, Rf0, Rf1, Rf2, Rf3⟩ := row4 hR2.out
        have hB2 := hide (Below.trans' hB1.out hb2)
        clear hb2
        go_wp2_with fail
        refine (HUN.out _).mono ?_
        rintro e w3 ⟨rfl, hb3⟩
        (try clear R0 R1 R2 R3 Rf0 Rf1 Rf2 Rf3)
        have hR3 := hide (box_keep hR2.out hb3)
        obtain ⟨R0, R1, R2, R3, Rf0, Rf1, Rf2, Rf3⟩ := row4 hR3.out
        have hB3 := hide (Below.trans' hB2.out hb3)
        clear hb3
        go_wp2_with fail
        exact bodyPost_ret (v := fcV (n + n', x, y, z, 0)) (by simp [results, Try.results37, go_sem, R0, R1, R2, R3, fcV]) rfl ⟨rfl, below4 _ _ _ _ hB3.out (by omega)⟩
      · have HR := hide (uniR_big ⟨hok, hok'⟩ h8)
        have hd : 8 < n + n' := by omega
        rw [HR.out]
        clear hok hok' h8
        go_enter Try.func37, Try.ntmps37
        go_wp2_with fail
        rw [← hW0]
        clear hW0
        go_wp2_with fail
        refine (specIs_is HOK.out _).mono ?_
        rintro e w1 ⟨rfl, hb1⟩
        (try clear X0 X1 X2 X3)
        have hX1 := hide (hX0.out.keep hb1)
        obtain ⟨X0, X1, X2, X3⟩ := hX1.out
        (try clear Y0 Y1 Y2 Y3)
        have hY1 := hide (hY0.out.keep hb1)
        obtain ⟨Y0, Y1, Y2, Y3⟩ := hY1.out
        (try clear R0 R1 R2 R3 Rf0 Rf1 Rf2 Rf3)
        have hR1 := hide (box_keep hR0.out hb1)
        obtain ⟨R0, R1, R2, R3, Rf0, Rf1, Rf2, Rf3⟩ := row4 hR1.out
        have hB1 := hide (Below.trans' hB0.out hb1)
        clear hb1
        go_wp2_with fail
        refine (specIs_is HOK'.out _).mono ?_
        rintro e w2 ⟨rfl, hb2⟩
        (try clear X0 X1 X2 X3)
        have hX2 := hide (hX1.out.keep hb2)
        obtain ⟨X0, X1, X2, X3⟩ := hX2.out
        (try clear Y0 Y1 Y2 Y3)
        have hY2 := hide (hY1.out.keep hb2)
        obtain ⟨Y0, Y1, Y2, Y3⟩ := hY2.out
        (try clear R0 R1 R2 R3 Rf0 Rf1 Rf2 Rf3)
        have hR2 := hide (box_keep hR1.out hb2)
        obtain ⟨R0, R1, R2, R3, Rf0, Rf1, Rf2, Rf3⟩ := row4 hR2.out
        have hB2 := hide (Below.trans' hB1.out hb2)
        clear hb2
        go_wp2_with fail
        exact bodyPost_ret (v := fcV (0, 0, 0, 0, 3)) (by simp [results, Try.results37, go_sem, R0, R1, R2, R3, fcV]) rfl ⟨rfl, below4 _ _ _ _ hB2.out (by omega)⟩

/-- The lines of the first k lines of the second field. -/
def unL (n : Int) {n' L' : Int} (pre : List (Ln n' L')) (L : Int) : Int := pre.foldl (fun M x => withE M (lp (n + x.1.1) (n + x.1.2))) L
theorem unL_snoc (n : Int) {n' L' : Int} (pre : List (Ln n' L')) (x : Ln n' L') (L : Int) : unL n (pre ++ [x]) L = withE (unL n pre L) (lp (n + x.1.1) (n + x.1.2)) := by simp [unL]
theorem unL_append (n : Int) {n' L' : Int} (a b : List (Ln n' L')) (L : Int) : unL n (a ++ b) L = unL n b (unL n a L) := by simp [unL]
theorem unL_lnI (n : Int) {n' L' : Int} (j : Nat) (hj : (j : Int) < n') : ∀ (i : Nat) (h : i ≤ j) (L : Int), unL n (lnI n' L' j hj i h) L = uI n L' j i L
  | 0, _, _ => rfl
  | i + 1, h, L => by
    have ih := unL_lnI n (L' := L') j hj i (by omega) L
    rw [lnI, uI]
    split
    · rename_i hd
      rw [unL_snoc, ih]
    · rw [ih]
theorem unL_lnJ (n : Int) {n' L' : Int} : ∀ (j : Nat) (h : (j : Int) ≤ n') (L : Int), unL n (lnJ n' L' j h) L = uJ n L' j L
  | 0, _, _ => rfl
  | j + 1, h, L => by rw [lnJ, unL_append, unL_lnJ n j (by omega), unL_lnI, uJ]
theorem unL_lns (n : Int) {n' L' : Int} (h : 0 ≤ n') (L : Int) : unL n (lns n' L' h) L = uJ n L' n'.toNat L := unL_lnJ n _ _ _
theorem unL_range {n L n' L' : Int} (h0 : 0 ≤ n) (h8 : n + n' ≤ 8) : ∀ (pre : List (Ln n' L')), 0 ≤ L ∧ L < 268435456 → 0 ≤ unL n pre L ∧ unL n pre L < 268435456 := by
  intro pre
  induction pre generalizing L with
  | nil => exact fun h => h
  | cons x r ih =>
    intro h
    have hx := x.2
    have hl := lp_lt (i := n + x.1.1) (j := n + x.1.2) (by omega) (by omega) (by omega)
    refine ih ⟨withE_nonneg _ _, ?_⟩
    have := withE_lt (n := 28) h.1 (by simpa using h.2) (k := lp (n + x.1.1) (n + x.1.2)) (by omega)
    simpa using this

/-- Between two rounds of the loop in UnionOf. -/
def MidU (n L n' L' R B r b : Int) (B0 N6 : Nat) (pre : List (Ln n' L')) (W0 W : World) : Prop :=
  N6 + 2 ≤ W.heap.size ∧ FieldIn W B0 n L R B ∧ W.heap[B0 + 1 + 1]? = some (.cells #[.int .i64 0, .int .i64 0, .int .i64 0, .int .i64 0] 25 (0, 0)) ∧ W.heap[N6]? = some (.cells #[.int .i64 (n + n'), .int .i64 (unL n pre L), .int .i64 r, .int .i64 b] 25 (0, 0)) ∧ Below B0 W0 W
theorem MidU.below {n L n' L' R B r b : Int} {B0 N6 : Nat} {pre : List (Ln n' L')} {W0 W W' : World} (h : MidU n L n' L' R B r b B0 N6 pre W0 W) (hb : Below (N6 + 2) W W') (h6 : B0 + 3 ≤ N6 := by omega) : MidU n L n' L' R B r b B0 N6 pre W0 W' := by
  obtain ⟨h1, ⟨a0, a1, a2, a3⟩, h3, h4, h5⟩ := h
  exact ⟨Nat.le_trans h1 hb.size, ⟨(hb.cell (p := ⟨B0, 0, none⟩) (by show B0 < N6 + 2; omega)).trans a0, (hb.cell (p := ⟨B0, 1, none⟩) (by show B0 < N6 + 2; omega)).trans a1, (hb.cell (p := ⟨B0, 2, none⟩) (by show B0 < N6 + 2; omega)).trans a2, (hb.cell (p := ⟨B0, 3, none⟩) (by show B0 < N6 + 2; omega)).trans a3⟩, (hb.block _ (by omega)).trans h3, (hb.block _ (by omega)).trans h4, h5.trans (hb.mono (by omega))⟩
theorem MidU.put {n L n' L' R B r b M : Int} {B0 N6 : Nat} {pre pre' : List (Ln n' L')} {W0 W : World} (h : MidU n L n' L' R B r b B0 N6 pre W0 W) (h6 : B0 + 3 ≤ N6) {M0 : Int} (hU : W.heap[N6]? = some (.cells #[.int .i64 (n + n'), .int .i64 M0, .int .i64 r, .int .i64 b] 25 (0, 0))) (hM : unL n pre' L = M) :
    MidU n L n' L' R B r b B0 N6 pre' W0 (W.setCell ⟨N6, 1, none⟩ (.int .i64 M)) := by
  obtain ⟨h1, h2, h3, h4, h5⟩ := h
  refine ⟨by simpa [World.setCell] using h1, fieldIn_set h2 (by omega) _, (Below.heap_setCell W _ _ _ (by show B0 + 1 + 1 ≠ N6; omega)).trans h3, ?_, h5.setCell (p := ⟨N6, 1, none⟩) (by simp; omega) _⟩
  rw [hM]
  exact row_set _ hU

set_option maxRecDepth 100000 in
set_option maxHeartbeats 4000000 in
theorem implUnionOf_ok (n L R B n' L' R' B' : Int) (hok : okF n L R B = true) (hok' : okF n' L' R' B' = true) (h8 : n + n' ≤ 8) (W : World) :
    Calls Try.prog 38 #[.agg #[.int .i64 n, .int .i64 L, .int .i64 R, .int .i64 B], .agg #[.int .i64 n', .int .i64 L', .int .i64 R', .int .i64 B']] W (RetB (fcV (n + n', uJ n L' n'.toNat L, orI R (R' * 2 ^ n.toNat), orI B (B' * 2 ^ n.toNat), 0)) W) := by
  obtain ⟨W0, hW0⟩ : ∃ W0, W0 = ((W.alloc (.cells #[.int .i64 n, .int .i64 L, .int .i64 R, .int .i64 B] 25)).alloc (.cells #[.int .i64 n', .int .i64 L', .int .i64 R', .int .i64 B'] 25)).alloc (.cells #[.int .i64 0, .int .i64 0, .int .i64 0, .int .i64 0] 25) := ⟨_, rfl⟩
  have hB0 : Hid (Below W.heap.size W W0) := by rw [hW0]; exact hide (((below_alloc _ _).alloc (by simp) _).alloc (by simp; omega) _)
  have hX0 : Hid (FieldIn W0 W.heap.size n L R B) := by rw [hW0]; exact hide (fieldIn_of_row (row_alloc (row_alloc (alloc_row _ _ _) _) _))
  have hY0 : Hid (FieldIn W0 (W.heap.size + 1) n' L' R' B') := by rw [hW0]; exact hide (fieldIn_of_row (row_alloc (alloc_row2 _ _ _ _) _))
  have hR0 : Hid (W0.heap[W.heap.size + 1 + 1]? = some (.cells #[.int .i64 0, .int .i64 0, .int .i64 0, .int .i64 0] 25 (0, 0))) := by rw [hW0]; exact hide (alloc_row3 _ _ _ _ _)
  have hs0 : Hid (W0.heap.size = W.heap.size + 3) := by rw [hW0]; exact hide (by simp)
  obtain ⟨X0, X1, X2, X3⟩ := hX0.out
  obtain ⟨Y0, Y1, Y2, Y3⟩ := hY0.out
  obtain ⟨k0, k1, k2, k3, k4, k5, k6, k7⟩ := okF_nums hok
  obtain ⟨g0, g1, g2, g3, g4, g5, g6, g7⟩ := okF_nums hok'
  obtain ⟨y, hy, y0, y1, sy, sy'⟩ := shl_num g4 g5 (n := n) (by omega) k1
  obtain ⟨z, hz, z0, z1, sz, sz'⟩ := shl_num g6 g7 (n := n) (by omega) k1
  have oy := or_walkI (x := R) (y := y) k4 (by omega) y0 (by omega)
  have oz := or_walkI (x := B) (y := z) k6 (by omega) z0 (by omega)
  have ss : IntKind.i64.wrap (n + n') = n + n' := wraps_i64 _ (by omega) (by omega)
  rw [← hy, ← hz]
  obtain ⟨r, hr⟩ : ∃ r, r = orI R y := ⟨_, rfl⟩
  obtain ⟨b, hb⟩ : ∃ b, b = orI B z := ⟨_, rfl⟩
  rw [← hr] at oy ⊢
  rw [← hb] at oz ⊢
  have HOK := hide hok
  have HOK' := hide hok'
  clear hok hok' hy hz hr hb
  refine (callsIn_wide (n := 6)).1 ?_
  refine callsIn_of_wp_marks Try.func38 rfl trivial ?_ rfl
  simp only [Try.ntmps38, List.size_toArray, List.length_cons, List.length_nil, Nat.reduceAdd, Nat.reduceSub, Array.replicate_succ, Array.replicate_zero, List.push_toArray, List.append_toArray, List.nil_append, List.cons_append]
  gi_wp2_with fail
  rw [← hW0]
  clear hW0
  gi_wp2_with (first
    | (refine ⟨trivial, ?_⟩; gi_at_call 16; (with_reducible refine (callsIn_wide.2 (implIs_is HOK.out _)).mono ?_); rintro e w1 ⟨rfl, hb1⟩; have hX1 := hide (hX0.out.keep hb1); have hY1 := hide (hY0.out.keep hb1); have hR1 := hide (box_keep hR0.out hb1); have hB1 := hide (Below.trans' hB0.out hb1); have hs1 : Hid (W.heap.size + 3 ≤ w1.heap.size) := hide (by have := hb1.size; have := hs0.out; omega); clear hb1 X0 X1 X2 X3 Y0 Y1 Y2 Y3; obtain ⟨X0, X1, X2, X3⟩ := hX1.out; obtain ⟨Y0, Y1, Y2, Y3⟩ := hY1.out)
    | (refine ⟨trivial, ?_⟩; gi_at_call 16; (with_reducible refine (callsIn_wide.2 (implIs_is HOK'.out _)).mono ?_); rintro e w2 ⟨rfl, hb2⟩; have hX2 := hide (hX1.out.keep hb2); have hY2 := hide (hY1.out.keep hb2); have hR2 := hide (box_keep hR1.out hb2); have hB2 := hide (Below.trans' hB1.out hb2); have hs2 : Hid (W.heap.size + 3 ≤ w2.heap.size) := hide (by have := hb2.size; have := hs1.out; omega); clear hb2 X0 X1 X2 X3 Y0 Y1 Y2 Y3; obtain ⟨X0, X1, X2, X3⟩ := hX2.out; obtain ⟨Y0, Y1, Y2, Y3⟩ := hY2.out))
  clear hX0 hY0 hR0 hX1 hY1 hR1 hB0 hB1 hs0 hs1
  refine wpIn_wide.2 ?_
  go_region_held3 (fun W' => W'.cell? ⟨W.heap.size, 0, none⟩ = some (.int .i64 n) ∧ W'.cell? ⟨W.heap.size, 1, none⟩ = some (.int .i64 L) ∧ W'.cell? ⟨W.heap.size, 2, none⟩ = some (.int .i64 R) ∧ W'.cell? ⟨W.heap.size, 3, none⟩ = some (.int .i64 B) ∧ W'.cell? ⟨W.heap.size + 1, 0, none⟩ = some (.int .i64 n') ∧ W'.cell? ⟨W.heap.size + 1, 2, none⟩ = some (.int .i64 R') ∧ W'.cell? ⟨W.heap.size + 1, 3, none⟩ = some (.int .i64 B'))
    (first | (refine ⟨cell_keep ?_ X0, cell_keep ?_ X1, cell_keep ?_ X2, cell_keep ?_ X3, cell_keep ?_ Y0, cell_keep ?_ Y2, cell_keep ?_ Y3⟩ <;> (repeat (first | exact Below.refl _ _ | refine Below.drew ?_ | refine Below.alloc' ?_ _ | (refine Below.setCell ?_ (by first | exact Nat.le_refl _ | (simp; omega)) _)))))
    ((first | fail))
  obtain ⟨N6, hN6⟩ : ∃ N6, N6 = w2.heap.size := ⟨_, rfl⟩
  obtain ⟨W3, hW3⟩ : ∃ W3, W3 = (w2.alloc (.cells #[.int .i64 (n + n'), .int .i64 L, .int .i64 r, .int .i64 b] 25)).drew := ⟨_, rfl⟩
  have hb3 : Below w2.heap.size w2 W3 := by rw [hW3]; exact Below.drew (below_alloc _ _)
  have hs3 : W3.heap.size = N6 + 1 := by rw [hW3, hN6]; simp
  have hU3 : Hid (W3.heap[N6]? = some (.cells #[.int .i64 (n + n'), .int .i64 L, .int .i64 r, .int .i64 b] 25 (0, 0))) := by rw [hW3, hN6]; exact hide (alloc_row w2 _ _)
  have hX3 := hide (hX2.out.keep hb3)
  have hY3 := hide (hY2.out.keep hb3)
  have hR3 := hide (box_keep hR2.out hb3)
  have hB3 := hide (Below.trans' hB2.out hb3)
  have hlt6 : W.heap.size + 3 ≤ N6 := by rw [hN6]; exact hs2.out
  rw [← hW3, ← hN6]
  obtain ⟨r6, R6⟩ : ∃ r6 : Unit, True := ⟨(), trivial⟩
  clear hW3 hN6 hb3 X0 X1 X2 X3 Y0 Y1 Y2 Y3 hX2 hY2 hR2 hB2 hs2 oy oz sy sy' sz sz' ss y0 y1 z0 z1
  obtain ⟨X0, X1, X2, X3⟩ := hX3.out
  obtain ⟨Y0, Y1, Y2, Y3⟩ := hY3.out
  gi_wp2_with (refine ⟨trivial, ?_⟩; gi_at_call 74; refine (callsIn_wide.2 (lines_any n' L' R' B' _)).mono ?_; rintro e w4 ⟨rfl, rfl⟩)
  obtain ⟨W4, hW4⟩ : ∃ W4, W4 = W3.alloc (.cells #[.int .i64 n', .int .i64 L', .int .i64 R', .int .i64 B'] 25) := ⟨_, rfl⟩
  have hb4 : Below W3.heap.size W3 W4 := by rw [hW4]; exact below_alloc _ _
  have hs4 : W4.heap.size = N6 + 2 := by rw [hW4]; simp; omega
  have hr4 : W4.heap[N6 + 1]? = some (.cells #[.int .i64 n', .int .i64 L', .int .i64 R', .int .i64 B'] 25 (0, 0)) := by
    have := alloc_row W3 #[.int .i64 n', .int .i64 L', .int .i64 R', .int .i64 B'] 25
    rw [hs3] at this
    rw [hW4]; exact this
  have hM0 : MidU n L n' L' R B r b W.heap.size N6 ([] : List (Ln n' L')) W W4 := ⟨by omega, hX3.out.keep hb4, box_keep hR3.out hb4, box_keep hU3.out hb4, Below.trans' hB3.out hb4⟩
  rw [← hW4]
  clear hW4 hb4 X0 X1 X2 X3 Y0 Y1 Y2 Y3 hX3 hY3 hR3 hU3 hB3
  refine wpIn_rangeFunc_ownF (F := Fence.wide) rfl (by omega) (gf := 80) (lb := #[.pointer (some ⟨N6 + 1, 0, none⟩)]) rfl trivial (enters_of Try.func80 (by kernel_rfl) rfl)
    (lines_stops 5 (by omega) (N6 + 1) N6 n' L' R' B' g0 g1 g2 g3 W4 hr4 (by omega)) KeepB.trans (keepB_b (by omega) (by omega)) (Below.refl _ _) (fun _ => rfl)
    (fun pre V => MidU n L n' L' R B r b W.heap.size N6 pre W V)
    (fun _ _ _ => False)
    (ownFrom_of_below (fun s V h => by rw [hs4]; exact h.1) (fun s V V' h hb => h.below (by rw [← hs4]; exact hb)))
    (fun _ _ _ _ _ hs _ _ => hs)
    hM0
    (fun x => { tmps := #[.agg #[.int .i64 n, .int .i64 L, .int .i64 R, .int .i64 B], .agg #[.int .i64 n', .int .i64 L', .int .i64 R', .int .i64 B'], .pointer (some ⟨W.heap.size, 0, none⟩), .pointer (some ⟨W.heap.size + 1, 0, none⟩), .pointer (some ⟨W.heap.size + 1 + 1, 0, none⟩), .int .i64 0, .pointer (some ⟨N6, 0, none⟩), .int .i64 (x.1.1 : Int), .int .i64 (x.1.2 : Int), .agg #[.int .i64 n, .int .i64 L, .int .i64 R, .int .i64 B], .bool true, .bool false, .bool false, .agg #[.int .i64 n', .int .i64 L', .int .i64 R', .int .i64 B'], .bool true, .bool false, .bool false, undef, .pointer (some ⟨W.heap.size, 0, none⟩), .int .i64 n, .pointer (some ⟨W.heap.size + 1, 0, none⟩), .int .i64 n', .int .i64 (n + n'), .bool (decide (8 < n + n')), undef, .pointer (some ⟨W.heap.size, 0, none⟩), .int .i64 n, .pointer (some ⟨W.heap.size + 1, 0, none⟩), .int .i64 n', .int .i64 (n + n'), .pointer (some ⟨W.heap.size, 1, none⟩), .int .i64 L, .pointer (some ⟨W.heap.size, 2, none⟩), .int .i64 R, .pointer (some ⟨W.heap.size + 1, 2, none⟩), .int .i64 R', .pointer (some ⟨W.heap.size, 0, none⟩), .int .i64 n, .int .i64 y, .int .i64 r, .pointer (some ⟨W.heap.size, 3, none⟩), .int .i64 B, .pointer (some ⟨W.heap.size + 1, 3, none⟩), .int .i64 B', .pointer (some ⟨W.heap.size, 0, none⟩), .int .i64 n, .int .i64 z, .int .i64 b, .agg #[.int .i64 (n + n'), .int .i64 L, .int .i64 r, .int .i64 b], .agg #[.int .i64 n', .int .i64 L', .int .i64 R', .int .i64 B'], .func (.func 80) #[] #[.pointer (some ⟨N6 + 1, 0, none⟩)], .int .i64 (x.1.1 : Int), .int .i64 (x.1.2 : Int), undef, undef, undef, undef, undef, undef, undef, undef, undef, undef, undef, undef, undef, undef, undef], defers := [] }) ?assign ?body ?done ?stop
  case assign =>
    intro l x V K hK
    gi_wp2
    exact hK
  case body =>
    rintro l pre ⟨⟨i, j⟩, hij, hjn, hdr⟩ V hM hlt
    simp only at hij hjn hdr
    dsimp only
    have HM := hide hM
    obtain ⟨m0, mX, mR, mU, mB⟩ := hM
    obtain ⟨M, hMe⟩ : ∃ M, M = unL n pre L := ⟨_, rfl⟩
    rw [← hMe] at mU
    have hMr := unL_range (n := n) (L := L) (by omega) h8 pre ⟨k2, k3⟩
    rw [← hMe] at hMr
    obtain ⟨P, hP⟩ : ∃ P, P = lp (n + i) (n + j) := ⟨_, rfl⟩
    have hPr := lp_lt (i := n + i) (j := n + j) (by omega) (by omega) (by omega)
    rw [← hP] at hPr
    have hLP : Hid (∀ V' : World, Calls Try.prog 43 #[.int .i64 (n + (i : Int)), .int .i64 (n + (j : Int))] V' (RetB (.int .i64 P) V')) := hide (fun V' => by rw [hP]; exact linePlace_any (n + i) (n + j) (by omega) (by omega) (by omega) (by omega) V')
    have s1 : IntKind.i64.wrap (n + (i : Int)) = n + i := wraps_i64 _ (by omega) (by omega)
    have s2 : IntKind.i64.wrap (n + (j : Int)) = n + j := wraps_i64 _ (by omega) (by omega)
    have hs := shl_walkL (k := P) (by omega)
    have hs' : IntKind.i64.wrap ((2 : Int) ^ P.toNat) = 2 ^ P.toNat := wraps_i64 _ (pow_28 (k := P) (by omega)).1 (by have := (pow_28 (k := P) (by omega)).2; omega)
    have hor := or_walkL (E := M) (k := P) hMr.1 hMr.2 (by omega)
    obtain ⟨P0, P1⟩ := hPr
    obtain ⟨c0, c1, c2, c3⟩ := mX
    obtain ⟨u0, u1, u2, u3, uf0, uf1, uf2, uf3⟩ := row4 mU
    have HU := hide mU
    have p0 : ∀ p : Past V, p.to.cell? ⟨W.heap.size, 0, none⟩ = some (.int .i64 n) := fun p => p.cell c0
    have q1 : ∀ p : Past V, p.to.cell? ⟨N6, 1, none⟩ = some (.int .i64 M) := fun p => p.cell u1
    have HNX : Hid (unL n (pre ++ [(⟨(i, j), hij, hjn, hdr⟩ : Ln n' L')]) L = withE M P) := hide (by rw [unL_snoc, ← hMe, ← hP])
    clear mR mU mB hMe hP hMr c0 c1 c2 c3 u0 u1 u2 u3 uf0 uf1 uf2 uf3
    gi_wp2_with fail
    refine wpIn_region_pastR_tail 14 (by kernel_rfl) (by kernel_rfl) (by kernel_rfl) ?_
    simp only [List.take_succ_cons, List.take_zero, List.drop_succ_cons, List.drop_zero]
    repeat (first | go_big_quiet_step ((go_at_call 43; (with_reducible exact ret_past (hLP.out _)))) | quiet_step ((go_at_call 43; (with_reducible exact ret_past (hLP.out _)))))
    refine wpQuiet_nil ?_
    rintro _ ⟨pq, rfl⟩
    have hMP := HM.out.below (pq.old.mono m0)
    have HU2 := hide (box_keep HU.out pq.old)
    obtain ⟨v0, v1, v2, v3, vf0, vf1, vf2, vf3⟩ := row4 HU2.out
    have HV := hide pq.old
    have HMP := hide hMP
    clear hMP p0 q1 s1 s2 hs hs' hor
    gi_wp2_with fail
    refine ⟨(keepsOthers_below HV.out).trans (KeepsOthers.setCell _ _ _), (KeepB.of_below HV.out (by omega) (by omega)).trans ⟨(Below.refl _ _).setCell (p := ⟨N6, 1, none⟩) (by simp) _, Below.heap_setCell _ _ _ _ (by simp)⟩, ?_⟩
    exact HMP.out.put hlt6 HU2.out HNX.out
  case done =>
    rintro D ys V hD rfl hM hK
    obtain ⟨m0, mX, mR, mU, mB⟩ := hM
    rw [unL_lns] at mU
    obtain ⟨u0, u1, u2, u3, uf0, uf1, uf2, uf3⟩ := row4 mU
    obtain ⟨R0, R1, R2, R3, Rf0, Rf1, Rf2, Rf3⟩ := row4 mR
    obtain ⟨x, hx⟩ : ∃ x, x = uJ n L' n'.toNat L := ⟨_, rfl⟩
    rw [← hx] at mU u1 ⊢
    have hne : W.heap.size + 1 + 1 ≠ D := by omega
    have hK2 : (((((V.setCell ⟨W.heap.size + 1 + 1, 0, none⟩ (.int .i64 (n + n'))).setCell ⟨W.heap.size + 1 + 1, 1, none⟩ (.int .i64 x)).setCell ⟨W.heap.size + 1 + 1, 2, none⟩ (.int .i64 r)).setCell ⟨W.heap.size + 1 + 1, 3, none⟩ (.int .i64 b))).heap[D]? = some (.deferred (some [])) :=
      (Below.heap_setCell _ _ _ _ (by simpa using hne.symm)).trans ((Below.heap_setCell _ _ _ _ (by simpa using hne.symm)).trans ((Below.heap_setCell _ _ _ _ (by simpa using hne.symm)).trans ((Below.heap_setCell _ _ _ _ (by simpa using hne.symm)).trans hK)))
    have HFIN := hide ((below4 (b := W.heap.size + 1 + 1) (.int .i64 (n + n')) (.int .i64 x) (.int .i64 r) (.int .i64 b) mB (by omega)).trans (belowK_b (n₀ := W.heap.size) (w := W4) (by omega) _ D _ (.deferred none) hD hK2 rfl rfl))
    have hrow := (World.putObj_heap_other (o := .deferred none) (by simpa using hne)).trans (box_set4 (.int .i64 (n + n')) (.int .i64 x) (.int .i64 r) (.int .i64 b) mR)
    have HX := hide hx
    clear mX mR mU mB hx
    gi_wp2
    obtain ⟨q0, q1, q2, q3, _⟩ := row4 hrow
    refine ⟨by simp, .inl ⟨_, _, rfl, run_takeDeferred hK2, ?_⟩⟩
    refine ⟨fcV (n + n', x, r, b, 0), by simp [results, Try.results38, go_sem, q0, q1, q2, q3, fcV], ?_⟩
    exact ⟨by rw [HX.out], HFIN.out⟩
  case stop =>
    rintro D c pre V _ _ h _
    exact h.elim

set_option maxRecDepth 100000 in
set_option maxHeartbeats 2000000 in
theorem implUnionOf_any (n L R B n' L' R' B' : Int) (W : World) : Calls Try.prog 38 #[.agg #[.int .i64 n, .int .i64 L, .int .i64 R, .int .i64 B], .agg #[.int .i64 n', .int .i64 L', .int .i64 R', .int .i64 B']] W (RetB (fcV (uniR n L R B n' L' R' B')) W) := by
  obtain ⟨W0, hW0⟩ : ∃ W0, W0 = ((W.alloc (.cells #[.int .i64 n, .int .i64 L, .int .i64 R, .int .i64 B] 25)).alloc (.cells #[.int .i64 n', .int .i64 L', .int .i64 R', .int .i64 B'] 25)).alloc (.cells #[.int .i64 0, .int .i64 0, .int .i64 0, .int .i64 0] 25) := ⟨_, rfl⟩
  have hB0 : Hid (Below W.heap.size W W0) := by rw [hW0]; exact hide (((below_alloc _ _).alloc (by simp) _).alloc (by simp; omega) _)
  have hX0 : Hid (FieldIn W0 W.heap.size n L R B) := by rw [hW0]; exact hide (fieldIn_of_row (row_alloc (row_alloc (alloc_row _ _ _) _) _))
  have hY0 : Hid (FieldIn W0 (W.heap.size + 1) n' L' R' B') := by rw [hW0]; exact hide (fieldIn_of_row (row_alloc (alloc_row2 _ _ _ _) _))
  have hR0 : Hid (W0.heap[W.heap.size + 1 + 1]? = some (.cells #[.int .i64 0, .int .i64 0, .int .i64 0, .int .i64 0] 25 (0, 0))) := by rw [hW0]; exact hide (alloc_row3 _ _ _ _ _)
  obtain ⟨X0, X1, X2, X3⟩ := hX0.out
  obtain ⟨Y0, Y1, Y2, Y3⟩ := hY0.out
  cases hok : okF n L R B
  · have HR := hide (uniR_bad (n := n) (L := L) (R := R) (B := B) (n' := n') (L' := L') (R' := R') (B' := B') (by simp [hok]))
    have HOK := hide hok
    rw [HR.out]
    clear hok
    go_enter Try.func38, Try.ntmps38
    go_wp2_with fail
    rw [← hW0]
    clear hW0
    go_wp2_with fail
    refine (implIs_is HOK.out _).mono ?_
    rintro e w1 ⟨rfl, hb1⟩
    (try clear X0 X1 X2 X3)
    have hX1 := hide (hX0.out.keep hb1)
    obtain ⟨X0, X1, X2, X3⟩ := hX1.out
    (try clear Y0 Y1 Y2 Y3)
    have hY1 := hide (hY0.out.keep hb1)
    obtain ⟨Y0, Y1, Y2, Y3⟩ := hY1.out
    (try clear R0 R1 R2 R3 Rf0 Rf1 Rf2 Rf3)
    have hR1 := hide (box_keep hR0.out hb1)
    obtain ⟨R0, R1, R2, R3, Rf0, Rf1, Rf2, Rf3⟩ := row4 hR1.out
    have hB1 := hide (Below.trans' hB0.out hb1)
    clear hb1
    go_wp2_with fail
    exact bodyPost_ret (v := fcV (0, 0, 0, 0, 1)) (by simp [results, Try.results38, go_sem, R0, R1, R2, R3, fcV]) rfl ⟨rfl, below4 _ _ _ _ hB1.out (by omega)⟩
  · have HOK := hide hok
    cases hok' : okF n' L' R' B'
    · have HR := hide (uniR_bad (n := n) (L := L) (R := R) (B := B) (n' := n') (L' := L') (R' := R') (B' := B') (by simp [hok']))
      have HOK' := hide hok'
      rw [HR.out]
      clear hok hok'
      go_enter Try.func38, Try.ntmps38
      go_wp2_with fail
      rw [← hW0]
      clear hW0
      go_wp2_with fail
      refine (implIs_is HOK.out _).mono ?_
      rintro e w1 ⟨rfl, hb1⟩
      (try clear X0 X1 X2 X3)
      have hX1 := hide (hX0.out.keep hb1)
      obtain ⟨X0, X1, X2, X3⟩ := hX1.out
      (try clear Y0 Y1 Y2 Y3)
      have hY1 := hide (hY0.out.keep hb1)
      obtain ⟨Y0, Y1, Y2, Y3⟩ := hY1.out
      (try clear R0 R1 R2 R3 Rf0 Rf1 Rf2 Rf3)
      have hR1 := hide (box_keep hR0.out hb1)
      obtain ⟨R0, R1, R2, R3, Rf0, Rf1, Rf2, Rf3⟩ := row4 hR1.out
      have hB1 := hide (Below.trans' hB0.out hb1)
      clear hb1
      go_wp2_with fail
      refine (implIs_is HOK'.out _).mono ?_
      rintro e w2 ⟨rfl, hb2⟩
      (try clear X0 X1 X2 X3)
      have hX2 := hide (hX1.out.keep hb2)
      obtain ⟨X0, X1, X2, X3⟩ := hX2.out
      (try clear Y0 Y1 Y2 Y3)
      have hY2 := hide (hY1.out.keep hb2)
      obtain ⟨Y0, Y1, Y2, Y3⟩ := hY2.out
      (try clear R0 R1 R2 R3 Rf0 Rf1 Rf2 Rf3)
      have hR2 := hide (box_keep hR1.out hb2)
      obtain ⟨R0, R1, R2, R3, Rf0, Rf1, Rf2, Rf3⟩ := row4 hR2.out
      have hB2 := hide (Below.trans' hB1.out hb2)
      clear hb2
      go_wp2_with fail
      exact bodyPost_ret (v := fcV (0, 0, 0, 0, 1)) (by simp [results, Try.results38, go_sem, R0, R1, R2, R3, fcV]) rfl ⟨rfl, below4 _ _ _ _ hB2.out (by omega)⟩
    · have HOK' := hide hok'
      obtain ⟨k0, k1, _⟩ := okF_nums hok
      obtain ⟨g0, g1, _⟩ := okF_nums hok'
      by_cases h8 : n + n' ≤ 8
      · rw [uniR_ok ⟨hok, hok'⟩ h8]
        exact implUnionOf_ok n L R B n' L' R' B' hok hok' h8 W
      · have HR := hide (uniR_big ⟨hok, hok'⟩ h8)
        have hd : 8 < n + n' := by omega
        rw [HR.out]
        clear hok hok' h8
        go_enter Try.func38, Try.ntmps38
        go_wp2_with fail
        rw [← hW0]
        clear hW0
        go_wp2_with fail
        refine (implIs_is HOK.out _).mono ?_
        rintro e w1 ⟨rfl, hb1⟩
        (try clear X0 X1 X2 X3)
        have hX1 := hide (hX0.out.keep hb1)
        obtain ⟨X0, X1, X2, X3⟩ := hX1.out
        (try clear Y0 Y1 Y2 Y3)
        have hY1 := hide (hY0.out.keep hb1)
        obtain ⟨Y0, Y1, Y2, Y3⟩ := hY1.out
        (try clear R0 R1 R2 R3 Rf0 Rf1 Rf2 Rf3)
        have hR1 := hide (box_keep hR0.out hb1)
        obtain ⟨R0, R1, R2, R3, Rf0, Rf1, Rf2, Rf3⟩ := row4 hR1.out
        have hB1 := hide (Below.trans' hB0.out hb1)
        clear hb1
        go_wp2_with fail
        refine (implIs_is HOK'.out _).mono ?_
        rintro e w2 ⟨rfl, hb2⟩
        (try clear X0 X1 X2 X3)
        have hX2 := hide (hX1.out.keep hb2)
        obtain ⟨X0, X1, X2, X3⟩ := hX2.out
        (try clear Y0 Y1 Y2 Y3)
        have hY2 := hide (hY1.out.keep hb2)
        obtain ⟨Y0, Y1, Y2, Y3⟩ := hY2.out
        (try clear R0 R1 R2 R3 Rf0 Rf1 Rf2 Rf3)
        have hR2 := hide (box_keep hR1.out hb2)
        obtain ⟨R0, R1, R2, R3, Rf0, Rf1, Rf2, Rf3⟩ := row4 hR2.out
        have hB2 := hide (Below.trans' hB1.out hb2)
        clear hb2
        go_wp2_with fail
        exact bodyPost_ret (v := fcV (0, 0, 0, 0, 3)) (by simp [results, Try.results38, go_sem, R0, R1, R2, R3, fcV]) rfl ⟨rfl, below4 _ _ _ _ hB2.out (by omega)⟩
end Go.Proofs.Ytdimmlpnfghndaa
