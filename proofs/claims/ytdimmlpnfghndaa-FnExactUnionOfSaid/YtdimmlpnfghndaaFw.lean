/-
  Col and snort: unions, the model's text.
-/
import Derived.Test.YtdimmlpnfghndaaFj
import Derived.Test.YtdimmlpnfghndaaFu
namespace Go.Proofs.Ytdimmlpnfghndaa
open Go.RowKit
set_option linter.unusedVariables false

theorem row_set {w : World} {b k : Nat} {cs : Array Value} {t : TypeId} (y : Value) (h : w.heap[b]? = some (.cells cs t (0, 0))) : (w.setCell ⟨b, k, none⟩ y).heap[b]? = some (.cells (cs.setIfInBounds k y) t (0, 0)) := heap_setCell_same _ b k _ t y h
theorem fieldIn_set {w : World} {b b' k : Nat} {n L R B : Int} (h : FieldIn w b n L R B) (hb : b ≠ b') (y : Value) : FieldIn (w.setCell ⟨b', k, none⟩ y) b n L R B :=
  ⟨(World.cell?_of_block (Below.heap_setCell w _ _ _ hb)).trans h.1, (World.cell?_of_block (Below.heap_setCell w _ _ _ hb)).trans h.2.1, (World.cell?_of_block (Below.heap_setCell w _ _ _ hb)).trans h.2.2.1, (World.cell?_of_block (Below.heap_setCell w _ _ _ hb)).trans h.2.2.2⟩
/-- What the walk of a shift wants. -/
theorem shl_num {R n : Int} (h0 : 0 ≤ R) (h1 : R < 256) (k0 : 0 ≤ n) (k1 : n ≤ 8) : ∃ y : Int, y = R * 2 ^ n.toNat ∧ 0 ≤ y ∧ y < 65536 ∧ wrap64 (R * 2 ^ n.toNat) = y ∧ IntKind.i64.wrap (R * 2 ^ n.toNat) = y := by
  obtain ⟨a, b⟩ := shl_small h0 h1 k0 k1
  refine ⟨_, rfl, a, b, ?_, wraps_i64 _ a (by omega)⟩
  unfold wrap64
  omega

set_option maxRecDepth 100000 in
set_option maxHeartbeats 4000000 in
theorem specUnion_any (n L R B n' L' R' B' : Int) (hok : okF n L R B = true) (hok' : okF n' L' R' B' = true) (h8 : n + n' ≤ 8) (W : World) :
    Calls Try.prog 73 #[.agg #[.int .i64 n, .int .i64 L, .int .i64 R, .int .i64 B], .agg #[.int .i64 n', .int .i64 L', .int .i64 R', .int .i64 B']] W (RetB (.agg #[.int .i64 (n + n'), .int .i64 (uJ n L' n'.toNat L), .int .i64 (orI R (R' * 2 ^ n.toNat)), .int .i64 (orI B (B' * 2 ^ n.toNat))]) W) := by
  obtain ⟨k0, k1, k2, k3, k4, k5, k6, k7⟩ := okF_nums hok
  obtain ⟨g0, g1, g2, g3, g4, g5, g6, g7⟩ := okF_nums hok'
  obtain ⟨y, hy, y0, y1, sy, sy'⟩ := shl_num g4 g5 (n := n) (by omega) k1
  obtain ⟨z, hz, z0, z1, sz, sz'⟩ := shl_num g6 g7 (n := n) (by omega) k1
  have oy := or_walkI (x := R) (y := y) k4 (by omega) y0 (by omega)
  have oz := or_walkI (x := B) (y := z) k6 (by omega) z0 (by omega)
  rw [← hy, ← hz]
  obtain ⟨r, hr⟩ : ∃ r, r = orI R y := ⟨_, rfl⟩
  obtain ⟨b, hb⟩ : ∃ b, b = orI B z := ⟨_, rfl⟩
  rw [← hr] at oy ⊢
  rw [← hb] at oz ⊢
  have hu := u64_small (k := n) (by omega) (by omega)
  obtain ⟨N, hN⟩ : ∃ N : Nat, n' = N := ⟨n'.toNat, by omega⟩
  subst hN
  rw [Int.toNat_natCast]
  obtain ⟨W0, hW0⟩ : ∃ W0, W0 = (((W.alloc (.cells #[.int .i64 n, .int .i64 L, .int .i64 R, .int .i64 B] 25)).alloc (.cells #[.int .i64 N, .int .i64 L', .int .i64 R', .int .i64 B'] 25)).alloc (.cells #[.int .i64 0, .int .i64 0, .int .i64 0, .int .i64 0] 25)).alloc (.cells #[.int .i64 (n + N), .int .i64 L, .int .i64 r, .int .i64 b] 25) := ⟨_, rfl⟩
  have HB0 : Hid (Below W.heap.size W W0) := by rw [hW0]; exact hide ((((below_alloc _ _).alloc (by simp) _).alloc (by simp; omega) _).alloc (by simp; omega) _)
  have HX0 : Hid (FieldIn W0 W.heap.size n L R B) := by rw [hW0]; exact hide (fieldIn_of_row (row_alloc (row_alloc (row_alloc (alloc_row _ _ _) _) _) _))
  have HY0 : Hid (FieldIn W0 (W.heap.size + 1) N L' R' B') := by rw [hW0]; exact hide (fieldIn_of_row (row_alloc (row_alloc (alloc_row2 _ _ _ _) _) _))
  have HR0 : Hid (W0.heap[W.heap.size + 1 + 1]? = some (.cells #[.int .i64 0, .int .i64 0, .int .i64 0, .int .i64 0] 25 (0, 0))) := by rw [hW0]; exact hide (row_alloc (alloc_row3 _ _ _ _ _) _)
  have HU0 : Hid (W0.heap[W.heap.size + 1 + 1 + 1]? = some (.cells #[.int .i64 (n + N), .int .i64 (uJ n L' 1 L), .int .i64 r, .int .i64 b] 25 (0, 0))) := by
    rw [hW0]
    have := alloc_row (((W.alloc (.cells #[.int .i64 n, .int .i64 L, .int .i64 R, .int .i64 B] 25)).alloc (.cells #[.int .i64 N, .int .i64 L', .int .i64 R', .int .i64 B'] 25)).alloc (.cells #[.int .i64 0, .int .i64 0, .int .i64 0, .int .i64 0] 25)) #[.int .i64 (n + N), .int .i64 L, .int .i64 r, .int .i64 b] 25
    exact hide (by simpa [uJ, uI] using this)
  clear hok hok' hy hz hr hb
  go_enter Try.func73, Try.ntmps73
  go_wp2_with fail
  rw [← hW0]
  clear hW0 oy oz sy sy' sz sz' hu
  obtain ⟨Y0, Y1, Y2, Y3⟩ := HY0.out
  (try go_wp2_with fail)
  go_loopw [6] (fun j wr => ∃ k : Nat, 1 ≤ k ∧ k ≤ N ∧ j = .int .i64 k ∧ Hid (FieldIn wr W.heap.size n L R B) ∧ FieldIn wr (W.heap.size + 1) N L' R' B' ∧ Hid (wr.heap[W.heap.size + 1 + 1]? = some (.cells #[.int .i64 0, .int .i64 0, .int .i64 0, .int .i64 0] 25 (0, 0))) ∧ Hid (wr.heap[W.heap.size + 1 + 1 + 1]? = some (.cells #[.int .i64 (n + N), .int .i64 (uJ n L' k L), .int .i64 r, .int .i64 b] 25 (0, 0))) ∧ Hid (Below W.heap.size W wr)) (fun j _ => N - (intOf j).toNat)
  case atStart => exact ⟨1, by omega, by omega, rfl, HX0, HY0.out, HR0, HU0, HB0⟩
  case round =>
    clear HX0 HY0 HR0 HU0 HB0 Y0 Y1 Y2 Y3
    obtain ⟨k, hk1, hk, rfl, HX, hY, HR, HU, HB⟩ := hrel
    obtain ⟨wo, rfl⟩ : ∃ wo : World, wo = wr := ⟨_, rfl⟩
    have HY := hide hY
    obtain ⟨Y0, Y1, Y2, Y3⟩ := hY
    by_cases hlt : k < N
    · go_wp2_with fail
      go_loopw [7] (fun i wr => ∃ q : Nat, q ≤ k ∧ i = .int .i64 q ∧ Hid (FieldIn wr W.heap.size n L R B) ∧ FieldIn wr (W.heap.size + 1) N L' R' B' ∧ Hid (wr.heap[W.heap.size + 1 + 1]? = some (.cells #[.int .i64 0, .int .i64 0, .int .i64 0, .int .i64 0] 25 (0, 0))) ∧ Hid (wr.heap[W.heap.size + 1 + 1 + 1]? = some (.cells #[.int .i64 (n + N), .int .i64 (uI n L' k q (uJ n L' k L)), .int .i64 r, .int .i64 b] 25 (0, 0))) ∧ Hid (Below W.heap.size W wr)) (fun i _ => k - (intOf i).toNat)
      case atStart => exact ⟨0, by omega, rfl, HX, HY.out, HR, HU, HB⟩
      case round =>
        clear HX HY HR HU HB Y0 Y1 Y2 Y3
        obtain ⟨q, hq, rfl, HX, hY, HR, HU, HB⟩ := hrel
        have HY := hide hY
        obtain ⟨Y0, Y1, Y2, Y3⟩ := hY
        by_cases hql : q < k
        · cases hd : drawn L' (lp q k)
          · have HD := hide hd
            have HN : Hid (uI n L' k (q + 1) (uJ n L' k L) = uI n L' k q (uJ n L' k L)) := hide (by rw [uI, hd]; rfl)
            clear hd
            go_wp2_with fail
            refine (specJoined_lt N L' R' B' q k g2 g3 (by omega) (by omega) (by omega) _).mono ?_
            rw [HD.out]
            rintro e w1 ⟨rfl, hb1⟩
            have HX1 := hide (HX.out.keep hb1)
            have HY1 := hide (HY.out.keep hb1)
            have HR1 := hide (box_keep HR.out hb1)
            have HU1 := hide (box_keep HU.out hb1)
            have HB1 := hide (Below.trans' HB.out hb1)
            clear hb1 Y0 Y1 Y2 Y3
            go_wp2_with fail
            go_roundw
            case rel => exact ⟨q + 1, by omega, by go_num, HX1, HY1.out, HR1, by rw [HN.out]; exact HU1, HB1⟩
            case measure => simp [intOf]; omega
          · have HD := hide hd
            obtain ⟨M, hM⟩ : ∃ M, M = uI n L' k q (uJ n L' k L) := ⟨_, rfl⟩
            have hMr := uI_range (n := n) (M := L') (j := (k : Int)) (by omega) (by omega) q (uJ n L' k L) (by omega) (uJ_range (by omega) k L (by omega) ⟨k2, k3⟩)
            rw [← hM] at hMr
            obtain ⟨P, hP⟩ : ∃ P, P = lp (n + q) (n + k) := ⟨_, rfl⟩
            have hPr := lp_lt (i := n + q) (j := n + k) (by omega) (by omega) (by omega)
            rw [← hP] at hPr
            have HN : Hid (uI n L' k (q + 1) (uJ n L' k L) = withE M P) := hide (by rw [uI, hd, hM, hP]; rfl)
            obtain ⟨hh, hhe⟩ : ∃ hh, hh = (k : Int) + n := ⟨_, rfl⟩
            obtain ⟨m0, m1, m2, m3⟩ := lp_nums (j := hh) (by omega) (by omega)
            have hq1 : wrap64 ((hh * (hh - 1)).tdiv 2) = hh * (hh - 1) / 2 := by rw [Int.tdiv_eq_ediv_of_nonneg m0]; exact wrap64_small m2 (by omega)
            have hk2' : hh * (hh - 1) / 2 + q + n = P := by
              have e : n + (k : Int) = hh := by omega
              rw [hP, lp, e]; omega
            have hu := u64_small (k := P) hPr.1 (by omega)
            have hs := shl_walkL (k := P) (by omega)
            have hor := or_walkL (E := M) (k := P) hMr.1 hMr.2 (by omega)
            have HHE := hide hhe.symm
            have hh0 : 0 ≤ hh := by omega
            have hh8 : hh < 8 := by omega
            obtain ⟨P0, P1⟩ := hPr
            have HUM : Hid (wr.heap[W.heap.size + 1 + 1 + 1]? = some (.cells #[.int .i64 (n + N), .int .i64 M, .int .i64 r, .int .i64 b] 25 (0, 0))) := by rw [hM]; exact HU
            clear hd hM hP HU hMr
            have hhe' : (k : Int) + n = hh := hhe.symm
            clear hhe
            go_wp2_with fail
            refine (specJoined_lt N L' R' B' q k g2 g3 (by omega) (by omega) (by omega) _).mono ?_
            rw [HD.out]
            rintro e w1 ⟨rfl, hb1⟩
            have HX1 := hide (HX.out.keep hb1)
            have HY1 := hide (HY.out.keep hb1)
            have HR1 := hide (box_keep HR.out hb1)
            have HU1 := hide (box_keep HUM.out hb1)
            have HB1 := hide (Below.trans' HB.out hb1)
            clear hb1 Y0 Y1 Y2 Y3
            obtain ⟨X0, X1, X2, X3⟩ := HX1.out
            obtain ⟨U0, U1, U2, U3, Uf0, Uf1, Uf2, Uf3⟩ := row4 HU1.out
            go_wp2_with fail
            have HB2 : Hid (Below W.heap.size W (w1.setCell ⟨W.heap.size + 1 + 1 + 1, 1, none⟩ (.int .i64 (withE M P)))) := hide (HB1.out.setCell (p := ⟨W.heap.size + 1 + 1 + 1, 1, none⟩) (by simp; omega) _)
            have HX2 := hide (fieldIn_set (b' := W.heap.size + 1 + 1 + 1) (k := 1) HX1.out (by omega) (.int .i64 (withE M P)))
            have HY2 := hide (fieldIn_set (b' := W.heap.size + 1 + 1 + 1) (k := 1) HY1.out (by omega) (.int .i64 (withE M P)))
            have HR2 : Hid ((w1.setCell ⟨W.heap.size + 1 + 1 + 1, 1, none⟩ (.int .i64 (withE M P))).heap[W.heap.size + 1 + 1]? = some (.cells #[.int .i64 0, .int .i64 0, .int .i64 0, .int .i64 0] 25 (0, 0))) := hide ((Below.heap_setCell w1 _ _ _ (by simp)).trans HR1.out)
            have HU2 : Hid ((w1.setCell ⟨W.heap.size + 1 + 1 + 1, 1, none⟩ (.int .i64 (withE M P))).heap[W.heap.size + 1 + 1 + 1]? = some (.cells #[.int .i64 (n + N), .int .i64 (withE M P), .int .i64 r, .int .i64 b] 25 (0, 0))) := hide (row_set _ HU1.out)
            clear hor hs hu hk2' hq1 hhe' X0 X1 X2 X3 U0 U1 U2 U3 Uf0 Uf1 Uf2 Uf3
            go_roundw
            case rel => exact ⟨q + 1, by omega, by go_num, HX2, HY2.out, HR2, by rw [HN.out]; exact HU2, HB2⟩
            case measure => simp [intOf]; omega
        · obtain rfl : q = k := by omega
          go_wp2_with fail
          go_roundw
          case rel => exact ⟨q + 1, by omega, by omega, by go_num, HX, HY.out, HR, by rw [uJ]; exact HU, HB⟩
          case measure => simp [intOf]; omega
    · obtain rfl : k = N := by omega
      obtain ⟨U0, U1, U2, U3, Uf0, Uf1, Uf2, Uf3⟩ := row4 HU.out
      obtain ⟨R0, R1, R2, R3, Rf0, Rf1, Rf2, Rf3⟩ := row4 HR.out
      go_wp2_with fail
      exact bodyPost_ret (v := .agg #[.int .i64 (n + k), .int .i64 (uJ n L' k L), .int .i64 r, .int .i64 b]) (by simp [results, Try.results73, go_sem, R0, R1, R2, R3]) rfl ⟨rfl, below4 _ _ _ _ HB.out (by omega)⟩
end Go.Proofs.Ytdimmlpnfghndaa
