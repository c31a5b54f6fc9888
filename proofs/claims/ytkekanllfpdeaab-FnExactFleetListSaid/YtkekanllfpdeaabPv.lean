/-
  The model's placements.
-/
import Derived.Test.YtkekanllfpdeaabPu
namespace Go.Proofs.Ytkekanllfpdeaab
open Go.RowKit
set_option linter.unusedVariables false

theorem scanAt_le (x : Int) (zs : List Int) : ∀ k, scanAt x zs k ≤ k
  | 0 => Nat.le_refl _
  | k + 1 => by
    unfold scanAt
    split
    · exact Nat.le_succ_of_le (scanAt_le x zs k)
    · exact Nat.le_refl _
theorem putS_len (x : Int) (zs : List Int) : (putS x zs).length ≤ zs.length + 1 := by
  unfold putS
  split
  · omega
  · have := scanAt_le x zs zs.length
    simp; omega
theorem put2_len (W H : Int) (n : Nat) (out : List Int) (y x : Int) : (put2 W H n out y x).length ≤ out.length + 2 := by
  unfold put2
  dsimp only
  have h1 : (if x + n ≤ W then putS (rowV W y x n) out else out).length ≤ out.length + 1 := by
    split
    · exact putS_len _ _
    · omega
  split
  · have b := putS_len (colV W y x n) (if x + n ≤ W then putS (rowV W y x n) out else out)
    omega
  · omega
theorem plRow_len (W H : Int) (n : Nat) (y : Int) (out : List Int) : ∀ x, (plRow W H n y x out).length ≤ out.length + 2 * x
  | 0 => Nat.le_refl _
  | x + 1 => by
    have a := plRow_len W H n y out x
    have b := put2_len W H n (plRow W H n y x out) y x
    show (put2 W H n (plRow W H n y x out) y x).length ≤ _
    omega
theorem plAll_len {W H : Int} (h0 : 1 ≤ W) (h1 : W ≤ 5) (n : Nat) : ∀ y, (plAll W H n y).length ≤ 10 * y
  | 0 => Nat.le_refl _
  | y + 1 => by
    have a := plAll_len (H := H) h0 h1 n y
    have b := plRow_len W H n y (plAll W H n y) W.toNat
    show (plRow W H n y W.toNat (plAll W H n y)).length ≤ _
    omega
theorem rowV_range {W : Int} {y x : Nat} (w0 : 1 ≤ W) (w1 : W ≤ 5) (hy : y < 5) (hx : x < 5) : ∀ i : Nat, i ≤ 5 → 0 ≤ rowV W y x i ∧ rowV W y x i < 4611686018427387904
  | 0, _ => ⟨Int.le_refl _, by unfold rowV; decide⟩
  | i + 1, hi => by
    have a := rowV_range w0 w1 hy hx i (by omega)
    have hp : 0 ≤ (y : Int) * W ∧ (y : Int) * W ≤ 20 := by
      have : W = 1 ∨ W = 2 ∨ W = 3 ∨ W = 4 ∨ W = 5 := by omega
      rcases this with h | h | h | h | h <;> subst h <;> omega
    exact withE_62 a.1 a.2 (by omega)
theorem colV_range {W : Int} {y x : Nat} (w0 : 1 ≤ W) (w1 : W ≤ 5) (hy : y < 5) (hx : x < 5) : ∀ i : Nat, i ≤ 5 → 0 ≤ colV W y x i ∧ colV W y x i < 4611686018427387904
  | 0, _ => ⟨Int.le_refl _, by unfold colV; decide⟩
  | i + 1, hi => by
    have a := colV_range w0 w1 hy hx i (by omega)
    have hp : 0 ≤ ((y : Int) + i) * W ∧ ((y : Int) + i) * W ≤ 45 := by
      have : W = 1 ∨ W = 2 ∨ W = 3 ∨ W = 4 ∨ W = 5 := by omega
      rcases this with h | h | h | h | h <;> subst h <;> omega
    exact withE_62 a.1 a.2 (by omega)

set_option maxRecDepth 100000 in
set_option maxHeartbeats 8000000 in
theorem l09Placements_any (wd hi : Int) (n : Nat) (a : Option Addr) (k c : Nat) (W : World) (w0 : 1 ≤ wd) (w1 : wd ≤ 5) (h0 : 1 ≤ hi) (h1 : hi ≤ 5) (n1 : n ≤ 5) :
    Calls Try.prog 58 #[.agg #[.int .i64 wd, .int .i64 hi, .slice a k c], .int .i64 n] W (PutPost W.heap.size W (plc wd hi n)) := by
  obtain ⟨W0, hW0⟩ : ∃ W0, W0 = W.alloc (.cells #[.int .i64 wd, .int .i64 hi, .slice a k c] 29) := ⟨_, rfl⟩
  have hB0 : Hid (Below W.heap.size W W0) := by rw [hW0]; exact hide (below_alloc _ _)
  have hs0 : Hid (W0.heap.size = W.heap.size + 1) := by rw [hW0]; exact hide (by simp)
  have hX0 : Hid (SeaIn W0 W.heap.size wd hi a k c) := by rw [hW0]; exact hide (seaIn_new _ _ _ _ _ _ _)
  obtain ⟨W1, hW1⟩ : ∃ W1, W1 = W0.alloc (.cells #[] 2) := ⟨_, rfl⟩
  have hO1 : Hid (Owns W0.heap.size W0 W1 (.slice (some ⟨W0.heap.size, 0, none⟩) 0 0) []) := by rw [hW1]; exact hide ⟨⟨rfl, .inr ⟨W0.heap.size, 0, #[], rfl, Nat.le_refl _, heap_alloc_new W0 _, Nat.le_refl _, by unfold maxLen; omega, rfl, rfl⟩⟩, below_alloc _ _, by simp⟩
  obtain ⟨q0, q1, q2⟩ := hX0.out.keep (show Below W0.heap.size W0 W1 by rw [hW1]; exact below_alloc _ _)
  obtain ⟨N, hN⟩ : ∃ N, N = W.heap.size := ⟨_, rfl⟩
  have hW1' : W1 = (W.alloc (.cells #[.int .i64 wd, .int .i64 hi, .slice a k c] 29)).alloc (.cells #[] 2) := by rw [hW1, hW0]
  have hs0' := hs0.out
  go_enter Try.func58, Try.ntmps58
  go_wp2_with fail
  rw [← hW1', ← hs0']
  clear hW0 hW1 hW1' hs0' hN q0 q1 q2
  go_loopw [5, 6] (fun v vy wr => ∃ (y g cc : Nat), vy = .int .i64 y ∧ (y : Int) ≤ hi ∧ v = .slice (some ⟨g, 0, none⟩) (plAll wd hi n y).length cc ∧ Hid (Owns W0.heap.size W0 wr (.slice (some ⟨g, 0, none⟩) (plAll wd hi n y).length cc) (plAll wd hi n y))) (fun _ vy _ => (hi - intOf vy).toNat)
  case atStart => exact ⟨0, _, 0, rfl, by omega, rfl, hO1⟩
  case round =>
    clear hO1
    obtain ⟨y, g, cc, rfl, hy, rfl, hO⟩ := hrel
    obtain ⟨wo, hwo⟩ : ∃ wo : World, wo = wr := ⟨_, rfl⟩
    subst hwo
    obtain ⟨c0, c1, c2⟩ := hX0.out.below hO.out.old (by have := hs0.out; omega)
    by_cases hlt : (y : Int) < hi
    · have hy5 : y < 5 := by omega
      have HAL := hide (plAll_len (H := hi) w0 w1 n y)
      obtain ⟨os, hos⟩ : ∃ os, os = plAll wd hi n y := ⟨_, rfl⟩
      have hnxt : Hid (plAll wd hi n (y + 1) = plRow wd hi n y wd.toNat os) := hide (by rw [hos]; rfl)
      rw [← hos] at hO HAL
      clear c0 c2
      rw [← hos]
      clear hos
      go_wp2_with fail
      clear c1
      go_loopw [5, 7] (fun v vx wr => ∃ (x g cc : Nat), vx = .int .i64 x ∧ (x : Int) ≤ wd ∧ v = .slice (some ⟨g, 0, none⟩) (plRow wd hi n y x os).length cc ∧ Hid (Owns W0.heap.size W0 wr (.slice (some ⟨g, 0, none⟩) (plRow wd hi n y x os).length cc) (plRow wd hi n y x os))) (fun _ vx _ => (wd - intOf vx).toNat)
      case atStart => exact ⟨0, g, cc, rfl, by omega, rfl, hO⟩
      case round =>
        clear hO
        obtain ⟨x, g, cc, rfl, hx, rfl, hO⟩ := hrel
        obtain ⟨c0, c1, c2⟩ := hX0.out.below hO.out.old (by have := hs0.out; omega)
        by_cases hlx : (x : Int) < wd
        · have hx5 : x < 5 := by omega
          have HRL := hide (plRow_len wd hi n y os x)
          obtain ⟨ps, hps⟩ : ∃ ps, ps = plRow wd hi n y x os := ⟨_, rfl⟩
          have hnx2 : Hid (plRow wd hi n y (x + 1) os = put2 wd hi n ps y x) := hide (by rw [hps]; rfl)
          rw [← hps] at hO HRL ⊢
          clear hps c2
          have HP : Hid (0 ≤ (y : Int) * wd ∧ (y : Int) * wd ≤ 20 ∧ ∀ i : Nat, i < n → 0 ≤ ((y : Int) + i) * wd ∧ ((y : Int) + i) * wd ≤ 45) := hide (by
            have : wd = 1 ∨ wd = 2 ∨ wd = 3 ∨ wd = 4 ∨ wd = 5 := by omega
            refine ⟨?_, ?_, fun i hi => ?_⟩ <;> rcases this with h | h | h | h | h <;> subst h <;> omega)
          go_wp2_with fail
          go_loop [8, 9, 10] (fun vr vc vi => ∃ i : Nat, i ≤ n ∧ vi = .int .i64 i ∧ vr = .int .i64 (rowV wd y x i) ∧ vc = .int .i64 (colV wd y x i)) (fun _ _ vi => n - (intOf vi).toNat)
          case atStart => exact ⟨0, Nat.zero_le _, rfl, rfl, rfl⟩
          case round =>
            obtain ⟨i, hin, rfl, rfl, rfl⟩ := hrel
            by_cases hli : i < n
            · obtain ⟨r0, r1⟩ := rowV_range w0 w1 hy5 hx5 i (by omega)
              obtain ⟨e0, e1⟩ := colV_range w0 w1 hy5 hx5 i (by omega)
              obtain ⟨p0, p1, p2⟩ := HP.out
              obtain ⟨p3, p4⟩ := p2 i hli
              have hrs : Hid (rowV wd y x (i + 1) = withE (rowV wd y x i) ((y : Int) * wd + x + i)) := hide rfl
              have hcs : Hid (colV wd y x (i + 1) = withE (colV wd y x i) (((y : Int) + i) * wd + x)) := hide rfl
              obtain ⟨k1, hk1⟩ : ∃ k1, k1 = (y : Int) * wd + x + i := ⟨_, rfl⟩
              obtain ⟨k2, hk2⟩ : ∃ k2, k2 = ((y : Int) + i) * wd + x := ⟨_, rfl⟩
              obtain ⟨R, hR⟩ : ∃ R, R = rowV wd y x i := ⟨_, rfl⟩
              obtain ⟨C, hC⟩ : ∃ C, C = colV wd y x i := ⟨_, rfl⟩
              rw [← hk1, ← hR] at hrs
              rw [← hk2, ← hC] at hcs
              rw [← hR] at r0 r1 ⊢
              rw [← hC] at e0 e1 ⊢
              obtain ⟨P1, hP1⟩ : ∃ P1, P1 = (y : Int) * wd := ⟨_, rfl⟩
              obtain ⟨P2, hP2⟩ : ∃ P2, P2 = P1 + x := ⟨_, rfl⟩
              obtain ⟨S1, hS1⟩ : ∃ S1, S1 = (y : Int) + i := ⟨_, rfl⟩
              obtain ⟨P3, hP3⟩ : ∃ P3, P3 = S1 * wd := ⟨_, rfl⟩
              rw [← hP1] at p0 p1 hk1
              rw [← hS1, ← hP3] at p3 p4 hk2
              rw [← hP2] at hk1
              have f1 : wrap64 ((y : Int) * wd) = P1 := by rw [← hP1]; unfold wrap64; omega
              have f2 : wrap64 (P1 + x) = P2 := by rw [hP2]; unfold wrap64; omega
              have f3 : wrap64 (P2 + i) = k1 := by rw [hk1]; unfold wrap64; omega
              have f4 : min k2.toNat 64 = k2.toNat := by omega
              have f5 : wrap64 (((y : Int) + i) * wd) = P3 := by rw [← hS1, ← hP3]; unfold wrap64; omega
              have f13 : min k1.toNat 64 = k1.toNat := by omega
              have f6 : wrap64 (P3 + x) = k2 := by rw [hk2]; unfold wrap64; omega
              have kr1 : 0 ≤ k1 ∧ k1 ≤ 30 := by omega
              have hk1n : ¬ (k1 < 0) := by omega
              have hk2n : ¬ (k2 < 0) := by omega
              have kr2 : 0 ≤ k2 ∧ k2 ≤ 50 := by omega
              have f7 := u64_small (k := k1) kr1.1 (by omega)
              have f8 := u64_small (k := k2) kr2.1 (by omega)
              have f9 := shl_walkX (k := k1) (by omega)
              have f10 := shl_walkX (k := k2) (by omega)
              have f11 := or_walkX (E := R) (k := k1) r0 r1 (by omega)
              have f12 := or_walkX (E := C) (k := k2) e0 e1 (by omega)
              obtain ⟨R', hR'⟩ : ∃ R', R' = withE R k1 := ⟨_, rfl⟩
              obtain ⟨C', hC'⟩ : ∃ C', C' = withE C k2 := ⟨_, rfl⟩
              rw [← hR'] at f11 hrs
              rw [← hC'] at f12 hcs
              have hiw : wrap64 ((i : Int) + 1) = ((i + 1 : Nat) : Int) := by unfold wrap64; omega
              clear hk1 hk2 hR hC hR' hC' p0 p1 p2 p3 p4 r0 r1 e0 e1 kr1 kr2 hP1 hP2 hS1 hP3
              have HF := hide (And.intro f4 (And.intro f5 (And.intro f6 (And.intro f8 (And.intro f10 (And.intro f12 hk2n))))))
              clear f4 f5 f6 f8 f10 f12 hk2n
              go_upto_region 13 with fail
              obtain ⟨f4, f5, f6, f8, f10, f12, hk2n⟩ := HF.out
              clear f1 f2 f3 f7 f9 f11 f13 hk1n
              go_wp2_with fail
              go_round
              case rel => exact ⟨i + 1, by omega, by go_num, by rw [hrs.out], by rw [hcs.out]⟩
              case measure => simp [intOf]; omega
            · obtain rfl : i = n := by omega
              have HAL2 : Hid (ps.length ≤ 90) := hide (by have := HRL.out; have := HAL.out; omega)
              obtain ⟨R, hR⟩ : ∃ R, R = rowV wd y x i := ⟨_, rfl⟩
              obtain ⟨C, hC⟩ : ∃ C, C = colV wd y x i := ⟨_, rfl⟩
              rw [← hR, ← hC]
              have hp2 : Hid (put2 wd hi i ps y x = (if (y : Int) + i ≤ hi then putS C (if (x : Int) + i ≤ wd then putS R ps else ps) else (if (x : Int) + i ≤ wd then putS R ps else ps))) := hide (by rw [hR, hC]; rfl)
              have f1 : wrap64 ((x : Int) + i) = (x : Int) + i := by unfold wrap64; omega
              have f2 : wrap64 ((y : Int) + i) = (y : Int) + i := by unfold wrap64; omega
              have f3 : wrap64 ((x : Int) + 1) = ((x + 1 : Nat) : Int) := by unfold wrap64; omega
              clear hR hC
              by_cases hr : (x : Int) + i ≤ wd
              · have HP1 := hide (l01Put_any W0.heap.size g cc ps R W0 wr hO.out (by have := HAL2.out; omega))
                have hqs : Hid ((putS R ps).length ≤ 100) := hide (by have := putS_len R ps; have := HAL2.out; omega)
                by_cases hc : (y : Int) + i ≤ hi
                · have hfin : Hid (plRow wd hi i y (x + 1) os = putS C (putS R ps)) := hide (by rw [hnx2.out, hp2.out, if_pos hc, if_pos hr])
                  go_wp2_with fail
                  refine HP1.out.mono ?_
                  rintro e w2 ⟨g2, c2', rfl, ho2, hb2, hz2⟩
                  obtain ⟨qs, hq⟩ : ∃ qs, qs = putS R ps := ⟨_, rfl⟩
                  rw [← hq] at ho2 hqs hfin ⊢
                  have HP2 := hide (l01Put_any W0.heap.size g2 c2' qs C W0 w2 ⟨ho2, hb2, hz2⟩ hqs.out)
                  obtain ⟨c0, c1, c2⟩ := hX0.out.below hb2 (by have := hs0.out; omega)
                  clear hq ho2 hb2 hz2 c2
                  go_wp2_with fail
                  refine HP2.out.mono ?_
                  rintro e w3 ⟨g3, c3', rfl, ho3, hb3, hz3⟩
                  have HO3 : Hid (Owns W0.heap.size W0 w3 (.slice (some ⟨g3, 0, none⟩) (putS C qs).length c3') (putS C qs)) := hide ⟨ho3, hb3, hz3⟩
                  clear ho3 hb3 hz3 c0 c1
                  go_wp2_with fail
                  go_roundw
                  case rel => exact ⟨x + 1, g3, c3', by go_num, by omega, by rw [hfin.out], by rw [hfin.out]; exact HO3⟩
                  case measure => simp [intOf]; omega
                · have hfin : Hid (plRow wd hi i y (x + 1) os = putS R ps) := hide (by rw [hnx2.out, hp2.out, if_neg hc, if_pos hr])
                  go_wp2_with fail
                  refine HP1.out.mono ?_
                  rintro e w2 ⟨g2, c2', rfl, ho2, hb2, hz2⟩
                  have HO3 : Hid (Owns W0.heap.size W0 w2 (.slice (some ⟨g2, 0, none⟩) (putS R ps).length c2') (putS R ps)) := hide ⟨ho2, hb2, hz2⟩
                  obtain ⟨c0, c1, c2⟩ := hX0.out.below hb2 (by have := hs0.out; omega)
                  clear ho2 hb2 hz2 c2
                  go_wp2_with fail
                  go_roundw
                  case rel => exact ⟨x + 1, g2, c2', by go_num, by omega, by rw [hfin.out], by rw [hfin.out]; exact HO3⟩
                  case measure => simp [intOf]; omega
              · by_cases hc : (y : Int) + i ≤ hi
                · have HP2 := hide (l01Put_any W0.heap.size g cc ps C W0 wr hO.out (by have := HAL2.out; omega))
                  have hfin : Hid (plRow wd hi i y (x + 1) os = putS C ps) := hide (by rw [hnx2.out, hp2.out, if_pos hc, if_neg hr])
                  go_wp2_with fail
                  refine HP2.out.mono ?_
                  rintro e w3 ⟨g3, c3', rfl, ho3, hb3, hz3⟩
                  have HO3 : Hid (Owns W0.heap.size W0 w3 (.slice (some ⟨g3, 0, none⟩) (putS C ps).length c3') (putS C ps)) := hide ⟨ho3, hb3, hz3⟩
                  clear ho3 hb3 hz3 c0 c1
                  go_wp2_with fail
                  go_roundw
                  case rel => exact ⟨x + 1, g3, c3', by go_num, by omega, by rw [hfin.out], by rw [hfin.out]; exact HO3⟩
                  case measure => simp [intOf]; omega
                · have hfin : Hid (plRow wd hi i y (x + 1) os = ps) := hide (by rw [hnx2.out, hp2.out, if_neg hc, if_neg hr])
                  go_wp2_with fail
                  go_roundw
                  case rel => exact ⟨x + 1, g, cc, by go_num, by omega, by rw [hfin.out], by rw [hfin.out]; exact hO⟩
                  case measure => simp [intOf]; omega
        · have hxe : x = wd.toNat := by omega
          have hfin : Hid (plAll wd hi n (y + 1) = plRow wd hi n y x os) := hide (by rw [hnxt.out, hxe])
          clear hxe
          go_wp2_with fail
          go_roundw
          case rel => exact ⟨y + 1, g, cc, by go_num, by omega, by rw [hfin.out], by rw [hfin.out]; exact hO⟩
          case measure => simp [intOf]; omega
    · have hye : y = hi.toNat := by omega
      have hfin : Hid (plc wd hi n = plAll wd hi n y) := hide (by rw [hye]; rfl)
      clear hye
      go_wp2_with fail
      go_ret
      rw [hfin.out]
      exact ⟨g, cc, rfl, ownsRow_base hO.out.own (by have := hs0.out; omega), Below.trans' hB0.out (hO.out.old), by have := hO.out.size; have := hs0.out; omega⟩
end Go.Proofs.Ytkekanllfpdeaab
