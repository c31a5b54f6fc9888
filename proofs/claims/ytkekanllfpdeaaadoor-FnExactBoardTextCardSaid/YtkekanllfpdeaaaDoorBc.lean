/-
  How many nodes a set has: OnesCount64, countNodes, l07Ones; the nodes of a set: nodesOf, l07Nodes.
-/
import Derived.Test.YtkekanllfpdeaaaDoorTz
import Derived.Test.YtkekanllfpdeaaaDoorOc
namespace Go.Proofs.YtkekanllfpdeaaaDoor
open Go.RowKit
set_option linter.unusedVariables false


set_option maxHeartbeats 1000000 in
theorem onesCount64_any (a : Nat) (h : a < 65536) (W : World) : Calls Tryd.prog 172 #[.int .u64 (a : Int)] W (RetB (.int .i64 (popL 16 a : Nat)) W) := by
  obtain ⟨h0, h1, h2, h3, h4⟩ := oc_all h
  obtain ⟨y1, hy1⟩ : ∃ y, y = oc1 a := ⟨_, rfl⟩
  rw [← hy1] at h1 h2 h3 h4
  obtain ⟨y2, hy2⟩ : ∃ y, y = oc2 y1 := ⟨_, rfl⟩
  rw [← hy2] at h2 h3 h4
  obtain ⟨y3, hy3⟩ : ∃ y, y = oc3 y2 := ⟨_, rfl⟩
  rw [← hy3] at h3 h4
  obtain ⟨y4, hy4⟩ : ∃ y, y = oc4 y3 := ⟨_, rfl⟩
  rw [← hy4] at h4
  obtain ⟨r, hr⟩ : ∃ r, r = popL 16 a := ⟨_, rfl⟩
  have h5 : y4 &&& 127 = r := by
    rw [hr, ← h0]
    show _ = oc4 (oc3 (oc2 (oc1 a))) &&& 127
    rw [← hy1, ← hy2, ← hy3, ← hy4]
  have f1 : IntKind.u64.wrap (bits BinOp.and IntKind.u64 ((a : Int) / 2) 6148914691236517205 + bits BinOp.and IntKind.u64 (a : Int) 6148914691236517205) = (y1 : Int) := by
    have e1 := and_u64 (a / 2) 6148914691236517205 (by omega) (by omega)
    have e2 := and_u64 a 6148914691236517205 (by omega) (by omega)
    rw [show ((a / 2 : Nat) : Int) = (a : Int) / 2 by omega] at e1
    rw [show ((6148914691236517205 : Nat) : Int) = 6148914691236517205 by rfl] at e1 e2
    rw [e1, e2, hy1, ← Int.natCast_add]
    exact wraps_u64 _ (by omega) (by have : oc1 a = (a / 2 &&& 6148914691236517205) + (a &&& 6148914691236517205) := rfl; omega)
  have f2 : IntKind.u64.wrap (bits BinOp.and IntKind.u64 ((y1 : Int) / 4) 3689348814741910323 + bits BinOp.and IntKind.u64 (y1 : Int) 3689348814741910323) = (y2 : Int) := by
    have e1 := and_u64 (y1 / 4) 3689348814741910323 (by omega) (by omega)
    have e2 := and_u64 y1 3689348814741910323 (by omega) (by omega)
    rw [show ((y1 / 4 : Nat) : Int) = (y1 : Int) / 4 by omega] at e1
    rw [show ((3689348814741910323 : Nat) : Int) = 3689348814741910323 by rfl] at e1 e2
    rw [e1, e2, hy2, ← Int.natCast_add]
    exact wraps_u64 _ (by omega) (by have : oc2 y1 = (y1 / 4 &&& 3689348814741910323) + (y1 &&& 3689348814741910323) := rfl; omega)
  have f3 : bits BinOp.and IntKind.u64 ((y2 : Int) / 16 + (y2 : Int)) 1085102592571150095 = (y3 : Int) := by
    rw [show (y2 : Int) / 16 + (y2 : Int) = ((y2 / 16 + y2 : Nat) : Int) by omega]
    have e1 := and_u64 (y2 / 16 + y2) 1085102592571150095 (by omega) (by omega)
    rw [show ((1085102592571150095 : Nat) : Int) = 1085102592571150095 by rfl] at e1
    rw [e1, hy3]
    rfl
  have f4 : IntKind.u64.wrap ((y3 : Int) + (y3 : Int) / 256) = (y4 : Int) := by
    have : y4 = y3 + y3 / 256 := hy4
    rw [wraps_u64 _ (by omega) (by omega)]
    omega
  have f5 : IntKind.u64.wrap ((y4 : Int) + (y4 : Int) / 65536) = (y4 : Int) := by
    rw [wraps_u64 _ (by omega) (by omega)]
    omega
  have f6 : IntKind.u64.wrap ((y4 : Int) + (y4 : Int) / 4294967296) = (y4 : Int) := by
    rw [wraps_u64 _ (by omega) (by omega)]
    omega
  have f7 : bits BinOp.and IntKind.i64 (y4 : Int) 127 = (r : Int) := by
    have e := (bits_nat .i64 63 (by decide) wraps_i64 y4 127 (by omega) (by omega)).1
    rw [h5] at e
    exact e
  have f8 : IntKind.i64.wrap (y4 : Int) = (y4 : Int) := wraps_i64 _ (by omega) (by omega)
  rw [← hr]
  clear hy1 hy2 hy3 hy4 hr h0 h5
  go_enter Tryd.func172, Tryd.ntmps172
  go_wp2
  go_ret
  exact ⟨rfl, Below.refl _ _⟩

set_option maxHeartbeats 400000 in
theorem countNodes_any (x : Int) (h0 : 0 ≤ x) (h1 : x < 65536) (W : World) : Calls Tryd.prog 128 #[.int .i64 x] W (RetB (.int .i64 (ones x)) W) := by
  obtain ⟨a, rfl⟩ := Int.eq_ofNat_of_zero_le h0
  have hr := ones_range a
  obtain ⟨r, hr'⟩ : ∃ r, r = ones (a : Int) := ⟨_, rfl⟩
  have hu : IntKind.u64.wrap (a : Int) = (a : Int) := wraps_u64 _ (by omega) (by omega)
  have HC : Hid (∀ V : World, Calls Tryd.prog 172 #[.int .u64 (a : Int)] V (RetB (.int .i64 r) V)) := hide (fun V => by rw [hr', ones_nat]; exact onesCount64_any a (by omega) V)
  rw [← hr'] at hr ⊢
  clear hr'
  go_enter Tryd.func128, Tryd.ntmps128
  go_wp2_with fail
  refine (HC.out _).mono ?_
  rintro e w1 ⟨rfl, hb1⟩
  have hB1 := hide hb1
  clear hb1
  go_wp2_with fail
  go_ret
  exact ⟨rfl, hB1.out⟩

set_option maxHeartbeats 400000 in
theorem l07Ones_any (x : Int) (h0 : 0 ≤ x) (h1 : x < 65536) (W : World) : Calls Tryd.prog 120 #[.int .i64 x] W (RetB (.int .i64 (ones x)) W) := by
  obtain ⟨r, hr⟩ : ∃ r, r = ones x := ⟨_, rfl⟩
  have hrr := ones_range x
  have HR := hide hr
  rw [← hr] at hrr ⊢
  clear hr
  go_enter Tryd.func120, Tryd.ntmps120
  go_wp2
  go_loop [0, 3] (fun s k => ∃ y c : Int, s = .int .i64 y ∧ k = .int .i64 c ∧ 0 ≤ y ∧ y < 65536 ∧ 0 ≤ c ∧ Hid (c + ones y = r)) (fun s _ => (intOf s).toNat)
  case atStart => exact ⟨x, 0, rfl, rfl, h0, h1, by omega, hide (by rw [HR.out]; omega)⟩
  case round =>
    clear h0 h1
    obtain ⟨y, c, rfl, rfl, y0, y1, c0, hc⟩ := hrel
    have hyr := ones_range y
    have hc16 : c ≤ 16 := by have := hc.out; omega
    by_cases hy : 0 < y
    · obtain ⟨l1, l2, l3⟩ := ones_low hy y1
      have hbw := and_walkI (x := y) (y := y - 1) y0 (by omega) (by omega) (by omega)
      obtain ⟨d, hd⟩ : ∃ d, d = andI y (y - 1) := ⟨_, rfl⟩
      rw [← hd] at l1 l2 l3 hbw
      have hn : Hid (c + 1 + ones d = r) := hide (by have := hc.out; omega)
      clear hd l1 hyr
      go_wp2
      go_round
      case rel => exact ⟨d, c + 1, rfl, by go_num, l2, by omega, by omega, hn⟩
      case measure => simp [intOf]; omega
    · obtain rfl : y = 0 := by omega
      have hE : Hid (c = r) := hide (by have := hc.out; rw [show ones 0 = 0 from onesK_zero 16] at this; omega)
      clear hyr
      go_wp2
      go_ret
      exact ⟨by rw [hE.out]; rfl, Below.refl _ _⟩

/-! ### the nodes of a set -/
theorem Owns.made {B : Nat} {W0 w : World} (h : Below B W0 w) (hs : B ≤ w.heap.size) : Owns B W0 (w.alloc (.cells #[] 2)) (.slice (some ⟨w.heap.size, 0, none⟩) 0 0) [] := by
  refine ⟨⟨rfl, .inr ⟨w.heap.size, 0, #[], rfl, hs, heap_alloc_new w _, Nat.le_refl _, by unfold maxLen; omega, rfl, rfl⟩⟩, h.alloc hs _, by simp; omega⟩

set_option maxRecDepth 100000 in
set_option maxHeartbeats 1000000 in
theorem l07Nodes_any (x : Int) (h0 : 0 ≤ x) (h1 : x < 65536) (W : World) : Calls Tryd.prog 112 #[.int .i64 x] W (NewL (nodesL x) W) := by
  obtain ⟨i0, hi0, hz0, hz1, hz2⟩ := info_parts Tryd.info2
  obtain ⟨q, hq⟩ : ∃ q, q = drawn x := ⟨_, rfl⟩
  have HQ := hide hq
  have hN : nodesL x = pre q 16 := by rw [hq]; rfl
  rw [hN]
  have hO : Hid (Owns W.heap.size W (W.alloc (.cells #[] 2)) (.slice (some ⟨W.heap.size, 0, none⟩) 0 0) (pre q 0)) := hide (Owns.made (Below.refl _ _) (Nat.le_refl _))
  clear hq hN
  go_enter Tryd.func112, Tryd.ntmps112
  go_wp2_with fail
  go_loopw [3, 4] (fun v i wr => ∃ (k : Nat) (v0 : Value), v0 = v ∧ k ≤ 16 ∧ i = .int .i64 k ∧ Owns W.heap.size W wr v (pre q k)) (fun _ i _ => 16 - (intOf i).toNat)
  case atStart => exact ⟨0, _, rfl, Nat.zero_le _, rfl, hO.out⟩
  case round =>
    clear hO
    obtain ⟨k, v, rfl, hk, rfl, hO⟩ := hrel
    by_cases hlt : k < 16
    · have hple := pre_le q k
      have hdw := dg_walkL (E := x) (k := (k : Int)) h0 (by omega)
      rw [Int.toNat_natCast] at hdw
      have hku := u64_small (show (0 : Int) ≤ (k : Int) by omega) (by omega)
      have HO := hide hO
      have hown := hO.own
      have hsz := hO.size
      cases hd : drawn x (k : Int)
      · have hdg := dg_of_free hd
        rw [hdg] at hdw
        have HN := hide (pre_no (p := q) (k := k) (by rw [HQ.out]; exact hd))
        clear hO hown hd hdg
        go_wp2_with fail
        go_roundw
        case rel => exact ⟨k + 1, _, rfl, by omega, by go_num, by rw [HN.out]; exact HO.out⟩
        case measure => simp [intOf]; omega
      · have hdg := dg_of_drawn hd
        rw [hdg] at hdw
        have HY := hide (pre_yes (p := q) (k := k) (by rw [HQ.out]; exact hd))
        clear hO hd hdg
        go_wp2_with (at_builtin; refine wpList_append_own _ rfl _ _ 22 rfl (W.heap.size) 2 i0 (.int .i64 0) 1 8 Tryd.underlying22 hi0 hz0 hz1 hz2 rfl (by decide) _ _ _ rfl (hown.alloc _) ⟨wr.heap.size, 0, none⟩ 1 1 [.int .i64 k] rfl rfl (cell_one_new _ _ _) (by simp [Value.oneCell']) (by unfold maxLen; omega) (by omega) (by simp; omega) ?_)
        intro v' w5 hown' hgrow _
        have HO5 := hide (HO.out.snoc (by simpa using hown') hgrow)
        clear hown' hgrow hown
        go_wp2_with fail
        go_roundw
        case rel => exact ⟨k + 1, _, rfl, by omega, by go_num, by rw [HY.out]; exact HO5.out⟩
        case measure => simp [intOf]; omega
    · obtain rfl : k = 16 := by omega
      have HL := hide (hO.list (Below.refl _ _) (Nat.le_refl _))
      clear hO
      go_wp2_with fail
      go_ret
      exact HL.out
end Go.Proofs.YtkekanllfpdeaaaDoor
