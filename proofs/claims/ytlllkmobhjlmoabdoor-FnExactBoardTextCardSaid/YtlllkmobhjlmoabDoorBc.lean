/-
  How many nodes a set has: OnesCount64, countNodes, l07Ones; the nodes of a set: nodesOf, l07Nodes.
-/
import Derived.Test.YtlllkmobhjlmoabDoorBa
namespace Go.Proofs.YtlllkmobhjlmoabDoor
open Go.RowKit
set_option linter.unusedVariables false


theorem wraps_u64 (n : Int) (h0 : 0 ≤ n) (h1 : n < 2 ^ 64) : IntKind.u64.wrap n = n := by rw [IntKind.wrap_u64]; omega
theorem and_u64 (a b : Nat) (ha : a < 2 ^ 64) (hb : b < 2 ^ 64) : bits BinOp.and IntKind.u64 (a : Int) (b : Int) = ((a &&& b : Nat) : Int) := (bits_nat .u64 64 (by decide) wraps_u64 a b ha hb).1

/-! ### the nodes of a set -/
def nodesL (x : Int) : List Int := pre (drawn x) 16
theorem nodesL_len (x : Int) : ((nodesL x).length : Int) = ones x := onesK_pre x 16
theorem nodesL_le (x : Int) : (nodesL x).length ≤ 16 := pre_le _ _
theorem Owns.made {B : Nat} {W0 w : World} (h : Below B W0 w) (hs : B ≤ w.heap.size) : Owns B W0 (w.alloc (.cells #[] 2)) (.slice (some ⟨w.heap.size, 0, none⟩) 0 0) [] := by
  refine ⟨⟨rfl, .inr ⟨w.heap.size, 0, #[], rfl, hs, heap_alloc_new w _, Nat.le_refl _, by unfold maxLen; omega, rfl, rfl⟩⟩, h.alloc hs _, by simp; omega⟩

set_option maxRecDepth 100000 in
set_option maxHeartbeats 1000000 in
theorem nodesOf_any (x : Int) (h0 : 0 ≤ x) (h1 : x < 65536) (W : World) : Calls Tryd.prog 21 #[.int .i64 x] W (NewL (nodesL x) W) := by
  obtain ⟨i0, hi0, hz0, hz1, hz2⟩ := info_parts Tryd.info2
  obtain ⟨q, hq⟩ : ∃ q, q = drawn x := ⟨_, rfl⟩
  have HQ := hide hq
  have hN : nodesL x = pre q 16 := by rw [hq]; rfl
  rw [hN]
  have hO : Hid (Owns W.heap.size W W (.slice none 0 0) (pre q 0)) := hide (Owns.nil (Below.refl _ _) (Nat.le_refl _))
  clear hq hN
  go_enter Tryd.func21, Tryd.ntmps21
  go_wp2_with fail
  go_loopw [3, 5] (fun v i wr => ∃ (k : Nat) (v0 : Value), v0 = v ∧ k ≤ 16 ∧ i = .int .i64 k ∧ Owns W.heap.size W wr v (pre q k)) (fun _ i _ => 16 - (intOf i).toNat)
  case atStart => exact ⟨0, _, rfl, Nat.zero_le _, rfl, hO.out⟩
  case round =>
    clear hO
    obtain ⟨k, v, rfl, hk, rfl, hO⟩ := hrel
    by_cases hlt : k < 16
    · have hple := pre_le q k
      have hdw := dg_walkL (E := x) (k := (k : Int)) h0 (by omega)
      rw [Int.toNat_natCast] at hdw
      have HO := hide hO
      have hown := hO.own
      have hsz := hO.size
      cases hd : drawn x (k : Int)
      · have hdg := dg_of_free hd
        rw [hdg] at hdw
        have HN := hide (pre_no (p := q) (k := k) (by rw [HQ.out]; exact hd))
        clear hO hown hd hdg
        go_wp2_with fail
        go_roundw
        case rel => exact ⟨k + 1, _, rfl, by omega, by go_num, by rw [HN.out]; exact HO.out⟩
        case measure => simp [intOf]; omega
      · have hdg := dg_of_drawn hd
        rw [hdg] at hdw
        have HY := hide (pre_yes (p := q) (k := k) (by rw [HQ.out]; exact hd))
        clear hO hd hdg
        go_wp2_with (at_builtin; refine wpList_append_own _ rfl _ _ 22 rfl (W.heap.size) 2 i0 (.int .i64 0) 1 8 Tryd.underlying22 hi0 hz0 hz1 hz2 rfl (by decide) _ _ _ rfl (hown.alloc _) ⟨wr.heap.size, 0, none⟩ 1 1 [.int .i64 k] rfl rfl (cell_one_new _ _ _) (by simp [Value.oneCell']) (by unfold maxLen; omega) (by omega) (by simp; omega) ?_)
        intro v' w5 hown' hgrow _
        have HO5 := hide (HO.out.snoc (by simpa using hown') hgrow)
        clear hown' hgrow hown
        go_wp2_with fail
        go_roundw
        case rel => exact ⟨k + 1, _, rfl, by omega, by go_num, by rw [HY.out]; exact HO5.out⟩
        case measure => simp [intOf]; omega
    · obtain rfl : k = 16 := by omega
      have HL := hide (hO.list (Below.refl _ _) (Nat.le_refl _))
      clear hO
      go_wp2_with fail
      go_ret
      exact HL.out

set_option maxRecDepth 100000 in
set_option maxHeartbeats 1000000 in
theorem l07Nodes_any (x : Int) (h0 : 0 ≤ x) (h1 : x < 65536) (W : World) : Calls Tryd.prog 30 #[.int .i64 x] W (NewL (nodesL x) W) := by
  obtain ⟨i0, hi0, hz0, hz1, hz2⟩ := info_parts Tryd.info2
  obtain ⟨q, hq⟩ : ∃ q, q = drawn x := ⟨_, rfl⟩
  have HQ := hide hq
  have hN : nodesL x = pre q 16 := by rw [hq]; rfl
  rw [hN]
  have hO : Hid (Owns W.heap.size W (W.alloc (.cells #[] 2)) (.slice (some ⟨W.heap.size, 0, none⟩) 0 0) (pre q 0)) := hide (Owns.made (Below.refl _ _) (Nat.le_refl _))
  clear hq hN
  go_enter Tryd.func30, Tryd.ntmps30
  go_wp2_with fail
  go_loopw [3, 4] (fun v i wr => ∃ (k : Nat) (v0 : Value), v0 = v ∧ k ≤ 16 ∧ i = .int .i64 k ∧ Owns W.heap.size W wr v (pre q k)) (fun _ i _ => 16 - (intOf i).toNat)
  case atStart => exact ⟨0, _, rfl, Nat.zero_le _, rfl, hO.out⟩
  case round =>
    clear hO
    obtain ⟨k, v, rfl, hk, rfl, hO⟩ := hrel
    by_cases hlt : k < 16
    · have hple := pre_le q k
      have hdw := dg_walkL (E := x) (k := (k : Int)) h0 (by omega)
      rw [Int.toNat_natCast] at hdw
      have hku := u64_small (show (0 : Int) ≤ (k : Int) by omega) (by omega)
      have HO := hide hO
      have hown := hO.own
      have hsz := hO.size
      cases hd : drawn x (k : Int)
      · have hdg := dg_of_free hd
        rw [hdg] at hdw
        have HN := hide (pre_no (p := q) (k := k) (by rw [HQ.out]; exact hd))
        clear hO hown hd hdg
        go_wp2_with fail
        go_roundw
        case rel => exact ⟨k + 1, _, rfl, by omega, by go_num, by rw [HN.out]; exact HO.out⟩
        case measure => simp [intOf]; omega
      · have hdg := dg_of_drawn hd
        rw [hdg] at hdw
        have HY := hide (pre_yes (p := q) (k := k) (by rw [HQ.out]; exact hd))
        clear hO hd hdg
        go_wp2_with (at_builtin; refine wpList_append_own _ rfl _ _ 22 rfl (W.heap.size) 2 i0 (.int .i64 0) 1 8 Tryd.underlying22 hi0 hz0 hz1 hz2 rfl (by decide) _ _ _ rfl (hown.alloc _) ⟨wr.heap.size, 0, none⟩ 1 1 [.int .i64 k] rfl rfl (cell_one_new _ _ _) (by simp [Value.oneCell']) (by unfold maxLen; omega) (by omega) (by simp; omega) ?_)
        intro v' w5 hown' hgrow _
        have HO5 := hide (HO.out.snoc (by simpa using hown') hgrow)
        clear hown' hgrow hown
        go_wp2_with fail
        go_roundw
        case rel => exact ⟨k + 1, _, rfl, by omega, by go_num, by rw [HY.out]; exact HO5.out⟩
        case measure => simp [intOf]; omega
    · obtain rfl : k = 16 := by omega
      have HL := hide (hO.list (Below.refl _ _) (Nat.le_refl _))
      clear hO
      go_wp2_with fail
      go_ret
      exact HL.out
end Go.Proofs.YtlllkmobhjlmoabDoor
