/-
  Boards: allNodes, IsBoard (both texts), lineIn, isMetBy, l07Fills.
-/
import Derived.Test.YtkekanllfpdeaaaDoorBa
namespace Go.Proofs.YtkekanllfpdeaaaDoor
open Go.RowKit
set_option linter.unusedVariables false

theorem pow_65536 {n : Int} (h : n ≤ 16) : (0 : Int) ≤ 2 ^ n.toNat ∧ (2 : Int) ^ n.toNat ≤ 65536 := by
  refine ⟨Int.le_of_lt (Int.pow_pos (by decide)), ?_⟩
  have := pow_mono (a := n.toNat) (b := 16) (by omega)
  simpa using this
theorem shl_16 {n : Int} (h : n ≤ 16) : wrap64 ((2 : Int) ^ n.toNat) = 2 ^ n.toNat := by
  have := pow_65536 h
  unfold wrap64
  omega
set_option maxHeartbeats 400000 in
theorem allNodes_any (n : Int) (a : Option Addr) (k c : Nat) (h0 : 0 ≤ n) (h1 : n ≤ 16) (W : World) : Calls Tryd.prog 78 #[.agg #[.int .i64 n, .slice a k c]] W (RetB (.int .i64 (allI n)) W) := by
  have hs := shl_16 h1
  obtain ⟨p0, p1⟩ := pow_65536 h1
  have hB0 := hide (below_alloc W (.cells #[.int .i64 n, .slice a k c] 28))
  obtain ⟨c0, c1⟩ := hexIn_new W n a k c 28
  have hw : wrap64 ((2 : Int) ^ n.toNat - 1) = 2 ^ n.toNat - 1 := by unfold wrap64; omega
  have hfin : Hid (allI n = 2 ^ n.toNat - 1) := hide rfl
  go_enter Tryd.func78, Tryd.ntmps78
  go_wp2
  go_ret
  exact ⟨ret_int hfin.out.symm, hB0.out⟩

/-! ### IsBoard -/
set_option maxRecDepth 100000 in
set_option maxHeartbeats 2000000 in
theorem implIs_any (n : Int) (a : Option Addr) (c : Nat) (cs : List Int) (W : World) (ha : IntsAt W a cs) (hl : cs.length ≤ 1048576) :
    Calls Tryd.prog 58 #[.agg #[.int .i64 n, .slice a cs.length c]] W (RetB (.bool (okB n cs)) W) := by
  obtain ⟨W0, hW0⟩ : ∃ W0, W0 = W.alloc (.cells #[.int .i64 n, .slice a cs.length c] 28) := ⟨_, rfl⟩
  have hB0 : Hid (Below W.heap.size W W0) := by rw [hW0]; exact hide (below_alloc _ _)
  have hX0 : Hid (HexIn W0 W.heap.size n a cs.length c) := by rw [hW0]; exact hide (hexIn_new _ _ _ _ _ _)
  have hA0 := hide (ha.keep hB0.out)
  obtain ⟨r, hr⟩ : ∃ r, r = okB n cs := ⟨_, rfl⟩
  rw [← hr]
  have HR := hide hr
  obtain ⟨K, hK⟩ : ∃ K, K = cs.length := ⟨_, rfl⟩
  have HK := hide hK
  rw [← hK] at hl hX0 ⊢
  rw [← hK] at hW0
  clear ha hr hK
  by_cases h1 : 1 ≤ n
  · have e1 : decide (1 ≤ n) = true := decide_eq_true h1
    by_cases h2 : n ≤ 16
    · have e2 : decide (n ≤ 16) = true := decide_eq_true h2
      by_cases h3 : K ≤ 100
      · have e3 : decide ((K : Int) ≤ 100) = true := decide_eq_true (by omega)
        have hf : Hid (ascB 1 (allI n) cs = r) := hide (by rw [HR.out, okB_rest ⟨h1, h2⟩ (by rw [← HK.out]; exact h3)])
        obtain ⟨m, hm⟩ : ∃ m, m = allI n := ⟨_, rfl⟩
        have hm16 : m ≤ 1048576 := by have := allI_16 ⟨h1, h2⟩; omega
        have HAN : Hid (∀ V : World, Calls Tryd.prog 78 #[.agg #[.int .i64 n, .slice a K c]] V (RetB (.int .i64 m) V)) := hide (fun V => by rw [hm]; exact allNodes_any n a K c (by omega) h2 V)
        have HAS : Hid (∀ V : World, Below W0.heap.size W0 V → Calls Tryd.prog 113 #[.slice a K c, .int .i64 1, .int .i64 m] V (RetB (.bool r) V)) := hide (fun V hb => by
          have h := isAscendingIn_any a c cs 1 m V (hA0.out.keep hb) (by rw [← HK.out]; exact hl) (by omega) hm16
          rw [← HK.out] at h
          refine h.mono ?_
          rintro e w' ⟨rfl, rfl⟩
          exact ⟨by rw [hm, hf.out], Below.refl _ _⟩)
        obtain ⟨c0, c1⟩ := hX0.out.past
        clear hm hm16
        go_enter Tryd.func58, Tryd.ntmps58
        go_wp2_with fail
        rw [← hW0]
        clear hW0
        (try go_wp2_with fail)
        refine wp_region_past (by kernel_rfl) (by kernel_rfl) ?_
        repeat (first | go_big_quiet_step ((first | (go_at_call 78; (with_reducible exact ret_past (HAN.out _))) | (go_at_call 113; (with_reducible exact ret_past (HAS.out _ (Past.old _)))))) | quiet_step ((first | (go_at_call 78; (with_reducible exact ret_past (HAN.out _))) | (go_at_call 113; (with_reducible exact ret_past (HAS.out _ (Past.old _)))))))
        refine wpQuiet_nil ?_
        rintro _ ⟨pq, rfl⟩
        have hB1 := hide (Below.trans' hB0.out pq.old)
        go_wp2_with fail
        go_ret
        exact ⟨rfl, hB1.out⟩
      · have e3 : decide ((K : Int) ≤ 100) = false := decide_eq_false (by omega)
        have hf : Hid (r = false) := hide (by rw [HR.out, okB_two (by rw [← HK.out]; exact h3)])
        obtain ⟨c0, c1⟩ := hX0.out.past
        go_enter Tryd.func58, Tryd.ntmps58
        go_wp2_with fail
        rw [← hW0]
        clear hW0
        (try go_wp2_with fail)
        refine wp_region_past (by kernel_rfl) (by kernel_rfl) ?_
        repeat (first | go_big_quiet_step (fail) | quiet_step (fail))
        refine wpQuiet_nil ?_
        rintro _ ⟨pq, rfl⟩
        have hB1 := hide (Below.trans' hB0.out pq.old)
        go_wp2_with fail
        go_ret
        exact ⟨by rw [hf.out]; rfl, hB1.out⟩
    · have e2 : decide (n ≤ 16) = false := decide_eq_false h2
      have hf : Hid (r = false) := hide (by rw [HR.out, okB_one (by omega)])
      obtain ⟨c0, c1⟩ := hX0.out.past
      go_enter Tryd.func58, Tryd.ntmps58
      go_wp2_with fail
      rw [← hW0]
      clear hW0
      (try go_wp2_with fail)
      refine wp_region_past (by kernel_rfl) (by kernel_rfl) ?_
      repeat (first | go_big_quiet_step (fail) | quiet_step (fail))
      refine wpQuiet_nil ?_
      rintro _ ⟨pq, rfl⟩
      have hB1 := hide (Below.trans' hB0.out pq.old)
      go_wp2_with fail
      go_ret
      exact ⟨by rw [hf.out]; rfl, hB1.out⟩
  · have e1 : decide (1 ≤ n) = false := decide_eq_false h1
    have hf : Hid (r = false) := hide (by rw [HR.out, okB_one (by omega)])
    obtain ⟨c0, c1⟩ := hX0.out.past
    go_enter Tryd.func58, Tryd.ntmps58
    go_wp2_with fail
    rw [← hW0]
    clear hW0
    (try go_wp2_with fail)
    refine wp_region_past (by kernel_rfl) (by kernel_rfl) ?_
    repeat (first | go_big_quiet_step (fail) | quiet_step (fail))
    refine wpQuiet_nil ?_
    rintro _ ⟨pq, rfl⟩
    have hB1 := hide (Below.trans' hB0.out pq.old)
    go_wp2_with fail
    go_ret
    exact ⟨by rw [hf.out]; rfl, hB1.out⟩
theorem implIs_is {b : Bool} {n : Int} {a : Option Addr} {c : Nat} {cs : List Int} (h : okB n cs = b) {W : World} (ha : IntsAt W a cs) (hl : cs.length ≤ 1048576) :
    Calls Tryd.prog 58 #[.agg #[.int .i64 n, .slice a cs.length c]] W (RetB (.bool b) W) := by rw [← h]; exact implIs_any n a c cs W ha hl
end Go.Proofs.YtkekanllfpdeaaaDoor
