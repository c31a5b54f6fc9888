/-
  IsNet: the model's text.
-/
import Derived.Test.YtkekanllfpdeaabIi
import Derived.Test.YtkekanllfpdeaabIn
namespace Go.Proofs.Ytkekanllfpdeaab
open Go.RowKit
set_option linter.unusedVariables false

set_option maxRecDepth 100000 in
set_option maxHeartbeats 4000000 in
theorem l10Is_any (n : Int) (a : Option Addr) (c : Nat) (X : List (List Int)) (W : World) (ha : RowsAt W a X) (hs : Small X) :
    Calls Try.prog 47 #[.agg #[.int .i64 n, .slice a X.length c]] W (RetB (.bool (netB n X)) W) := by
  obtain ⟨W0, hW0⟩ : ∃ W0, W0 = W.alloc (.cells #[.int .i64 n, .slice a X.length c] 45) := ⟨_, rfl⟩
  have hB0 : Hid (Below W.heap.size W W0) := by rw [hW0]; exact hide (below_alloc _ _)
  have hX0 : Hid (NetIn W0 W.heap.size n a X.length c) := by rw [hW0]; exact hide (netIn_new _ _ _ _ _ _)
  have HA := hide (ha.keep hB0.out)
  have HS := hide hs
  obtain ⟨R, hR⟩ : ∃ R, R = netB n X := ⟨_, rfl⟩
  have HR := hide hR
  rw [← hR]
  have hl := hs.1
  obtain ⟨q0, q1⟩ := hX0.out
  obtain ⟨i, hi⟩ : ∃ i, i = inn n 2 8 := ⟨_, rfl⟩
  have HI := hide (fun V => inn_any n 2 8 V)
  rw [← hi] at HI
  have Hi := hide hi.symm
  clear hR ha hs hi
  cases i
  · have hn : Hid (R = false) := hide (by have := inn_no Hi.out; rw [HR.out]; exact sizN_no (by omega))
    go_enter Try.func47, Try.ntmps47
    go_wp2_with fail
    rw [← hW0]
    clear hW0
    (try go_wp2_with fail)
    refine (HI.out _).mono ?_
    rintro e w1 ⟨rfl, hb1⟩
    have hB1 := hide (Below.trans' hB0.out hb1)
    clear hb1 q0 q1
    go_wp2_with fail
    go_ret
    exact ⟨by rw [hn.out]; first | done | rfl, hB1.out⟩
  obtain ⟨hn2, hn8⟩ := inn_yes Hi.out
  by_cases hlen : 10 < X.length
  · have hn : Hid (R = false) := hide (by rw [HR.out]; exact sizN_no (by omega))
    have e3 : decide ((10 : Int) < (X.length : Int)) = true := decide_eq_true (by omega)
    go_enter Try.func47, Try.ntmps47
    go_wp2_with fail
    rw [← hW0]
    clear hW0
    (try go_wp2_with fail)
    refine (HI.out _).mono ?_
    rintro e w1 ⟨rfl, hb1⟩
    have hB1 := hide (Below.trans' hB0.out hb1)
    clear q0 q1
    obtain ⟨q0, q1⟩ := hX0.out.keep hb1
    clear hb1
    go_wp2_with fail
    go_ret
    exact ⟨by rw [hn.out]; first | done | rfl, hB1.out⟩
  have e3 : decide ((10 : Int) < (X.length : Int)) = false := decide_eq_false (by omega)
  have h0 : Hid (R = ((List.range X.length).drop 0).all (stepN n X)) := hide (by rw [HR.out]; unfold netB; rw [show sizN n X = true by simp [sizN]; omega]; rfl)
  go_enter Try.func47, Try.ntmps47
  go_wp2_with fail
  rw [← hW0]
  clear hW0
  (try go_wp2_with fail)
  refine (HI.out _).mono ?_
  rintro e w1 ⟨rfl, hb1⟩
  have hB1 := hide hb1
  clear q0 q1
  obtain ⟨q0, q1⟩ := hX0.out.keep hb1
  clear hb1
  go_wp2_with fail
  clear q0 q1
  go_loopw [3] (fun i wr => ∃ k : Nat, i = .int .i64 k ∧ k ≤ X.length ∧ Hid (R = ((List.range X.length).drop k).all (stepN n X)) ∧ Hid (∀ j zs, j < k → X[j]? = some zs → ∃ x y, zs = [x, y]) ∧ Below W0.heap.size W0 wr) (fun i _ => X.length - (intOf i).toNat)
  case atStart => exact ⟨0, rfl, Nat.zero_le _, h0, hide (fun j zs hj _ => by omega), hB1.out⟩
  case round =>
    clear h0 hB1
    obtain ⟨k, rfl, hk, hE, hP, hb⟩ := hrel
    have hB := hide hb
    obtain ⟨q0, q1⟩ := hX0.out.keep hb
    have hw1 : IntKind.i64.wrap (n - 1) = n - 1 := by rw [IntKind.wrap_i64]; omega
    by_cases hlt : k < X.length
    · obtain ⟨b1, o1, a1, k1, zs, rfl, hc1, hz1, hg1⟩ := (HA.out.keep hb).one hlt
      have hlz := HS.out.2 zs (mem_of_get hg1.out)
      have hE2 : Hid (R = (stepN n X k && ((List.range X.length).drop (k + 1)).all (stepN n X))) := hide (by rw [hE.out, all_drop_step hlt])
      have p0 : ∀ p : Past wr, p.to.cell? ⟨W.heap.size, 0, none⟩ = some (.int .i64 n) := fun p => p.cell q0
      have p1 : ∀ p : Past wr, p.to.cell? ⟨W.heap.size, 1, none⟩ = some (.slice (some ⟨b1, o1, none⟩) X.length c) := fun p => p.cell q1
      clear hE
      by_cases h2 : zs.length = 2
      · obtain ⟨x, y, rfl⟩ := len_two h2
        have hc1' : wr.cell? ⟨b1, o1 + k, none⟩ = some (.slice a1 2 k1) := hc1
        obtain ⟨b2, o2, rfl, e0, e1⟩ := two_cells hz1
        have p2 : ∀ p : Past wr, p.to.cell? ⟨b2, o2, none⟩ = some (.int .i64 x) := fun p => p.cell e0
        have p3 : ∀ p : Past wr, p.to.cell? ⟨b2, o2 + 1, none⟩ = some (.int .i64 y) := fun p => p.cell e1
        have h22 : ((2 : Int) != 2) = false := rfl
        obtain ⟨i1, hi1⟩ : ∃ i, i = inn x 0 (n - 1) := ⟨_, rfl⟩
        have HI1 := hide (fun V => inn_any x 0 (n - 1) V)
        rw [← hi1] at HI1
        have Hi1 := hide hi1.symm
        obtain ⟨i2, hi2⟩ : ∃ i, i = inn y 0 (n - 1) := ⟨_, rfl⟩
        have HI2 := hide (fun V => inn_any y 0 (n - 1) V)
        rw [← hi2] at HI2
        have Hi2 := hide hi2.symm
        have E0 := hide e0
        have E1 := hide e1
        clear hi1 hi2 hc1 hz1 h2 hlz e0 e1
        cases i1
        · have hn : Hid (R = false) := hide (by have := inn_no Hi1.out; rw [hE2.out, stepN_edge hg1.out (by omega)]; rfl)
          go_wp2_with fail
          clear q0 q1 hc1' hb
          refine wp_region_past (by kernel_rfl) (by kernel_rfl) ?_
          repeat (first | go_big_quiet_step ((go_at_call 52; (with_reducible exact ret_past (HI1.out _)))) | quiet_step ((go_at_call 52; (with_reducible exact ret_past (HI1.out _)))))
          refine wpQuiet_nil ?_
          rintro _ ⟨pq, rfl⟩
          have hB2 := hide (Below.trans' hB0.out (Below.trans' hB.out pq.old))
          clear p0 p1 p2 p3 hw1
          go_wp2_with fail
          go_ret
          exact ⟨by rw [hn.out]; first | done | rfl, hB2.out⟩
        cases i2
        · have hn : Hid (R = false) := hide (by have := inn_no Hi2.out; have h1 := inn_yes Hi1.out; rw [hE2.out, stepN_edge hg1.out (by omega)]; rfl)
          go_wp2_with fail
          clear q0 q1 hc1' hb
          refine wp_region_past (by kernel_rfl) (by kernel_rfl) ?_
          repeat (first | go_big_quiet_step ((go_at_call 52; (first | (with_reducible exact ret_past (HI1.out _)) | (with_reducible exact ret_past (HI2.out _))))) | quiet_step ((go_at_call 52; (first | (with_reducible exact ret_past (HI1.out _)) | (with_reducible exact ret_past (HI2.out _))))))
          refine wpQuiet_nil ?_
          rintro _ ⟨pq, rfl⟩
          have hB2 := hide (Below.trans' hB0.out (Below.trans' hB.out pq.old))
          clear p0 p1 p2 p3 hw1
          go_wp2_with fail
          go_ret
          exact ⟨by rw [hn.out]; first | done | rfl, hB2.out⟩
        by_cases hxy : y ≤ x
        · have hn : Hid (R = false) := hide (by rw [hE2.out, stepN_edge hg1.out (by omega)]; rfl)
          have hd : decide (y ≤ x) = true := decide_eq_true hxy
          go_wp2_with fail
          clear q0 q1 hc1' hb
          refine wp_region_past (by kernel_rfl) (by kernel_rfl) ?_
          repeat (first | go_big_quiet_step ((go_at_call 52; (first | (with_reducible exact ret_past (HI1.out _)) | (with_reducible exact ret_past (HI2.out _))))) | quiet_step ((go_at_call 52; (first | (with_reducible exact ret_past (HI1.out _)) | (with_reducible exact ret_past (HI2.out _))))))
          refine wpQuiet_nil ?_
          rintro _ ⟨pq, rfl⟩
          have hB2 := hide (Below.trans' hB0.out (Below.trans' hB.out pq.old))
          clear p0 p1 p2 p3 hw1
          go_wp2_with fail
          go_ret
          exact ⟨by rw [hn.out]; first | done | rfl, hB2.out⟩
        have hd : decide (y ≤ x) = false := decide_eq_false hxy
        have hok : 0 ≤ x ∧ x < y ∧ y ≤ n - 1 := by have h1 := inn_yes Hi1.out; have h2 := inn_yes Hi2.out; omega
        have hP2 : Hid (∀ j zs, j < k + 1 → X[j]? = some zs → ∃ x y, zs = [x, y]) := hide (fun j zs hj hz => by
          by_cases e : j = k
          · rw [e, hg1.out] at hz
            cases hz
            exact ⟨x, y, rfl⟩
          · exact hP.out j zs (by omega) hz)
        have HOK := hide hok
        clear hok
        go_wp2_with fail
        refine wp_region_past (by kernel_rfl) (by kernel_rfl) ?_
        repeat (first | go_big_quiet_step ((go_at_call 52; (first | (with_reducible exact ret_past (HI1.out _)) | (with_reducible exact ret_past (HI2.out _))))) | quiet_step ((go_at_call 52; (first | (with_reducible exact ret_past (HI1.out _)) | (with_reducible exact ret_past (HI2.out _))))))
        refine wpQuiet_nil ?_
        rintro _ ⟨pq, rfl⟩
        have hBp := hide (Below.trans' hB.out pq.old)
        have HA2 := hide (HA.out.keep hBp.out)
        have hold : Below wr.heap.size wr pq.to := pq.old
        have e0 := cell_keep hold E0.out
        have e1 := cell_keep hold E1.out
        obtain ⟨wp, hwp⟩ : ∃ wp, wp = pq.to := ⟨_, rfl⟩
        rw [← hwp] at hBp HA2 e0 e1 ⊢
        clear hold hwp pq p0 p1 p2 p3 hw1 q0 q1 hc1' hb HI1 HI2 Hi1 Hi2 hd
        obtain ⟨q0, q1⟩ := hX0.out.keep hBp.out
        clear q0
        have p1 : ∀ p : Past wp, p.to.cell? ⟨W.heap.size, 1, none⟩ = some (.slice (some ⟨b1, o1, none⟩) X.length c) := fun p => p.cell q1
        have p2 : ∀ p : Past wp, p.to.cell? ⟨b2, o2, none⟩ = some (.int .i64 x) := fun p => p.cell e0
        have p3 : ∀ p : Past wp, p.to.cell? ⟨b2, o2 + 1, none⟩ = some (.int .i64 y) := fun p => p.cell e1
        by_cases hk0 : k = 0
        · have hst : Hid (stepN n X k = true) := hide (stepN_zero hg1.out HOK.out hk0)
          have hd0 : decide (0 < k) = false := decide_eq_false (by omega)
          have hE3 : Hid (R = ((List.range X.length).drop (k + 1)).all (stepN n X)) := hide (by rw [hE2.out, hst.out, Bool.true_and])
          clear hk0 q1 e0 e1
          go_wp2_with fail
          refine wp_region_past (by kernel_rfl) (by kernel_rfl) ?_
          repeat (first | go_big_quiet_step (fail) | quiet_step (fail))
          refine wpQuiet_nil ?_
          rintro _ ⟨pq, rfl⟩
          have hB3 := hide (Below.trans' hBp.out pq.old)
          clear p1 p2 p3
          go_wp2_with fail
          go_roundw
          case rel => exact ⟨k + 1, by go_num, by omega, hE3, hP2, hB3.out⟩
          case measure => simp [intOf]; omega
        · obtain ⟨j, hj⟩ : ∃ j, k = j + 1 := ⟨k - 1, by omega⟩
          obtain ⟨b4, o4, a4, k4, ys, he4, hc4, hz4, hg4⟩ := HA2.out.one (k := j) (by omega)
          cases he4
          obtain ⟨u, v, rfl⟩ := hP.out j ys (by omega) hg4.out
          obtain ⟨b5, o5, rfl, f0, f1⟩ := two_cells hz4
          have hc4' : wp.cell? ⟨b1, o1 + j, none⟩ = some (.slice (some ⟨b5, o5, none⟩) 2 k4) := hc4
          have hst : Hid (stepN n X k = !(decide (x < u) || (decide (x = u) && decide (y < v)))) := hide (stepN_ord hg1.out hg4.out hj HOK.out)
          have hd0 : decide (0 < k) = true := decide_eq_true (by omega)
          have hk1 : (0 : Int) < (k : Int) := by omega
          have hkj : IntKind.i64.wrap ((k : Int) - 1) = (j : Int) := by rw [IntKind.wrap_i64]; omega
          have hjl : j < X.length := by omega
          have p5 : ∀ p : Past wp, p.to.cell? ⟨b1, o1 + j, none⟩ = some (.slice (some ⟨b5, o5, none⟩) 2 k4) := fun p => p.cell hc4'
          have p6 : ∀ p : Past wp, p.to.cell? ⟨b5, o5, none⟩ = some (.int .i64 u) := fun p => p.cell f0
          have p7 : ∀ p : Past wp, p.to.cell? ⟨b5, o5 + 1, none⟩ = some (.int .i64 v) := fun p => p.cell f1
          have hc3 := hc4
          clear hj hk0 hz4
          by_cases h1 : x < u
          · have hb1 : decide (x < u) = true := decide_eq_true h1
            have hn : Hid (R = false) := hide (by rw [hE2.out, hst.out]; simp [h1])
            go_wp2_with fail
            clear q1 hc3 hc4 hc4' f0 f1 e0 e1
            refine wp_region_past (by kernel_rfl) (by kernel_rfl) ?_
            repeat (first | go_big_quiet_step (fail) | quiet_step (fail))
            refine wpQuiet_nil ?_
            rintro _ ⟨pq, rfl⟩
            have hB3 := hide (Below.trans' hB0.out (Below.trans' hBp.out pq.old))
            clear p1 p2 p3 p5 p6 p7 hkj
            go_wp2_with fail
            go_ret
            exact ⟨by rw [hn.out]; first | done | rfl, hB3.out⟩
          · have hb1 : decide (x < u) = false := decide_eq_false h1
            by_cases h2 : u = x
            · have hb2 : (u == x) = true := by simp [h2]
              by_cases h3 : y < v
              · have hb3 : decide (y < v) = true := decide_eq_true h3
                have hn : Hid (R = false) := hide (by rw [hE2.out, hst.out]; simp [h2, h3])
                clear h2
                go_wp2_with fail
                clear q1 hc3 hc4 hc4' f0 f1 e0 e1
                refine wp_region_past (by kernel_rfl) (by kernel_rfl) ?_
                repeat (first | go_big_quiet_step (fail) | quiet_step (fail))
                refine wpQuiet_nil ?_
                rintro _ ⟨pq, rfl⟩
                have hB3 := hide (Below.trans' hB0.out (Below.trans' hBp.out pq.old))
                clear p1 p2 p3 p5 p6 p7 hkj
                go_wp2_with fail
                go_ret
                exact ⟨by rw [hn.out]; first | done | rfl, hB3.out⟩
              · have hb3 : decide (y < v) = false := decide_eq_false h3
                have hE3 : Hid (R = ((List.range X.length).drop (k + 1)).all (stepN n X)) := hide (by rw [hE2.out, hst.out]; simp [h2, h3])
                clear h2
                go_wp2_with fail
                clear q1 hc3 hc4 hc4' f0 f1 e0 e1
                refine wp_region_past (by kernel_rfl) (by kernel_rfl) ?_
                repeat (first | go_big_quiet_step (fail) | quiet_step (fail))
                refine wpQuiet_nil ?_
                rintro _ ⟨pq, rfl⟩
                have hB3 := hide (Below.trans' hBp.out pq.old)
                clear p1 p2 p3 p5 p6 p7 hkj
                go_wp2_with fail
                go_roundw
                case rel => exact ⟨k + 1, by go_num, by omega, hE3, hP2, hB3.out⟩
                case measure => simp [intOf]; omega
            · have hb2 : (u == x) = false := by simp [h2]
              have h2' : ¬ x = u := fun e => h2 e.symm
              have hE3 : Hid (R = ((List.range X.length).drop (k + 1)).all (stepN n X)) := hide (by rw [hE2.out, hst.out]; simp [h1, h2'])
              go_wp2_with fail
              clear q1 hc3 hc4 hc4' f0 f1 e0 e1
              refine wp_region_past (by kernel_rfl) (by kernel_rfl) ?_
              repeat (first | go_big_quiet_step (fail) | quiet_step (fail))
              refine wpQuiet_nil ?_
              rintro _ ⟨pq, rfl⟩
              have hB3 := hide (Below.trans' hBp.out pq.old)
              clear p1 p2 p3 p5 p6 p7 hkj
              go_wp2_with fail
              go_roundw
              case rel => exact ⟨k + 1, by go_num, by omega, hE3, hP2, hB3.out⟩
              case measure => simp [intOf]; omega
      · have hn : Hid (R = false) := hide (by rw [hE2.out, stepN_len hg1.out h2]; rfl)
        have hne : ((zs.length : Int) != 2) = true := by simp; omega
        clear hE2 hg1 hz1
        go_wp2_with fail
        clear q0 q1 hb
        refine wp_region_past (by kernel_rfl) (by kernel_rfl) ?_
        repeat (first | go_big_quiet_step (fail) | quiet_step (fail))
        refine wpQuiet_nil ?_
        rintro _ ⟨pq, rfl⟩
        have hB2 := hide (Below.trans' hB0.out (Below.trans' hB.out pq.old))
        clear p0 p1 hw1
        go_wp2_with fail
        go_ret
        exact ⟨by rw [hn.out]; first | done | rfl, hB2.out⟩
    · obtain rfl : k = X.length := by omega
      have hn : Hid (R = true) := hide (by rw [hE.out, all_drop_end])
      clear hE hb
      go_wp2_with fail
      go_ret
      exact ⟨by rw [hn.out]; first | done | rfl, Below.trans' hB0.out hB.out⟩

set_option maxRecDepth 100000 in
set_option maxHeartbeats 1000000 in
theorem specIsNet_any (n : Int) (a : Option Addr) (c : Nat) (X : List (List Int)) (W : World) (ha : RowsAt W a X) (hs : Small X) :
    Calls Try.prog 25 #[.agg #[.int .i64 n, .slice a X.length c]] W (RetB (.bool (netB n X)) W) := by
  obtain ⟨W0, hW0⟩ : ∃ W0, W0 = W.alloc (.cells #[.int .i64 n, .slice a X.length c] 45) := ⟨_, rfl⟩
  have hB0 : Hid (Below W.heap.size W W0) := by rw [hW0]; exact hide (below_alloc _ _)
  have hX0 : Hid (NetIn W0 W.heap.size n a X.length c) := by rw [hW0]; exact hide (netIn_new _ _ _ _ _ _)
  have HC := hide (l10Is_any n a c X W0 (ha.keep hB0.out) hs)
  obtain ⟨R, hR⟩ : ∃ R, R = netB n X := ⟨_, rfl⟩
  rw [← hR] at HC ⊢
  obtain ⟨q0, q1⟩ := hX0.out
  clear hR ha hs
  go_enter Try.func25, Try.ntmps25
  go_wp2_with fail
  rw [← hW0]
  clear hW0
  (try go_wp2_with fail)
  refine HC.out.mono ?_
  rintro e w1 ⟨rfl, hb1⟩
  have hB1 := hide (Below.trans' hB0.out hb1)
  clear hb1 q0 q1
  go_wp2_with fail
  go_ret
  exact ⟨rfl, hB1.out⟩
end Go.Proofs.Ytkekanllfpdeaab
