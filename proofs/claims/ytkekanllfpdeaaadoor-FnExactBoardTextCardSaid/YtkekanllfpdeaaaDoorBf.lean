/-
  IsBoard: the model's text.
-/
import Derived.Test.YtkekanllfpdeaaaDoorBe
namespace Go.Proofs.YtkekanllfpdeaaaDoor
open Go.RowKit
set_option linter.unusedVariables false

def loAt (cs : List Int) : Nat → Int
  | 0 => 1
  | j + 1 => cs.getD j 0 + 1
theorem loAt_succ {cs : List Int} {k : Nat} {z : Int} (h : cs[k]? = some z) : loAt cs (k + 1) = z + 1 := by simp [loAt, h]

set_option maxRecDepth 100000 in
set_option maxHeartbeats 4000000 in
theorem l07Is_any (n : Int) (a : Option Addr) (c : Nat) (cs : List Int) (W : World) (ha : IntsAt W a cs) (hl : cs.length ≤ 9223372036854775807) :
    Calls Tryd.prog 56 #[.agg #[.int .i64 n, .slice a cs.length c]] W (RetB (.bool (okB n cs)) W) := by
  obtain ⟨W0, hW0⟩ : ∃ W0, W0 = W.alloc (.cells #[.int .i64 n, .slice a cs.length c] 28) := ⟨_, rfl⟩
  have hB0 : Hid (Below W.heap.size W W0) := by rw [hW0]; exact hide (below_alloc _ _)
  have hX0 : Hid (HexIn W0 W.heap.size n a cs.length c) := by rw [hW0]; exact hide (hexIn_new _ _ _ _ _ _)
  have hA0 := hide (ha.keep hB0.out)
  obtain ⟨r, hr⟩ : ∃ r, r = okB n cs := ⟨_, rfl⟩
  rw [← hr]
  have HR := hide hr
  obtain ⟨c0, c1⟩ := hX0.out
  clear ha hr
  cases hs : inn n 1 16
  · have hf : Hid (r = false) := hide (by rw [HR.out, okB_one (inn_no hs)])
    have HS := hide hs
    clear hs
    go_enter Tryd.func56, Tryd.ntmps56
    go_wp2_with fail
    rw [← hW0]
    clear hW0
    refine (inn_is _ _ _ HS.out _).mono ?_
    rintro e w1 ⟨rfl, hb1⟩
    have hB1 := hide (Below.trans' hB0.out hb1)
    clear hb1
    go_wp2_with fail
    go_ret
    exact ⟨by rw [hf.out]; rfl, hB1.out⟩
  · obtain ⟨n1, n16⟩ := inn_yes hs
    have HS := hide hs
    by_cases hk : cs.length ≤ 100
    · obtain ⟨m, hm⟩ : ∃ m, m = allI n := ⟨_, rfl⟩
      have hf : Hid (ascB 1 m cs = r) := hide (by rw [HR.out, okB_rest ⟨n1, n16⟩ hk, hm])
      have hm2 : (2 : Int) ^ n.toNat - 1 = m := hm.symm
      have hm16 : 0 ≤ m ∧ m < 65536 := by rw [hm]; exact allI_16 ⟨n1, n16⟩
      have hpw := shl_16 n16
      have hku := u64_small (k := n) (by omega) (by omega)
      have HM := hide (And.intro hm2 hpw)
      have hgt : ¬ ((100 : Int) < (cs.length : Int)) := by omega
      clear hs hm hm2 hpw
      go_enter Tryd.func56, Tryd.ntmps56
      go_wp2_with fail
      rw [← hW0]
      clear hW0
      refine (inn_is _ _ _ HS.out _).mono ?_
      rintro e w1 ⟨rfl, hb1⟩
      have hB1 := hide (Below.trans' hB0.out hb1)
      have hX1 := hide (hX0.out.keep hb1)
      have hA1 := hide (hA0.out.keep hb1)
      clear hb1 c0 c1
      obtain ⟨c0, c1⟩ := hX1.out
      go_wp2_with fail
      clear c0 c1 hgt
      go_loopw [3] (fun i wr => ∃ k : Nat, k ≤ cs.length ∧ i = .int .i64 k ∧ Hid (ascB (loAt cs k) m (cs.drop k) = r) ∧ 1 ≤ loAt cs k ∧ Below w1.heap.size w1 wr) (fun i _ => cs.length - (intOf i).toNat)
      case atStart => exact ⟨0, Nat.zero_le _, rfl, hide (by rw [List.drop_zero]; exact hf.out), Int.le_refl _, Below.refl _ _⟩
      case round =>
        obtain ⟨k, hkl, rfl, hS, hlo, hB⟩ := hrel
        obtain ⟨c0, c1⟩ := hX1.out.keep hB
        have HB := hide hB
        by_cases hlt : k < cs.length
        · obtain ⟨b, off, z, rfl, hcell, hz⟩ := (hA1.out.keep hB).one hlt
          have hD : Hid (ascB (loAt cs k) m (z :: cs.drop (k + 1)) = r) := hide (by rw [← drop_of_get hz.out]; exact hS.out)
          have q0 : ∀ p : Past wr, p.to.cell? ⟨W.heap.size, 0, none⟩ = some (.int .i64 n) := fun p => p.cell c0
          have q1 : ∀ p : Past wr, p.to.cell? ⟨W.heap.size, 1, none⟩ = some (.slice (some ⟨b, off, none⟩) cs.length c) := fun p => p.cell c1
          have qz : ∀ p : Past wr, p.to.cell? ⟨b, off + k, none⟩ = some (.int .i64 z) := fun p => p.cell hcell
          obtain ⟨l, hlq⟩ : ∃ l, l = loAt cs k := ⟨_, rfl⟩
          rw [← hlq] at hD hlo
          have HL := hide hlq
          have HLO := hide hlo
          obtain ⟨hm2, hpw⟩ := HM.out
          clear hS hB hlq c0 hcell
          cases hp : inn z 1 m
          · have hn : Hid (r = false) := hide (by rw [← hD.out, ascB_no (by have := inn_no hp; have := HLO.out; omega)])
            have HP := hide hp
            clear hp hlo
            go_wp2_with fail
            refine wp_region_past (by kernel_rfl) (by kernel_rfl) ?_
            repeat (first | go_big_quiet_step ((go_at_call 110; (with_reducible exact ret_past (inn_is _ _ _ HP.out _)))) | quiet_step ((go_at_call 110; (with_reducible exact ret_past (inn_is _ _ _ HP.out _)))))
            refine wpQuiet_nil ?_
            rintro _ ⟨pq, rfl⟩
            have hB2 := hide (Below.trans' hB1.out (Below.trans' HB.out pq.old))
            clear q0 q1 qz
            go_wp2_with fail
            go_ret
            exact ⟨by rw [hn.out]; rfl, hB2.out⟩
          · obtain ⟨z1, z2⟩ := inn_yes hp
            have HP := hide hp
            have HLN := hide (loAt_succ hz.out)
            by_cases hk0 : k = 0
            · have hl1 : l = 1 := by rw [HL.out, hk0]; rfl
              have hn : Hid (ascB (loAt cs (k + 1)) m (cs.drop (k + 1)) = r) := hide (by rw [← hD.out, HLN.out, ascB_go (by omega) (by omega)])
              have hn1 : Hid (1 ≤ loAt cs (k + 1)) := hide (by rw [HLN.out]; omega)
              have hd : decide (0 < k) = false := decide_eq_false (by omega)
              clear hp hlo z2 hl1 hk0
              go_wp2_with fail
              refine wp_region_past (by kernel_rfl) (by kernel_rfl) ?_
              repeat (first | go_big_quiet_step ((go_at_call 110; (with_reducible exact ret_past (inn_is _ _ _ HP.out _)))) | quiet_step ((go_at_call 110; (with_reducible exact ret_past (inn_is _ _ _ HP.out _)))))
              refine wpQuiet_nil ?_
              rintro _ ⟨pq, rfl⟩
              have hB2 := hide (Below.trans' HB.out pq.old)
              clear q0 q1 qz c1 hd hm2 hpw
              go_wp2_with fail
              go_roundw
              case rel => exact ⟨k + 1, by omega, by go_num, hn, hn1.out, hB2.out⟩
              case measure => simp [intOf]; omega
            · obtain ⟨j, hj⟩ : ∃ j, k = j + 1 := ⟨k - 1, by omega⟩
              obtain ⟨b', off', y, hadr, hcy, hy⟩ := (hA1.out.keep HB.out).one (k := j) (by omega)
              simp only [Option.some.injEq, Addr.mk.injEq] at hadr
              obtain ⟨rfl, rfl, _⟩ := hadr
              have hly : l = y + 1 := by rw [HL.out, hj]; exact loAt_succ hy.out
              have qy : ∀ p : Past wr, p.to.cell? ⟨b, off + j, none⟩ = some (.int .i64 y) := fun p => p.cell hcy
              have hd : decide (0 < k) = true := decide_eq_true (by omega)
              have hkj : (k : Int) - 1 = (j : Int) := by omega
              have hjl : (j : Int) < (cs.length : Int) := by omega
              have hj0 : (0 : Int) ≤ (j : Int) := by omega
              by_cases hzy : z ≤ y
              · have hn : Hid (r = false) := hide (by rw [← hD.out, ascB_no (by omega)])
                have hdz : decide (z ≤ y) = true := decide_eq_true hzy
                clear hp hlo z2 hly hcy hj hk0
                go_wp2_with fail
                refine wp_region_past (by kernel_rfl) (by kernel_rfl) ?_
                repeat (first | go_big_quiet_step ((go_at_call 110; (with_reducible exact ret_past (inn_is _ _ _ HP.out _)))) | quiet_step ((go_at_call 110; (with_reducible exact ret_past (inn_is _ _ _ HP.out _)))))
                refine wpQuiet_nil ?_
                rintro _ ⟨pq, rfl⟩
                have hB2 := hide (Below.trans' hB1.out (Below.trans' HB.out pq.old))
                clear q0 q1 qz qy
                go_wp2_with fail
                go_ret
                exact ⟨by rw [hn.out]; rfl, hB2.out⟩
              · have hn : Hid (ascB (loAt cs (k + 1)) m (cs.drop (k + 1)) = r) := hide (by rw [← hD.out, HLN.out, ascB_go (by omega) (by omega)])
                have hn1 : Hid (1 ≤ loAt cs (k + 1)) := hide (by rw [HLN.out]; omega)
                have hdz : decide (z ≤ y) = false := decide_eq_false hzy
                clear hp hlo z2 hly hcy hj hk0
                go_wp2_with fail
                refine wp_region_past (by kernel_rfl) (by kernel_rfl) ?_
                repeat (first | go_big_quiet_step ((go_at_call 110; (with_reducible exact ret_past (inn_is _ _ _ HP.out _)))) | quiet_step ((go_at_call 110; (with_reducible exact ret_past (inn_is _ _ _ HP.out _)))))
                refine wpQuiet_nil ?_
                rintro _ ⟨pq, rfl⟩
                have hB2 := hide (Below.trans' HB.out pq.old)
                clear q0 q1 qz qy c1 hd hm2 hpw hkj hjl hj0 hdz
                go_wp2_with fail
                go_roundw
                case rel => exact ⟨k + 1, by omega, by go_num, hn, hn1.out, hB2.out⟩
                case measure => simp [intOf]; omega
        · have hn : Hid (r = true) := hide (by rw [← hS.out, List.drop_eq_nil_of_le (by omega)]; rfl)
          clear hS hB hlo
          go_wp2_with fail
          go_ret
          exact ⟨by rw [hn.out]; rfl, Below.trans' hB1.out HB.out⟩
    · have hf : Hid (r = false) := hide (by rw [HR.out, okB_two hk])
      have hgt : (100 : Int) < (cs.length : Int) := by omega
      clear hs
      go_enter Tryd.func56, Tryd.ntmps56
      go_wp2_with fail
      rw [← hW0]
      clear hW0
      refine (inn_is _ _ _ HS.out _).mono ?_
      rintro e w1 ⟨rfl, hb1⟩
      have hB1 := hide (Below.trans' hB0.out hb1)
      have hX1 := hide (hX0.out.keep hb1)
      clear hb1 c0 c1
      obtain ⟨c0, c1⟩ := hX1.out
      go_wp2_with fail
      go_ret
      exact ⟨by rw [hf.out]; rfl, hB1.out⟩
theorem l07Is_is {b : Bool} {n : Int} {a : Option Addr} {c : Nat} {cs : List Int} (h : okB n cs = b) {W : World} (ha : IntsAt W a cs) (hl : cs.length ≤ 1048576) :
    Calls Tryd.prog 56 #[.agg #[.int .i64 n, .slice a cs.length c]] W (RetB (.bool b) W) := by rw [← h]; exact l07Is_any n a c cs W ha (by omega)
end Go.Proofs.YtkekanllfpdeaaaDoor
