/-
  IsSea: the model's text.
-/
import Derived.Test.YtkekanllfpdeaabSe
namespace Go.Proofs.Ytkekanllfpdeaab
open Go.RowKit
set_option linter.unusedVariables false

set_option maxRecDepth 100000 in
set_option maxHeartbeats 4000000 in
theorem l09Is_any (wd hi : Int) (a : Option Addr) (c : Nat) (cs : List Int) (W : World) (ha : IntsAt W a cs) (hl : cs.length ≤ 9223372036854775807) :
    Calls Try.prog 36 #[.agg #[.int .i64 wd, .int .i64 hi, .slice a cs.length c]] W (RetB (.bool (seaB wd hi cs)) W) := by
  obtain ⟨W0, hW0⟩ : ∃ W0, W0 = W.alloc (.cells #[.int .i64 wd, .int .i64 hi, .slice a cs.length c] 29) := ⟨_, rfl⟩
  have hB0 : Hid (Below W.heap.size W W0) := by rw [hW0]; exact hide (below_alloc _ _)
  have hX0 : Hid (SeaIn W0 W.heap.size wd hi a cs.length c) := by rw [hW0]; exact hide (seaIn_new _ _ _ _ _ _ _)
  have hA0 := hide (ha.keep hB0.out)
  obtain ⟨c0, c1, c2⟩ := hX0.out
  clear ha
  cases hw : inn wd 1 5
  · have hfin : Hid (seaB wd hi cs = false) := hide (by simp [seaB, hw])
    have HW := hide hw
    clear hw
    go_enter Try.func36, Try.ntmps36
    go_wp2_with fail
    rw [← hW0]
    clear hW0
    (try go_wp2_with fail)
    refine (innS_is HW.out _).mono ?_
    rintro e w1 ⟨rfl, rfl⟩
    go_wp2
    go_ret
    exact ⟨ret_bool hfin.out.symm, hB0.out⟩
  cases hh : inn hi 1 5
  · have hfin : Hid (seaB wd hi cs = false) := hide (by simp [seaB, hh])
    have HW := hide hw
    have HH := hide hh
    clear hw hh
    go_enter Try.func36, Try.ntmps36
    go_wp2_with fail
    rw [← hW0]
    clear hW0
    (try go_wp2_with fail)
    refine (innS_is HW.out _).mono ?_
    rintro e w1 ⟨rfl, rfl⟩
    go_wp2_with fail
    refine (innS_is HH.out _).mono ?_
    rintro e w1 ⟨rfl, rfl⟩
    go_wp2
    go_ret
    exact ⟨ret_bool hfin.out.symm, hB0.out⟩
  cases hln : inn (cs.length : Int) 1 3
  · have hfin : Hid (seaB wd hi cs = false) := hide (by have := inn_no hln; simp [seaB]; omega)
    have HW := hide hw
    have HH := hide hh
    have HN := hide hln
    clear hw hh hln
    go_enter Try.func36, Try.ntmps36
    go_wp2_with fail
    rw [← hW0]
    clear hW0
    (try go_wp2_with fail)
    refine (innS_is HW.out _).mono ?_
    rintro e w1 ⟨rfl, rfl⟩
    go_wp2_with fail
    refine (innS_is HH.out _).mono ?_
    rintro e w1 ⟨rfl, rfl⟩
    go_wp2_with fail
    refine (innS_is HN.out _).mono ?_
    rintro e w1 ⟨rfl, rfl⟩
    go_wp2
    go_ret
    exact ⟨ret_bool hfin.out.symm, hB0.out⟩
  obtain ⟨hl1, hl3⟩ := inn_yes hln
  have hfin : Hid (seaB wd hi cs = okFrom 5 cs) := hide (by have e1 : decide (1 ≤ cs.length) = true := decide_eq_true (by omega); have e2 : decide (cs.length ≤ 3) = true := decide_eq_true (by omega); unfold seaB; rw [hw, hh, e1, e2]; rfl)
  have HW := hide hw
  have HH := hide hh
  have HN := hide hln
  clear hw hh hln
  go_enter Try.func36, Try.ntmps36
  go_wp2_with fail
  rw [← hW0]
  clear hW0
  (try go_wp2_with fail)
  refine (innS_is HW.out _).mono ?_
  rintro e w1 ⟨rfl, rfl⟩
  go_wp2_with fail
  refine (innS_is HH.out _).mono ?_
  rintro e w1 ⟨rfl, rfl⟩
  go_wp2_with fail
  refine (innS_is HN.out _).mono ?_
  rintro e w1 ⟨rfl, rfl⟩
  go_wp2_with fail
  have hX0l : Hid (SeaIn W0 W.heap.size wd hi a cs.length c) := hide ⟨c0, c1, c2⟩
  clear c0 c1 c2
  go_loopw [3] (fun i wr => ∃ (k : Nat), k ≤ cs.length ∧ i = .int .i64 k ∧ lst cs k ≤ 5 ∧ Hid (okFrom (lst cs k) (cs.drop k) = okFrom 5 cs) ∧ Below W0.heap.size W0 wr) (fun i _ => cs.length - (intOf i).toNat)
  case atStart => exact ⟨0, Nat.zero_le _, rfl, Int.le_refl _, hide rfl, Below.refl _ _⟩
  case round =>
    obtain ⟨k, hk, rfl, hl5, hO, hB⟩ := hrel
    obtain ⟨c0, c1, c2⟩ := hX0l.out.keep hB
    have HB := hide hB
    by_cases hlt : k < cs.length
    · obtain ⟨b1, o1, z, rfl, h1, hz⟩ := (hA0.out.keep hB).one hlt
      have hO' : Hid (okFrom (lst cs k) (z :: cs.drop (k + 1)) = okFrom 5 cs) := by have := hO.out; rw [drop_of_get hz.out] at this; exact hide this
      have q2 : ∀ p : Past wr, p.to.cell? ⟨W.heap.size, 2, none⟩ = some (.slice (some ⟨b1, o1, none⟩) cs.length c) := fun p => p.cell c2
      have qz : ∀ p : Past wr, p.to.cell? ⟨b1, o1 + k, none⟩ = some (.int .i64 z) := fun p => p.cell h1
      clear hO hB
      cases hs : inn z 1 5
      · have hno : Hid (okFrom 5 cs = false) := hide (by rw [← hO'.out]; exact okFrom_no hl5 hs)
        have HS := hide hs
        clear hs hO'
        go_wp2_with fail
        refine wp_region_past (by kernel_rfl) (by kernel_rfl) ?_
        repeat (first | go_big_quiet_step ((go_at_call 52; (with_reducible exact ret_past (inn_is _ _ _ HS.out _)))) | quiet_step ((go_at_call 52; (with_reducible exact ret_past (inn_is _ _ _ HS.out _)))))
        refine wpQuiet_nil ?_
        rintro _ ⟨pq, rfl⟩
        have hB2 := hide (Below.trans' hB0.out (Below.trans' HB.out pq.old))
        clear q2 qz
        go_wp2_with fail
        go_ret
        exact ⟨ret_bool (by rw [hfin.out, hno.out]), hB2.out⟩
      · have hz5 := inn_yes hs
        have hls := lst_succ hz.out
        by_cases hk0 : k = 0
        · have hnx : Hid (okFrom (lst cs (k + 1)) (cs.drop (k + 1)) = okFrom 5 cs) := hide (by rw [hls, ← hO'.out, okFrom_go hs (by rw [hk0]; show z ≤ 5; omega)])
          have HS := hide hs
          have HLS := hide (show lst cs (k + 1) ≤ 5 by rw [hls]; omega)
          have hd : decide (0 < k) = false := decide_eq_false (by omega)
          clear hs hO' hls hz5 hk0 hl5
          go_wp2_with fail
          refine wp_region_past (by kernel_rfl) (by kernel_rfl) ?_
          repeat (first | go_big_quiet_step ((go_at_call 52; (with_reducible exact ret_past (inn_is _ _ _ HS.out _)))) | quiet_step ((go_at_call 52; (with_reducible exact ret_past (inn_is _ _ _ HS.out _)))))
          refine wpQuiet_nil ?_
          rintro _ ⟨pq, rfl⟩
          have hB2 := hide (Below.trans' HB.out pq.old)
          clear q2 qz c0 c1 c2 hd h1
          go_wp2_with fail
          go_roundw
          case rel => exact ⟨k + 1, by omega, by go_num, HLS.out, hnx, hB2.out⟩
          case measure => simp [intOf]; omega
        · obtain ⟨j, hj⟩ : ∃ j, k = j + 1 := ⟨k - 1, by omega⟩
          obtain ⟨b2, o2, y, he2, h2, hy⟩ := (hA0.out.keep HB.out).one (k := j) (by omega)
          simp only [Option.some.injEq, Addr.mk.injEq] at he2
          obtain ⟨rfl, rfl, _⟩ := he2
          have qy : ∀ p : Past wr, p.to.cell? ⟨b1, o1 + j, none⟩ = some (.int .i64 y) := fun p => p.cell h2
          have hyl : lst cs k = y := by rw [hj]; exact lst_succ hy.out
          have hd : decide (0 < k) = true := decide_eq_true (by omega)
          have hkj : (k : Int) - 1 = (j : Int) := by omega
          have hjl : j < cs.length := by omega
          by_cases hgt : y < z
          · have hno : Hid (okFrom 5 cs = false) := hide (by rw [← hO'.out, hyl]; exact okFrom_gt hgt)
            have HS := hide hs
            clear hs hO' hls hz5 hyl hl5 hj
            go_wp2_with fail
            refine wp_region_past (by kernel_rfl) (by kernel_rfl) ?_
            repeat (first | go_big_quiet_step ((go_at_call 52; (with_reducible exact ret_past (inn_is _ _ _ HS.out _)))) | quiet_step ((go_at_call 52; (with_reducible exact ret_past (inn_is _ _ _ HS.out _)))))
            refine wpQuiet_nil ?_
            rintro _ ⟨pq, rfl⟩
            have hB2 := hide (Below.trans' hB0.out (Below.trans' HB.out pq.old))
            clear q2 qz qy
            go_wp2_with fail
            go_ret
            exact ⟨ret_bool (by rw [hfin.out, hno.out]), hB2.out⟩
          · have hnx : Hid (okFrom (lst cs (k + 1)) (cs.drop (k + 1)) = okFrom 5 cs) := hide (by rw [hls, ← hO'.out, okFrom_go hs (by rw [hyl]; omega)])
            have HS := hide hs
            have HLS := hide (show lst cs (k + 1) ≤ 5 by rw [hls]; omega)
            clear hs hO' hls hz5 hyl hl5 hj
            go_wp2_with fail
            refine wp_region_past (by kernel_rfl) (by kernel_rfl) ?_
            repeat (first | go_big_quiet_step ((go_at_call 52; (with_reducible exact ret_past (inn_is _ _ _ HS.out _)))) | quiet_step ((go_at_call 52; (with_reducible exact ret_past (inn_is _ _ _ HS.out _)))))
            refine wpQuiet_nil ?_
            rintro _ ⟨pq, rfl⟩
            have hB2 := hide (Below.trans' HB.out pq.old)
            clear q2 qz qy c0 c1 c2 hd h1 h2 hkj
            go_wp2_with fail
            go_roundw
            case rel => exact ⟨k + 1, by omega, by go_num, HLS.out, hnx, hB2.out⟩
            case measure => simp [intOf]; omega
    · obtain rfl : k = cs.length := by omega
      clear hB
      go_wp2
      go_ret
      refine ⟨ret_bool ?_, Below.trans' hB0.out HB.out⟩
      rw [hfin.out, ← hO.out, List.drop_length]
      rfl
theorem l09Is_is {b : Bool} {wd hi : Int} {a : Option Addr} {c : Nat} {cs : List Int} {W : World} (h : seaB wd hi cs = b) (ha : IntsAt W a cs) (hl : cs.length ≤ 9223372036854775807) : Calls Try.prog 36 #[.agg #[.int .i64 wd, .int .i64 hi, .slice a cs.length c]] W (RetB (.bool b) W) := by
  rw [← h]; exact l09Is_any wd hi a c cs W ha hl
theorem implIsSea_is {b : Bool} {wd hi : Int} {a : Option Addr} {c : Nat} {cs : List Int} {W : World} (h : seaB wd hi cs = b) (ha : IntsAt W a cs) (hl : cs.length ≤ 1048576) : Calls Try.prog 38 #[.agg #[.int .i64 wd, .int .i64 hi, .slice a cs.length c]] W (RetB (.bool b) W) := by
  rw [← h]; exact implIsSea_any wd hi a c cs W ha hl
end Go.Proofs.Ytkekanllfpdeaab
