/-
  Col and snort: AreJoined, both texts.
-/
import Derived.Test.YtdimmlpnfghndaaFo
namespace Go.Proofs.Ytdimmlpnfghndaa
open Go.RowKit
set_option linter.unusedVariables false

def ptB (n i : Int) : Bool := decide (0 ≤ i) && decide (i < n)
set_option maxHeartbeats 400000 in
theorem isPoint_any (n L R B i : Int) (W : World) : Calls Try.prog 46 #[.agg #[.int .i64 n, .int .i64 L, .int .i64 R, .int .i64 B], .int .i64 i] W (RetB (.bool (ptB n i)) W) := by
  by_cases h : 0 ≤ i
  · have hd : decide (0 ≤ i) = true := decide_eq_true h
    have hfin : Hid (ptB n i = decide (i < n)) := hide (by simp [ptB, h])
    go_enter Try.func46, Try.ntmps46
    go_wp2
    go_ret
    exact ⟨ret_bool hfin.out.symm, below_alloc _ _⟩
  · have hd : decide (0 ≤ i) = false := decide_eq_false h
    have hfin : Hid (ptB n i = false) := hide (by simp [ptB]; omega)
    go_enter Try.func46, Try.ntmps46
    go_wp2
    go_ret
    exact ⟨ret_bool hfin.out.symm, below_alloc _ _⟩
theorem isPoint_is {n i : Int} {b : Bool} (h : ptB n i = b) (L R B : Int) (W : World) : Calls Try.prog 46 #[.agg #[.int .i64 n, .int .i64 L, .int .i64 R, .int .i64 B], .int .i64 i] W (RetB (.bool b) W) := by rw [← h]; exact isPoint_any n L R B i W
theorem ptB_inn (n i : Int) : ptB n i = inn i 0 (n - 1) := by
  simp only [ptB, inn]
  congr 1
  apply decide_eq_decide.2
  omega

set_option maxHeartbeats 1000000 in
theorem isJoined_lt (n L R B i j : Int) (h0 : 0 ≤ L) (h1 : L < 268435456) (hi : 0 ≤ i) (hij : i < j) (hj : j < 8) (W : World) : Calls Try.prog 47 #[.agg #[.int .i64 n, .int .i64 L, .int .i64 R, .int .i64 B], .int .i64 i, .int .i64 j] W (RetB (.bool (drawn L (lp i j))) W) := by
  obtain ⟨l0, l1⟩ := lp_lt hi hij hj
  have hd := hide (dg_walkL (k := lp i j) h0 h1)
  have hB0 := hide (below_alloc W (.cells #[.int .i64 n, .int .i64 L, .int .i64 R, .int .i64 B] 25))
  obtain ⟨c0, c1, c2, c3⟩ := (fieldIn_new W n L R B 25).past
  go_enter Try.func47, Try.ntmps47
  go_wp2
  refine wp_region_past (by kernel_rfl) (by kernel_rfl) ?_
  repeat (first | go_big_quiet_step ((go_at_call 43; (with_reducible exact ret_past (linePlace_any _ _ (by omega) (by omega) (by omega) (by omega) _)))) | quiet_step ((go_at_call 43; (with_reducible exact ret_past (linePlace_any _ _ (by omega) (by omega) (by omega) (by omega) _)))))
  refine wpQuiet_nil ?_
  rintro _ ⟨pq, rfl⟩
  go_wp2
  go_ret
  exact ⟨ret_bool (by rw [hd.out]; rfl), Below.trans' hB0.out pq.old⟩
set_option maxHeartbeats 1000000 in
theorem isJoined_gt (n L R B i j : Int) (h0 : 0 ≤ L) (h1 : L < 268435456) (hi : 0 ≤ j) (hij : j < i) (hj : i < 8) (W : World) : Calls Try.prog 47 #[.agg #[.int .i64 n, .int .i64 L, .int .i64 R, .int .i64 B], .int .i64 i, .int .i64 j] W (RetB (.bool (drawn L (lp j i))) W) := by
  obtain ⟨l0, l1⟩ := lp_lt hi hij hj
  have hd := hide (dg_walkL (k := lp j i) h0 h1)
  have hB0 := hide (below_alloc W (.cells #[.int .i64 n, .int .i64 L, .int .i64 R, .int .i64 B] 25))
  obtain ⟨c0, c1, c2, c3⟩ := (fieldIn_new W n L R B 25).past
  go_enter Try.func47, Try.ntmps47
  go_wp2
  refine wp_region_past (by kernel_rfl) (by kernel_rfl) ?_
  repeat (first | go_big_quiet_step ((go_at_call 43; (with_reducible exact ret_past (linePlace_any _ _ (by omega) (by omega) (by omega) (by omega) _)))) | quiet_step ((go_at_call 43; (with_reducible exact ret_past (linePlace_any _ _ (by omega) (by omega) (by omega) (by omega) _)))))
  refine wpQuiet_nil ?_
  rintro _ ⟨pq, rfl⟩
  go_wp2
  go_ret
  exact ⟨ret_bool (by rw [hd.out]; rfl), Below.trans' hB0.out pq.old⟩
theorem isJoined_any (n L R B i j : Int) (h0 : 0 ≤ L) (h1 : L < 268435456) (hi : 0 ≤ i) (hj : 0 ≤ j) (hi8 : i < 8) (hj8 : j < 8) (hij : i ≠ j) (W : World) : Calls Try.prog 47 #[.agg #[.int .i64 n, .int .i64 L, .int .i64 R, .int .i64 B], .int .i64 i, .int .i64 j] W (RetB (.bool (jn L i j)) W) := by
  by_cases h : i < j
  · rw [jn_lt h]; exact isJoined_lt n L R B i j h0 h1 hi h hj8 W
  · rw [jn_comm, jn_lt (by omega)]; exact isJoined_gt n L R B i j h0 h1 hj (by omega) hi8 W

set_option maxHeartbeats 1000000 in
theorem specJoined_lt (n L R B i j : Int) (h0 : 0 ≤ L) (h1 : L < 268435456) (hi : 0 ≤ i) (hij : i < j) (hj : j < 8) (W : World) : Calls Try.prog 45 #[.agg #[.int .i64 n, .int .i64 L, .int .i64 R, .int .i64 B], .int .i64 i, .int .i64 j] W (RetB (.bool (drawn L (lp i j))) W) := by
  obtain ⟨l0, l1⟩ := lp_lt hi hij hj
  obtain ⟨m0, m1, m2, m3⟩ := lp_nums (j := j) (by omega) (by omega)
  obtain ⟨k, hk⟩ : ∃ k, k = lp i j := ⟨_, rfl⟩
  rw [← hk] at l0 l1 ⊢
  have hq : wrap64 ((j * (j - 1)).tdiv 2) = j * (j - 1) / 2 := by rw [Int.tdiv_eq_ediv_of_nonneg m0]; exact wrap64_small m2 (by omega)
  have hk2 : j * (j - 1) / 2 + i = k := by rw [hk]; rfl
  have hu := u64_small l0 (by omega)
  have hd := hide (dg_walkL (k := k) h0 h1)
  clear hk
  go_enter Try.func45, Try.ntmps45
  go_wp2
  go_ret
  exact ⟨ret_bool (by rw [hd.out]; rfl), below_alloc _ _⟩
set_option maxHeartbeats 1000000 in
theorem specJoined_gt (n L R B i j : Int) (h0 : 0 ≤ L) (h1 : L < 268435456) (hi : 0 ≤ j) (hij : j < i) (hj : i < 8) (W : World) : Calls Try.prog 45 #[.agg #[.int .i64 n, .int .i64 L, .int .i64 R, .int .i64 B], .int .i64 i, .int .i64 j] W (RetB (.bool (drawn L (lp j i))) W) := by
  obtain ⟨l0, l1⟩ := lp_lt hi hij hj
  obtain ⟨m0, m1, m2, m3⟩ := lp_nums (j := i) (by omega) (by omega)
  obtain ⟨k, hk⟩ : ∃ k, k = lp j i := ⟨_, rfl⟩
  rw [← hk] at l0 l1 ⊢
  have hq : wrap64 ((i * (i - 1)).tdiv 2) = i * (i - 1) / 2 := by rw [Int.tdiv_eq_ediv_of_nonneg m0]; exact wrap64_small m2 (by omega)
  have hk2 : i * (i - 1) / 2 + j = k := by rw [hk]; rfl
  have hu := u64_small l0 (by omega)
  have hd := hide (dg_walkL (k := k) h0 h1)
  clear hk
  go_enter Try.func45, Try.ntmps45
  go_wp2
  go_ret
  exact ⟨ret_bool (by rw [hd.out]; rfl), below_alloc _ _⟩
theorem specJoined_any (n L R B i j : Int) (h0 : 0 ≤ L) (h1 : L < 268435456) (hi : 0 ≤ i) (hj : 0 ≤ j) (hi8 : i < 8) (hj8 : j < 8) (hij : i ≠ j) (W : World) : Calls Try.prog 45 #[.agg #[.int .i64 n, .int .i64 L, .int .i64 R, .int .i64 B], .int .i64 i, .int .i64 j] W (RetB (.bool (jn L i j)) W) := by
  by_cases h : i < j
  · rw [jn_lt h]; exact specJoined_lt n L R B i j h0 h1 hi h hj8 W
  · rw [jn_comm, jn_lt (by omega)]; exact specJoined_gt n L R B i j h0 h1 hj (by omega) hi8 W

/-! ### AreJoined -/
def jnR (n L R B i j : Int) : Bool × Int := if okF n L R B = true then if ptB n i = true ∧ ptB n j = true ∧ i ≠ j then (jn L i j, 0) else (false, 2) else (false, 1)
def biV (r : Bool × Int) : Value := .tuple #[.bool r.1, .int .i64 r.2]
theorem ptB_yes {n i : Int} (h : ptB n i = true) : 0 ≤ i ∧ i < n := by simpa [ptB] using h

set_option maxHeartbeats 2000000 in
theorem implJoinedR_any (n L R B i j : Int) (W : World) : Calls Try.prog 18 #[.agg #[.int .i64 n, .int .i64 L, .int .i64 R, .int .i64 B], .int .i64 i, .int .i64 j] W (RetB (biV (jnR n L R B i j)) W) := by
  have hB0 := hide (below_alloc W (.cells #[.int .i64 n, .int .i64 L, .int .i64 R, .int .i64 B] 25))
  have hX0 := hide (fieldIn_new W n L R B 25)
  cases hok : okF n L R B
  · have HR : Hid (jnR n L R B i j = (false, 1)) := hide (by simp [jnR, hok])
    have HOK := hide hok
    clear hok
    rw [HR.out]
    go_enter Try.func18, Try.ntmps18
    go_wp2_with fail
    refine (implIs_is HOK.out _).mono ?_
    rintro e w1 ⟨rfl, hb1⟩
    (try clear X0 X1 X2 X3)
    have hX1 := hide (hX0.out.keep hb1)
    obtain ⟨X0, X1, X2, X3⟩ := hX1.out
    have hB1 := hide (Below.trans' hB0.out hb1)
    clear hb1
    go_wp2_with fail
    go_ret2
    exact ⟨rfl, hB1.out⟩
  · obtain ⟨k0, k1, k2, k3, _⟩ := okF_nums hok
    cases hi : ptB n i
    · have HR : Hid (jnR n L R B i j = (false, 2)) := hide (by simp [jnR, hok, hi])
      have HOK := hide hok
      have HI := hide hi
      clear hok hi
      rw [HR.out]
      go_enter Try.func18, Try.ntmps18
      go_wp2_with fail
      refine (implIs_is HOK.out _).mono ?_
      rintro e w1 ⟨rfl, hb1⟩
      (try clear X0 X1 X2 X3)
      have hX1 := hide (hX0.out.keep hb1)
      obtain ⟨X0, X1, X2, X3⟩ := hX1.out
      have hB1 := hide (Below.trans' hB0.out hb1)
      clear hb1
      go_wp2_with fail
      refine (isPoint_is HI.out _ _ _ _).mono ?_
      rintro e w2 ⟨rfl, hb2⟩
      (try clear X0 X1 X2 X3)
      have hX2 := hide (hX1.out.keep hb2)
      obtain ⟨X0, X1, X2, X3⟩ := hX2.out
      have hB2 := hide (Below.trans' hB1.out hb2)
      clear hb2
      go_wp2_with fail
      go_ret2
      exact ⟨rfl, hB2.out⟩
    · cases hj : ptB n j
      · have HR : Hid (jnR n L R B i j = (false, 2)) := hide (by simp [jnR, hok, hj])
        have HOK := hide hok
        have HI := hide hi
        have HJ := hide hj
        clear hok hi hj
        rw [HR.out]
        go_enter Try.func18, Try.ntmps18
        go_wp2_with fail
        refine (implIs_is HOK.out _).mono ?_
        rintro e w1 ⟨rfl, hb1⟩
        (try clear X0 X1 X2 X3)
        have hX1 := hide (hX0.out.keep hb1)
        obtain ⟨X0, X1, X2, X3⟩ := hX1.out
        have hB1 := hide (Below.trans' hB0.out hb1)
        clear hb1
        go_wp2_with fail
        refine (isPoint_is HI.out _ _ _ _).mono ?_
        rintro e w2 ⟨rfl, hb2⟩
        (try clear X0 X1 X2 X3)
        have hX2 := hide (hX1.out.keep hb2)
        obtain ⟨X0, X1, X2, X3⟩ := hX2.out
        have hB2 := hide (Below.trans' hB1.out hb2)
        clear hb2
        go_wp2_with fail
        refine (isPoint_is HJ.out _ _ _ _).mono ?_
        rintro e w3 ⟨rfl, hb3⟩
        (try clear X0 X1 X2 X3)
        have hX3 := hide (hX2.out.keep hb3)
        obtain ⟨X0, X1, X2, X3⟩ := hX3.out
        have hB3 := hide (Below.trans' hB2.out hb3)
        clear hb3
        go_wp2_with fail
        go_ret2
        exact ⟨rfl, hB3.out⟩
      · by_cases hij : i = j
        · have HR : Hid (jnR n L R B i j = (false, 2)) := hide (by simp [jnR, hok, hij])
          have hd : (i == j) = true := by simp [hij]
          have HOK := hide hok
          have HI := hide hi
          have HJ := hide hj
          clear hok hi hj hij
          rw [HR.out]
          go_enter Try.func18, Try.ntmps18
          go_wp2_with fail
          refine (implIs_is HOK.out _).mono ?_
          rintro e w1 ⟨rfl, hb1⟩
          (try clear X0 X1 X2 X3)
          have hX1 := hide (hX0.out.keep hb1)
          obtain ⟨X0, X1, X2, X3⟩ := hX1.out
          have hB1 := hide (Below.trans' hB0.out hb1)
          clear hb1
          go_wp2_with fail
          refine (isPoint_is HI.out _ _ _ _).mono ?_
          rintro e w2 ⟨rfl, hb2⟩
          (try clear X0 X1 X2 X3)
          have hX2 := hide (hX1.out.keep hb2)
          obtain ⟨X0, X1, X2, X3⟩ := hX2.out
          have hB2 := hide (Below.trans' hB1.out hb2)
          clear hb2
          go_wp2_with fail
          refine (isPoint_is HJ.out _ _ _ _).mono ?_
          rintro e w3 ⟨rfl, hb3⟩
          (try clear X0 X1 X2 X3)
          have hX3 := hide (hX2.out.keep hb3)
          obtain ⟨X0, X1, X2, X3⟩ := hX3.out
          have hB3 := hide (Below.trans' hB2.out hb3)
          clear hb3
          go_wp2_with fail
          go_ret2
          exact ⟨rfl, hB3.out⟩
        · have HR : Hid (jnR n L R B i j = (jn L i j, 0)) := hide (by simp [jnR, hok, hi, hj, hij])
          obtain ⟨i0, i1⟩ := ptB_yes hi
          obtain ⟨j0, j1⟩ := ptB_yes hj
          have hd : (i == j) = false := by simp [hij]
          have HOK := hide hok
          have HI := hide hi
          have HJ := hide hj
          have HN := hide hij
          clear hok hi hj hij
          rw [HR.out]
          go_enter Try.func18, Try.ntmps18
          go_wp2_with fail
          refine (implIs_is HOK.out _).mono ?_
          rintro e w1 ⟨rfl, hb1⟩
          (try clear X0 X1 X2 X3)
          have hX1 := hide (hX0.out.keep hb1)
          obtain ⟨X0, X1, X2, X3⟩ := hX1.out
          have hB1 := hide (Below.trans' hB0.out hb1)
          clear hb1
          go_wp2_with fail
          refine (isPoint_is HI.out _ _ _ _).mono ?_
          rintro e w2 ⟨rfl, hb2⟩
          (try clear X0 X1 X2 X3)
          have hX2 := hide (hX1.out.keep hb2)
          obtain ⟨X0, X1, X2, X3⟩ := hX2.out
          have hB2 := hide (Below.trans' hB1.out hb2)
          clear hb2
          go_wp2_with fail
          refine (isPoint_is HJ.out _ _ _ _).mono ?_
          rintro e w3 ⟨rfl, hb3⟩
          (try clear X0 X1 X2 X3)
          have hX3 := hide (hX2.out.keep hb3)
          obtain ⟨X0, X1, X2, X3⟩ := hX3.out
          have hB3 := hide (Below.trans' hB2.out hb3)
          clear hb3
          go_wp2_with fail
          refine (isJoined_any n L R B i j (by omega) (by omega) i0 j0 (by omega) (by omega) HN.out _).mono ?_
          rintro e w4 ⟨rfl, hb4⟩
          (try clear X0 X1 X2 X3)
          have hX4 := hide (hX3.out.keep hb4)
          obtain ⟨X0, X1, X2, X3⟩ := hX4.out
          have hB4 := hide (Below.trans' hB3.out hb4)
          clear hb4
          go_wp2_with fail
          go_ret2
          exact ⟨rfl, hB4.out⟩
set_option maxHeartbeats 2000000 in
theorem specJoinedR_any (n L R B i j : Int) (W : World) : Calls Try.prog 17 #[.agg #[.int .i64 n, .int .i64 L, .int .i64 R, .int .i64 B], .int .i64 i, .int .i64 j] W (RetB (biV (jnR n L R B i j)) W) := by
  have hB0 := hide (below_alloc W (.cells #[.int .i64 n, .int .i64 L, .int .i64 R, .int .i64 B] 25))
  have hX0 := hide (fieldIn_new W n L R B 25)
  cases hok : okF n L R B
  · have HR : Hid (jnR n L R B i j = (false, 1)) := hide (by simp [jnR, hok])
    have HOK := hide hok
    clear hok
    rw [HR.out]
    go_enter Try.func17, Try.ntmps17
    go_wp2_with fail
    refine (specIs_is HOK.out _).mono ?_
    rintro e w1 ⟨rfl, hb1⟩
    (try clear X0 X1 X2 X3)
    have hX1 := hide (hX0.out.keep hb1)
    obtain ⟨X0, X1, X2, X3⟩ := hX1.out
    have hB1 := hide (Below.trans' hB0.out hb1)
    clear hb1
    go_wp2_with fail
    go_ret2
    exact ⟨rfl, hB1.out⟩
  · obtain ⟨k0, k1, k2, k3, _⟩ := okF_nums hok
    cases hi : ptB n i
    · have HR : Hid (jnR n L R B i j = (false, 2)) := hide (by simp [jnR, hok, hi])
      have HOK := hide hok
      have HI := hide ((ptB_inn n i).symm.trans hi)
      clear hok hi
      rw [HR.out]
      go_enter Try.func17, Try.ntmps17
      go_wp2_with fail
      refine (specIs_is HOK.out _).mono ?_
      rintro e w1 ⟨rfl, hb1⟩
      (try clear X0 X1 X2 X3)
      have hX1 := hide (hX0.out.keep hb1)
      obtain ⟨X0, X1, X2, X3⟩ := hX1.out
      have hB1 := hide (Below.trans' hB0.out hb1)
      clear hb1
      go_wp2_with fail
      refine (inn_is _ _ _ HI.out _).mono ?_
      rintro e w2 ⟨rfl, hb2⟩
      (try clear X0 X1 X2 X3)
      have hX2 := hide (hX1.out.keep hb2)
      obtain ⟨X0, X1, X2, X3⟩ := hX2.out
      have hB2 := hide (Below.trans' hB1.out hb2)
      clear hb2
      go_wp2_with fail
      go_ret2
      exact ⟨rfl, hB2.out⟩
    · cases hj : ptB n j
      · have HR : Hid (jnR n L R B i j = (false, 2)) := hide (by simp [jnR, hok, hj])
        have HOK := hide hok
        have HI := hide ((ptB_inn n i).symm.trans hi)
        have HJ := hide ((ptB_inn n j).symm.trans hj)
        clear hok hi hj
        rw [HR.out]
        go_enter Try.func17, Try.ntmps17
        go_wp2_with fail
        refine (specIs_is HOK.out _).mono ?_
        rintro e w1 ⟨rfl, hb1⟩
        (try clear X0 X1 X2 X3)
        have hX1 := hide (hX0.out.keep hb1)
        obtain ⟨X0, X1, X2, X3⟩ := hX1.out
        have hB1 := hide (Below.trans' hB0.out hb1)
        clear hb1
        go_wp2_with fail
        refine (inn_is _ _ _ HI.out _).mono ?_
        rintro e w2 ⟨rfl, hb2⟩
        (try clear X0 X1 X2 X3)
        have hX2 := hide (hX1.out.keep hb2)
        obtain ⟨X0, X1, X2, X3⟩ := hX2.out
        have hB2 := hide (Below.trans' hB1.out hb2)
        clear hb2
        go_wp2_with fail
        refine (inn_is _ _ _ HJ.out _).mono ?_
        rintro e w3 ⟨rfl, hb3⟩
        (try clear X0 X1 X2 X3)
        have hX3 := hide (hX2.out.keep hb3)
        obtain ⟨X0, X1, X2, X3⟩ := hX3.out
        have hB3 := hide (Below.trans' hB2.out hb3)
        clear hb3
        go_wp2_with fail
        go_ret2
        exact ⟨rfl, hB3.out⟩
      · by_cases hij : i = j
        · have HR : Hid (jnR n L R B i j = (false, 2)) := hide (by simp [jnR, hok, hij])
          have hd : (i == j) = true := by simp [hij]
          have HOK := hide hok
          have HI := hide ((ptB_inn n i).symm.trans hi)
          have HJ := hide ((ptB_inn n j).symm.trans hj)
          clear hok hi hj hij
          rw [HR.out]
          go_enter Try.func17, Try.ntmps17
          go_wp2_with fail
          refine (specIs_is HOK.out _).mono ?_
          rintro e w1 ⟨rfl, hb1⟩
          (try clear X0 X1 X2 X3)
          have hX1 := hide (hX0.out.keep hb1)
          obtain ⟨X0, X1, X2, X3⟩ := hX1.out
          have hB1 := hide (Below.trans' hB0.out hb1)
          clear hb1
          go_wp2_with fail
          refine (inn_is _ _ _ HI.out _).mono ?_
          rintro e w2 ⟨rfl, hb2⟩
          (try clear X0 X1 X2 X3)
          have hX2 := hide (hX1.out.keep hb2)
          obtain ⟨X0, X1, X2, X3⟩ := hX2.out
          have hB2 := hide (Below.trans' hB1.out hb2)
          clear hb2
          go_wp2_with fail
          refine (inn_is _ _ _ HJ.out _).mono ?_
          rintro e w3 ⟨rfl, hb3⟩
          (try clear X0 X1 X2 X3)
          have hX3 := hide (hX2.out.keep hb3)
          obtain ⟨X0, X1, X2, X3⟩ := hX3.out
          have hB3 := hide (Below.trans' hB2.out hb3)
          clear hb3
          go_wp2_with fail
          go_ret2
          exact ⟨rfl, hB3.out⟩
        · have HR : Hid (jnR n L R B i j = (jn L i j, 0)) := hide (by simp [jnR, hok, hi, hj, hij])
          obtain ⟨i0, i1⟩ := ptB_yes hi
          obtain ⟨j0, j1⟩ := ptB_yes hj
          have hd : (i == j) = false := by simp [hij]
          have HOK := hide hok
          have HI := hide ((ptB_inn n i).symm.trans hi)
          have HJ := hide ((ptB_inn n j).symm.trans hj)
          have HN := hide hij
          clear hok hi hj hij
          rw [HR.out]
          go_enter Try.func17, Try.ntmps17
          go_wp2_with fail
          refine (specIs_is HOK.out _).mono ?_
          rintro e w1 ⟨rfl, hb1⟩
          (try clear X0 X1 X2 X3)
          have hX1 := hide (hX0.out.keep hb1)
          obtain ⟨X0, X1, X2, X3⟩ := hX1.out
          have hB1 := hide (Below.trans' hB0.out hb1)
          clear hb1
          go_wp2_with fail
          refine (inn_is _ _ _ HI.out _).mono ?_
          rintro e w2 ⟨rfl, hb2⟩
          (try clear X0 X1 X2 X3)
          have hX2 := hide (hX1.out.keep hb2)
          obtain ⟨X0, X1, X2, X3⟩ := hX2.out
          have hB2 := hide (Below.trans' hB1.out hb2)
          clear hb2
          go_wp2_with fail
          refine (inn_is _ _ _ HJ.out _).mono ?_
          rintro e w3 ⟨rfl, hb3⟩
          (try clear X0 X1 X2 X3)
          have hX3 := hide (hX2.out.keep hb3)
          obtain ⟨X0, X1, X2, X3⟩ := hX3.out
          have hB3 := hide (Below.trans' hB2.out hb3)
          clear hb3
          go_wp2_with fail
          refine (specJoined_any n L R B i j (by omega) (by omega) i0 j0 (by omega) (by omega) HN.out _).mono ?_
          rintro e w4 ⟨rfl, hb4⟩
          (try clear X0 X1 X2 X3)
          have hX4 := hide (hX3.out.keep hb4)
          obtain ⟨X0, X1, X2, X3⟩ := hX4.out
          have hB4 := hide (Below.trans' hB3.out hb4)
          clear hb4
          go_wp2_with fail
          go_ret2
          exact ⟨rfl, hB4.out⟩
end Go.Proofs.Ytdimmlpnfghndaa
