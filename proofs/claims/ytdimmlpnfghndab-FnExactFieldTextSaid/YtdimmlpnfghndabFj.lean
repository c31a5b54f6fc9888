/-
  Col and snort: AreJoined, both texts.
-/
import Derived.Test.YtdimmlpnfghndabFo
namespace Go.Proofs.Ytdimmlpnfghndab
open Go.RowKit
set_option linter.unusedVariables false

def ptB (n i : Int) : Bool := decide (0 ≤ i) && decide (i < n)
theorem ptB_inn (n i : Int) : ptB n i = inn i 0 (n - 1) := by
  simp only [ptB, inn]
  congr 1
  apply decide_eq_decide.2
  omega

set_option maxHeartbeats 1000000 in
theorem isJoined_lt (n L R B i j : Int) (h0 : 0 ≤ L) (h1 : L < 268435456) (hi : 0 ≤ i) (hij : i < j) (hj : j < 8) (W : World) : Calls Try.prog 12 #[.agg #[.int .i64 n, .int .i64 L, .int .i64 R, .int .i64 B], .int .i64 i, .int .i64 j] W (RetB (.bool (drawn L (lp i j))) W) := by
  obtain ⟨l0, l1⟩ := lp_lt hi hij hj
  have hd := hide (dg_walkL (k := lp i j) h0 h1)
  have hB0 := hide (below_alloc W (.cells #[.int .i64 n, .int .i64 L, .int .i64 R, .int .i64 B] 26))
  obtain ⟨c0, c1, c2, c3⟩ := (fieldIn_new W n L R B 26).past
  go_enter Try.func12, Try.ntmps12
  go_wp2
  refine wp_region_past (by kernel_rfl) (by kernel_rfl) ?_
  repeat (first | go_big_quiet_step ((go_at_call 17; (with_reducible exact ret_past (linePlace_any _ _ (by omega) (by omega) (by omega) (by omega) _)))) | quiet_step ((go_at_call 17; (with_reducible exact ret_past (linePlace_any _ _ (by omega) (by omega) (by omega) (by omega) _)))))
  refine wpQuiet_nil ?_
  rintro _ ⟨pq, rfl⟩
  go_wp2
  go_ret
  exact ⟨ret_bool (by rw [hd.out]; rfl), Below.trans' hB0.out pq.old⟩
set_option maxHeartbeats 1000000 in
theorem isJoined_gt (n L R B i j : Int) (h0 : 0 ≤ L) (h1 : L < 268435456) (hi : 0 ≤ j) (hij : j < i) (hj : i < 8) (W : World) : Calls Try.prog 12 #[.agg #[.int .i64 n, .int .i64 L, .int .i64 R, .int .i64 B], .int .i64 i, .int .i64 j] W (RetB (.bool (drawn L (lp j i))) W) := by
  obtain ⟨l0, l1⟩ := lp_lt hi hij hj
  have hd := hide (dg_walkL (k := lp j i) h0 h1)
  have hB0 := hide (below_alloc W (.cells #[.int .i64 n, .int .i64 L, .int .i64 R, .int .i64 B] 26))
  obtain ⟨c0, c1, c2, c3⟩ := (fieldIn_new W n L R B 26).past
  go_enter Try.func12, Try.ntmps12
  go_wp2
  refine wp_region_past (by kernel_rfl) (by kernel_rfl) ?_
  repeat (first | go_big_quiet_step ((go_at_call 17; (with_reducible exact ret_past (linePlace_any _ _ (by omega) (by omega) (by omega) (by omega) _)))) | quiet_step ((go_at_call 17; (with_reducible exact ret_past (linePlace_any _ _ (by omega) (by omega) (by omega) (by omega) _)))))
  refine wpQuiet_nil ?_
  rintro _ ⟨pq, rfl⟩
  go_wp2
  go_ret
  exact ⟨ret_bool (by rw [hd.out]; rfl), Below.trans' hB0.out pq.old⟩
theorem isJoined_any (n L R B i j : Int) (h0 : 0 ≤ L) (h1 : L < 268435456) (hi : 0 ≤ i) (hj : 0 ≤ j) (hi8 : i < 8) (hj8 : j < 8) (hij : i ≠ j) (W : World) : Calls Try.prog 12 #[.agg #[.int .i64 n, .int .i64 L, .int .i64 R, .int .i64 B], .int .i64 i, .int .i64 j] W (RetB (.bool (jn L i j)) W) := by
  by_cases h : i < j
  · rw [jn_lt h]; exact isJoined_lt n L R B i j h0 h1 hi h hj8 W
  · rw [jn_comm, jn_lt (by omega)]; exact isJoined_gt n L R B i j h0 h1 hj (by omega) hi8 W

set_option maxHeartbeats 1000000 in
theorem specJoined_lt (n L R B i j : Int) (h0 : 0 ≤ L) (h1 : L < 268435456) (hi : 0 ≤ i) (hij : i < j) (hj : j < 8) (W : World) : Calls Try.prog 15 #[.agg #[.int .i64 n, .int .i64 L, .int .i64 R, .int .i64 B], .int .i64 i, .int .i64 j] W (RetB (.bool (drawn L (lp i j))) W) := by
  obtain ⟨l0, l1⟩ := lp_lt hi hij hj
  obtain ⟨m0, m1, m2, m3⟩ := lp_nums (j := j) (by omega) (by omega)
  obtain ⟨k, hk⟩ : ∃ k, k = lp i j := ⟨_, rfl⟩
  rw [← hk] at l0 l1 ⊢
  have hq : wrap64 ((j * (j - 1)).tdiv 2) = j * (j - 1) / 2 := by rw [Int.tdiv_eq_ediv_of_nonneg m0]; exact wrap64_small m2 (by omega)
  have hk2 : j * (j - 1) / 2 + i = k := by rw [hk]; rfl
  have hu := u64_small l0 (by omega)
  have hd := hide (dg_walkL (k := k) h0 h1)
  clear hk
  go_enter Try.func15, Try.ntmps15
  go_wp2
  go_ret
  exact ⟨ret_bool (by rw [hd.out]; rfl), below_alloc _ _⟩
set_option maxHeartbeats 1000000 in
theorem specJoined_gt (n L R B i j : Int) (h0 : 0 ≤ L) (h1 : L < 268435456) (hi : 0 ≤ j) (hij : j < i) (hj : i < 8) (W : World) : Calls Try.prog 15 #[.agg #[.int .i64 n, .int .i64 L, .int .i64 R, .int .i64 B], .int .i64 i, .int .i64 j] W (RetB (.bool (drawn L (lp j i))) W) := by
  obtain ⟨l0, l1⟩ := lp_lt hi hij hj
  obtain ⟨m0, m1, m2, m3⟩ := lp_nums (j := i) (by omega) (by omega)
  obtain ⟨k, hk⟩ : ∃ k, k = lp j i := ⟨_, rfl⟩
  rw [← hk] at l0 l1 ⊢
  have hq : wrap64 ((i * (i - 1)).tdiv 2) = i * (i - 1) / 2 := by rw [Int.tdiv_eq_ediv_of_nonneg m0]; exact wrap64_small m2 (by omega)
  have hk2 : i * (i - 1) / 2 + j = k := by rw [hk]; rfl
  have hu := u64_small l0 (by omega)
  have hd := hide (dg_walkL (k := k) h0 h1)
  clear hk
  go_enter Try.func15, Try.ntmps15
  go_wp2
  go_ret
  exact ⟨ret_bool (by rw [hd.out]; rfl), below_alloc _ _⟩
theorem specJoined_any (n L R B i j : Int) (h0 : 0 ≤ L) (h1 : L < 268435456) (hi : 0 ≤ i) (hj : 0 ≤ j) (hi8 : i < 8) (hj8 : j < 8) (hij : i ≠ j) (W : World) : Calls Try.prog 15 #[.agg #[.int .i64 n, .int .i64 L, .int .i64 R, .int .i64 B], .int .i64 i, .int .i64 j] W (RetB (.bool (jn L i j)) W) := by
  by_cases h : i < j
  · rw [jn_lt h]; exact specJoined_lt n L R B i j h0 h1 hi h hj8 W
  · rw [jn_comm, jn_lt (by omega)]; exact specJoined_gt n L R B i j h0 h1 hj (by omega) hi8 W

/-! ### AreJoined -/
def jnR (n L R B i j : Int) : Bool × Int := if okF n L R B = true then if ptB n i = true ∧ ptB n j = true ∧ i ≠ j then (jn L i j, 0) else (false, 2) else (false, 1)
def biV (r : Bool × Int) : Value := .tuple #[.bool r.1, .int .i64 r.2]
theorem ptB_yes {n i : Int} (h : ptB n i = true) : 0 ≤ i ∧ i < n := by simpa [ptB] using h

end Go.Proofs.Ytdimmlpnfghndab
