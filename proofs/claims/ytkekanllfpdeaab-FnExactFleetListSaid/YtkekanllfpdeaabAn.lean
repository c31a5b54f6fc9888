/-
  What a shot gets: checkFleet, l09Code, l09Answer, answer.
-/
import Derived.Test.YtkekanllfpdeaabFn
import Derived.BigQuiet
namespace Go.Proofs.Ytkekanllfpdeaab
open Go.RowKit
set_option linter.unusedVariables false

def codF (wd hi : Int) (cs f : List Int) : Int := if seaB wd hi cs = true then (if fleetB wd hi cs f = true then 0 else 2) else 1
/-- The answer to a shot at c, when the shots so far are at the set s. -/
def ansF (c s : Int) : List Int → Int
  | [] => 0
  | z :: t => if dg z c = 0 then ansF c s t else if bits BinOp.andNot IntKind.i64 z s = 0 then 2 else 1
theorem dg_zero (c : Int) : dg 0 c = 0 := by unfold dg; simp
theorem ansF_pad {f : List Int} (h3 : f.length ≤ 3) (c s : Int) : ansF c s [(padF f).1, (padF f).2.1, (padF f).2.2] = ansF c s f := by
  match f, h3 with
  | [], _ => simp [padF, ansF, dg_zero]
  | [x], _ => simp [padF, ansF, dg_zero]
  | [x, y], _ => simp [padF, ansF, dg_zero]
  | [x, y, z], _ => simp [padF, ansF]

set_option maxRecDepth 100000 in
set_option maxHeartbeats 4000000 in
theorem l09Answer_any (af : Option Addr) (cf : Nat) (f : List Int) (c s : Int) (W : World) (hf : IntsAt W af f) (hfl : f.length ≤ 1048576) (hz : ∀ z ∈ f, 0 ≤ z ∧ z < 33554432) (c0 : 0 ≤ c) (c1 : c ≤ 27) :
    Calls Try.prog 71 #[.slice af f.length cf, .int .i64 c, .int .i64 s] W (RetB (.int .i64 (ansF c s f)) W) := by
  obtain ⟨R, hR⟩ : ∃ R, R = ansF c s f := ⟨_, rfl⟩
  have HR := hide hR
  rw [← hR]
  have HF := hide hf
  have HZ := hide hz
  clear hR hf hz
  go_enter Try.func71, Try.ntmps71
  go_wp2_with fail
  go_loopw [7] (fun v7 wr => ∃ i : Nat, v7 = .int .i64 i ∧ i ≤ f.length ∧ Hid (R = ansF c s (f.drop i)) ∧ Below W.heap.size W wr) (fun v7 _ => f.length - (intOf v7).toNat)
  case atStart => exact ⟨0, rfl, Nat.zero_le _, hide (by rw [List.drop_zero]; exact HR.out), Below.refl _ _⟩
  case round =>
    obtain ⟨i, rfl, hi, hI, hB⟩ := hrel
    have HB := hide hB
    by_cases hlt : i < f.length
    · obtain ⟨b1, o1, z, rfl, ez, hg⟩ := (HF.out.keep hB).one hlt
      obtain ⟨z0, z1⟩ := HZ.out z (mem_of_get hg.out)
      have hI2 : Hid (R = if dg z c = 0 then ansF c s (f.drop (i + 1)) else if bits BinOp.andNot IntKind.i64 z s = 0 then 2 else 1) := hide (by rw [hI.out, drop_of_get hg.out]; rfl)
      have f7 := u64_small (k := c) c0 (by omega)
      have f13 : min c.toNat 64 = c.toNat := by omega
      have hcn : ¬ (c < 0) := by omega
      have hdg := dg_walkL (E := z) (k := c) z0 (by omega)
      obtain ⟨D, hD⟩ : ∃ D, D = dg z c := ⟨_, rfl⟩
      obtain ⟨Q, hQ⟩ : ∃ Q, Q = bits BinOp.andNot IntKind.i64 z s := ⟨_, rfl⟩
      rw [← hD] at hdg hI2
      have hqe : bits BinOp.andNot IntKind.i64 z s = Q := hQ.symm
      rw [hqe] at hI2
      clear hD hQ hg hI hB z0 z1
      by_cases hd0 : D = 0
      · have hfin : Hid (R = ansF c s (f.drop (i + 1))) := hide (by rw [hI2.out, if_pos hd0])
        subst hd0
        clear hI2 hqe
        go_wp2_with fail
        go_roundw
        case rel => exact ⟨i + 1, by go_num, by omega, hfin, HB.out⟩
        case measure => simp [intOf]; omega
      · have hne : (D == 0) = false := by simp [hd0]
        by_cases hq0 : Q = 0
        · have hfin : Hid (R = 2) := hide (by rw [hI2.out, if_neg hd0, if_pos hq0])
          subst hq0
          clear hI2 hd0
          go_wp2_with fail
          go_ret
          exact ⟨ret_int hfin.out.symm, HB.out⟩
        · have hfin : Hid (R = 1) := hide (by rw [hI2.out, if_neg hd0, if_neg hq0])
          have hnq : (Q == 0) = false := by simp [hq0]
          clear hI2 hd0 hq0
          go_wp2_with fail
          go_ret
          exact ⟨ret_int hfin.out.symm, HB.out⟩
    · obtain rfl : i = f.length := by omega
      have hfin : Hid (R = 0) := hide (by rw [hI.out, List.drop_length]; rfl)
      clear hI hB
      go_wp2_with fail
      go_ret
      exact ⟨ret_int hfin.out.symm, HB.out⟩

set_option maxRecDepth 100000 in
set_option maxHeartbeats 4000000 in
theorem answerT_any (x y z c s : Int) (W : World) (hx : 0 ≤ x ∧ x < 33554432) (hy : 0 ≤ y ∧ y < 33554432) (hz : 0 ≤ z ∧ z < 33554432) (c0 : 0 ≤ c) (c1 : c ≤ 27) :
    Calls Try.prog 117 #[.agg #[.int .i64 x, .int .i64 y, .int .i64 z], .int .i64 c, .int .i64 s] W (RetB (.int .i64 (ansF c s [x, y, z])) W) := by
  have f13 : min c.toNat 64 = c.toNat := by omega
  have hcn : ¬ (c < 0) := by omega
  have g1 := dg_walkL (E := x) (k := c) hx.1 (by omega)
  have g2 := dg_walkL (E := y) (k := c) hy.1 (by omega)
  have g3 := dg_walkL (E := z) (k := c) hz.1 (by omega)
  have hRR : ansF c s [x, y, z] = if dg x c = 0 then (if dg y c = 0 then (if dg z c = 0 then 0 else if bits BinOp.andNot IntKind.i64 z s = 0 then 2 else 1) else if bits BinOp.andNot IntKind.i64 y s = 0 then 2 else 1) else if bits BinOp.andNot IntKind.i64 x s = 0 then 2 else 1 := rfl
  rw [hRR]
  obtain ⟨D1, hD1⟩ : ∃ D, D = dg x c := ⟨_, rfl⟩
  obtain ⟨D2, hD2⟩ : ∃ D, D = dg y c := ⟨_, rfl⟩
  obtain ⟨D3, hD3⟩ : ∃ D, D = dg z c := ⟨_, rfl⟩
  obtain ⟨Q1, hQ1⟩ : ∃ Q, Q = bits BinOp.andNot IntKind.i64 x s := ⟨_, rfl⟩
  obtain ⟨Q2, hQ2⟩ : ∃ Q, Q = bits BinOp.andNot IntKind.i64 y s := ⟨_, rfl⟩
  obtain ⟨Q3, hQ3⟩ : ∃ Q, Q = bits BinOp.andNot IntKind.i64 z s := ⟨_, rfl⟩
  rw [← hD1] at g1 ⊢
  rw [← hD2] at g2 ⊢
  rw [← hD3] at g3 ⊢
  rw [← hQ1, ← hQ2, ← hQ3]
  have q1 : bits BinOp.andNot IntKind.i64 x s = Q1 := hQ1.symm
  have q2 : bits BinOp.andNot IntKind.i64 y s = Q2 := hQ2.symm
  have q3 : bits BinOp.andNot IntKind.i64 z s = Q3 := hQ3.symm
  clear hRR hD1 hD2 hD3 hQ1 hQ2 hQ3 hx hy hz
  have i0 := fun w => (ix_any x y z w).1
  have i1 := fun w => (ix_any x y z w).2.1
  have i2 := fun w => (ix_any x y z w).2.2
  by_cases e1 : D1 = 0
  · subst e1
    rw [if_pos rfl]
    by_cases e2 : D2 = 0
    · subst e2
      rw [if_pos rfl]
      by_cases e3 : D3 = 0
      · subst e3
        rw [if_pos rfl]
        go_enter Try.func117, Try.ntmps117
        go_wp2_with fail
        refine wp_loop_rounds 4 ?_
        rw [rounds_succ]
        go_wp2_with fail
        rw [rounds_succ]
        go_wp2_with fail
        rw [rounds_succ]
        go_wp2_with fail
        rw [rounds_succ]
        go_wp2_with fail
        go_ret
        exact ⟨rfl, below_alloc _ _⟩
      · have n3 : (D3 == 0) = false := by simp [e3]
        rw [if_neg e3]
        by_cases t3 : Q3 = 0
        · subst t3
          rw [if_pos rfl]
          go_enter Try.func117, Try.ntmps117
          go_wp2_with fail
          refine wp_loop_rounds 4 ?_
          rw [rounds_succ]
          go_wp2_with fail
          rw [rounds_succ]
          go_wp2_with fail
          rw [rounds_succ]
          go_wp2_with fail
          go_ret
          exact ⟨rfl, below_alloc _ _⟩
        · have m3 : (Q3 == 0) = false := by simp [t3]
          rw [if_neg t3]
          go_enter Try.func117, Try.ntmps117
          go_wp2_with fail
          refine wp_loop_rounds 4 ?_
          rw [rounds_succ]
          go_wp2_with fail
          rw [rounds_succ]
          go_wp2_with fail
          rw [rounds_succ]
          go_wp2_with fail
          go_ret
          exact ⟨rfl, below_alloc _ _⟩
    · have n2 : (D2 == 0) = false := by simp [e2]
      rw [if_neg e2]
      by_cases t2 : Q2 = 0
      · subst t2
        rw [if_pos rfl]
        go_enter Try.func117, Try.ntmps117
        go_wp2_with fail
        refine wp_loop_rounds 4 ?_
        rw [rounds_succ]
        go_wp2_with fail
        rw [rounds_succ]
        go_wp2_with fail
        go_ret
        exact ⟨rfl, below_alloc _ _⟩
      · have m2 : (Q2 == 0) = false := by simp [t2]
        rw [if_neg t2]
        go_enter Try.func117, Try.ntmps117
        go_wp2_with fail
        refine wp_loop_rounds 4 ?_
        rw [rounds_succ]
        go_wp2_with fail
        rw [rounds_succ]
        go_wp2_with fail
        go_ret
        exact ⟨rfl, below_alloc _ _⟩
  · have n1 : (D1 == 0) = false := by simp [e1]
    rw [if_neg e1]
    by_cases t1 : Q1 = 0
    · subst t1
      rw [if_pos rfl]
      go_enter Try.func117, Try.ntmps117
      go_wp2_with fail
      refine wp_loop_rounds 4 ?_
      rw [rounds_succ]
      go_wp2_with fail
      go_ret
      exact ⟨rfl, below_alloc _ _⟩
    · have m1 : (Q1 == 0) = false := by simp [t1]
      rw [if_neg t1]
      go_enter Try.func117, Try.ntmps117
      go_wp2_with fail
      refine wp_loop_rounds 4 ?_
      rw [rounds_succ]
      go_wp2_with fail
      go_ret
      exact ⟨rfl, below_alloc _ _⟩
theorem answer_any (f : List Int) (c s : Int) (W : World) (h3 : f.length ≤ 3) (hz : ∀ z ∈ f, 0 ≤ z ∧ z < 33554432) (c0 : 0 ≤ c) (c1 : c ≤ 27) :
    Calls Try.prog 117 #[valT (padF f), .int .i64 c, .int .i64 s] W (RetB (.int .i64 (ansF c s f)) W) := by
  obtain ⟨k1, k2, k3⟩ := okT_pad hz
  have h := answerT_any (padF f).1 (padF f).2.1 (padF f).2.2 c s W k1 k2 k3 c0 c1
  rw [ansF_pad h3] at h
  exact h
end Go.Proofs.Ytkekanllfpdeaab
