/-
  The placements, the program's text; PlacementsOf, both texts.
-/
import Derived.Test.YtkekanllfpdeaabSp
import Derived.Test.YtkekanllfpdeaabPv
namespace Go.Proofs.Ytkekanllfpdeaab
open Go.RowKit
set_option linter.unusedVariables false

set_option maxRecDepth 100000 in
set_option maxHeartbeats 1000000 in
theorem sorted_any (Bs Bg Bk G n : Nat) (Wd H : Int) (w0 : 1 ≤ Wd) (w1 : Wd ≤ 5) (h0 : 1 ≤ H) (h1 : H ≤ 5) (hn0 : 1 ≤ n) (hn : n ≤ 5) (W : World) (hf : LinF W Bs Bg Bk G Wd H n) :
    Calls Try.prog 63 #[.func (.func 73) #[] #[.pointer (some ⟨Bs, 0, none⟩), .pointer (some ⟨Bg, 0, none⟩), .pointer (some ⟨Bk, 0, none⟩)]] W (NewL (isortI (linesL Wd H n)) W) := by
  have HC := hide (collect_any Bs Bg Bk G n Wd H w0 w1 h0 h1 hn W hf)
  have hll := (pl_facts w0 w1 h0 h1 (n := (n : Int)) (by omega) (by omega)).2.2.2
  rw [Int.toNat_natCast] at hll
  obtain ⟨L, hL⟩ : ∃ L, L = linesL Wd H n := ⟨_, rfl⟩
  rw [← hL] at HC hll ⊢
  clear hf hL
  go_enter Try.func63, Try.ntmps63
  go_wp2_with fail
  refine (HC.out).mono ?_
  rintro e w1 ⟨a1, c1, rfl, ho, hb⟩
  have HO : Hid (Owns W.heap.size W w1 (.slice a1 L.length c1) L) := hide ⟨ho, hb, hb.size⟩
  clear ho hb
  go_wp2_with fail
  refine (sort_any _ _ _ _ _ HO.out (by omega)).mono ?_
  rintro e w2 ⟨rfl, ho2⟩
  have hfin : Hid (NewL (isortI L) W (.returned (.slice a1 L.length c1)) w2) := hide (ho2.list (Below.refl _ _) (Nat.le_refl _))
  clear ho2
  go_wp2_with fail
  go_ret
  exact hfin.out

set_option maxRecDepth 100000 in
set_option maxHeartbeats 4000000 in
theorem placements_any (wd hi n : Int) (a : Option Addr) (k c : Nat) (W : World) (w0 : 1 ≤ wd) (w1 : wd ≤ 5) (h0 : 1 ≤ hi) (h1 : hi ≤ 5) (n0 : 1 ≤ n) (n1 : n ≤ 5) :
    Calls Try.prog 39 #[.agg #[.int .i64 wd, .int .i64 hi, .slice a k c], .int .i64 n] W (NewL (plc wd hi n.toNat) W) := by
  obtain ⟨m, rfl⟩ := Int.eq_ofNat_of_zero_le (show 0 ≤ n by omega)
  rw [Int.toNat_natCast]
  obtain ⟨W0, hW0⟩ : ∃ W0, W0 = (W.alloc (.cells #[.int .i64 wd, .int .i64 hi, .slice a k c] 29)).alloc (.cells #[.int .i64 1, .int .i64 0, .int .i64 0, .int .i64 1] 80) := ⟨_, rfl⟩
  have hB0 : Hid (Below W.heap.size W W0) := by rw [hW0]; exact hide ((below_alloc _ _).alloc (by simp) _)
  obtain ⟨q0, q1, q2⟩ := seaIn_new W wd hi a k c 29
  have hcomp := (pl_facts w0 w1 h0 h1 n0 n1).1
  have hll := (pl_facts w0 w1 h0 h1 n0 n1).2.2.2
  rw [Int.toNat_natCast] at hcomp hll
  have HCO := hide hcomp
  have hil : Hid ((isortI (linesL wd hi m)).length ≤ 1000) := hide (by rw [isortI_len]; omega)
  have HW := hide hW0
  clear hcomp hll
  go_enter Try.func39, Try.ntmps39
  go_wp2_with fail
  (try rw [← hW0])
  clear hW0 q0 q1 q2
  (try go_wp2_with fail)
  refine (linesAlong_any wd hi m (W.heap.size + 1) W0).mono ?_
  rintro e u1 ⟨rfl, hw1⟩
  have hB1 : Hid (Below W.heap.size W u1) := by rw [← hw1]; exact hide (Below.trans' hB0.out (((below_alloc _ _).alloc (by simp) _).alloc (by simp; omega) _))
  have hf : Hid (LinF u1 (W0.heap.size + 1 + 1) W0.heap.size (W0.heap.size + 1) (W.heap.size + 1) wd hi m) := by
    rw [← hw1]
    refine hide ?_
    have hz : W0.heap.size = W.heap.size + 2 := by rw [HW.out]; simp
    have g : ∀ j v, W0.cell? ⟨W.heap.size + 1, j, none⟩ = some v → (((W0.alloc (.cells #[.int .i64 wd, .int .i64 hi] 78)).alloc (.cells #[.int .i64 m] 2)).alloc (.cells #[.slice (some ⟨W.heap.size + 1, 0, none⟩) 2 2] 99)).cell? ⟨W.heap.size + 1, j, none⟩ = some v := fun j v h => cell_keep (((below_alloc _ _).alloc (by simp) _).alloc (by simp; omega) _) h
    refine ⟨?_, ?_, ?_, ?_, g 0 _ ?_, g 1 _ ?_, g 2 _ ?_, g 3 _ ?_⟩
    · simp [go_sem]
    · simp [go_sem]
    · simp [go_sem]
    · simp [go_sem]
    · rw [HW.out]; simp [go_sem]
    · rw [HW.out]; simp [go_sem]
    · rw [HW.out]; simp [go_sem]
    · rw [HW.out]; simp [go_sem]
  clear hw1
  go_wp2_with fail
  refine (sorted_any _ _ _ _ _ _ _ w0 w1 h0 h1 (by omega) (by omega) _ hf.out).mono ?_
  rintro e w2 ⟨a2, c2, rfl, ho2, hb2⟩
  have HO2 : Hid (Owns u1.heap.size u1 w2 (.slice a2 (isortI (linesL wd hi m)).length c2) (isortI (linesL wd hi m))) := hide ⟨ho2, hb2, hb2.size⟩
  obtain ⟨L, hL⟩ : ∃ L, L = isortI (linesL wd hi m) := ⟨_, rfl⟩
  rw [← hL] at HO2 hil HCO ⊢
  clear ho2 hb2 hL
  go_wp2_with fail
  refine (compact_any _ _ _ _ _ HO2.out hil.out).mono ?_
  rintro e w3 ⟨v3, rfl, ho3⟩
  rw [HCO.out] at ho3
  have hfin : Hid (NewL (plc wd hi m) W (.returned v3) w3) := hide (ho3.list hB1.out hB1.out.size)
  clear ho3
  go_wp2_with fail
  go_ret
  exact hfin.out
end Go.Proofs.Ytkekanllfpdeaab
