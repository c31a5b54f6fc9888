/-
  NeedOf, the model's text, whole.
-/
import Derived.Test.YtogfoahejgmfgaaNx
import Derived.Test.YtogfoahejgmfgaaNy
namespace Go.Proofs.Ytogfoahejgmfgaa
open Go.RowKit
set_option linter.unusedVariables false

set_option maxRecDepth 100000 in
set_option maxHeartbeats 2000000 in
theorem specNeed_any (n : Int) (a : Option Addr) (c : Nat) (cs : List Int) (p : Int) (W : World) (ha : IntsAt W a cs) (hl : cs.length ≤ 1048576) :
    Calls Try.prog 11 #[.agg #[.int .i64 n, .slice a cs.length c], .int .i64 p] W (RetB (.tuple #[.int .i64 (ndR n cs p).1, .int .i64 (ndR n cs p).2]) W) := by
  obtain ⟨W0, hW0⟩ : ∃ W0, W0 = W.alloc (.cells #[.int .i64 n, .slice a cs.length c] 28) := ⟨_, rfl⟩
  have hB0 : Hid (Below W.heap.size W W0) := by rw [hW0]; exact hide (below_alloc _ _)
  have hX0 : Hid (HexIn W0 W.heap.size n a cs.length c) := by rw [hW0]; exact hide (hexIn_new _ _ _ _ _ _)
  have hA0 := hide (ha.keep hB0.out)
  obtain ⟨c0, c1⟩ := hX0.out
  cases hok : okH n cs
  · have HR : Hid (ndR n cs p = (0, 1)) := hide (by simp [ndR, hok])
    have HOK := hide hok
    rw [HR.out]
    clear hok ha
    go_enter Try.func11, Try.ntmps11
    go_wp2_with fail
    rw [← hW0]
    clear hW0
    refine (specIsX_is HOK.out hA0.out hl).mono ?_
    rintro e w1 ⟨rfl, hb1⟩
    have hB1 := hide (Below.trans' hB0.out hb1)
    clear hb1
    go_wp2_with fail
    go_ret2
    exact ⟨rfl, hB1.out⟩
  · by_cases hp : 1 ≤ p ∧ p ≤ 2
    · obtain ⟨N, b, off, rfl, hN1, hN8, hlen, hz, rfl⟩ := okH_nat hok ha
      have hr : ndR N cs p = ndO (needO N cs p) := by unfold ndR; rw [if_pos hok, if_pos hp]
      rw [hr]
      rcases (by omega : p = 1 ∨ p = 2) with rfl | rfl
      · exact specNeed1_any N cs.length b off c cs rfl hok hN1 hN8 hlen W ha
      · exact specNeed2_any N cs.length b off c cs rfl hok hN1 hN8 hlen W ha
    · have HR : Hid (ndR n cs p = (0, 2)) := hide (by unfold ndR; rw [if_pos hok, if_neg hp])
      have HOK := hide hok
      have hin : Hid (inn p 1 2 = false) := hide (by
        cases h : inn p 1 2 with
        | false => rfl
        | true => exact absurd (inn_yes h) hp)
      rw [HR.out]
      clear hok ha hp
      go_enter Try.func11, Try.ntmps11
      go_wp2_with fail
      rw [← hW0]
      clear hW0
      refine (specIsX_is HOK.out hA0.out hl).mono ?_
      rintro e w1 ⟨rfl, hb1⟩
      have hB1 := hide (Below.trans' hB0.out hb1)
      clear hb1
      go_wp2_with fail
      refine (inn_is _ _ _ hin.out _).mono ?_
      rintro e w2 ⟨rfl, hb2⟩
      have hB2 := hide (Below.trans' hB1.out hb2)
      clear hb2
      go_wp2_with fail
      go_ret2
      exact ⟨rfl, hB2.out⟩
end Go.Proofs.Ytogfoahejgmfgaa
