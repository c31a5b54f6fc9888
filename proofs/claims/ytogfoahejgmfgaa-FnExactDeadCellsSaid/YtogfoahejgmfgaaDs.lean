/-
  Boards of hexagons: dead cells, the model's text, all cases.
-/
import Derived.Test.YtogfoahejgmfgaaDr
import Derived.Test.YtogfoahejgmfgaaDp
namespace Go.Proofs.Ytogfoahejgmfgaa
open Go.RowKit
set_option linter.unusedVariables false

theorem specDead_any (n : Int) (a : Option Addr) (c : Nat) (cs : List Int) (W : World) (ha : IntsAt W a cs) (hl : cs.length ≤ 1048576) :
    Calls Try.prog 17 #[.agg #[.int .i64 n, .slice a cs.length c]] W (NewList (ddR n cs) W) := by
  by_cases hok : okH n cs = true
  · by_cases h9 : (empC cs).length ≤ 9
    · obtain ⟨N, b, off, rfl, hN1, hN8, hlen, hz, rfl⟩ := okH_nat hok ha
      have hR : ddR (N : Int) cs = (ddL N cs (empC cs).length, 0) := by rw [ddR, if_pos hok, if_pos h9]
      rw [hR]
      exact specDead2_any N cs.length b off c cs rfl hok hN1 hN8 hlen h9 W ha
    · have hR : ddR n cs = ([], 3) := by rw [ddR, if_pos hok, if_neg h9]
      rw [hR]
      exact specDead1_any n a c cs hok h9 W ha hl
  · have hf : okH n cs = false := by
      cases h : okH n cs
      · rfl
      · exact absurd h hok
    have hR : ddR n cs = ([], 1) := by rw [ddR, if_neg hok]
    rw [hR]
    exact specDead0_any n a c cs hf W ha hl
end Go.Proofs.Ytogfoahejgmfgaa
