/-
  Ends of dots and boxes: CountLong and TurnsOf, both texts.
-/
import Derived.Test.YtbfpbkbhikogiabEnI
namespace Go.Proofs.Ytbfpbkbhikogiab
open Go.RowKit
set_option linter.unusedVariables false

/-- A number and a code. -/
def numV : Int × Int → Value | (x, c) => .tuple #[.int .i64 x, .int .i64 c]
def longR (cs ls : List Int) : Int × Int := if okEn cs ls = true then (longTo cs cs.length, 0) else (0, 1)

/-! ### turns -/
def turnR (r c d : Int) : Int × Int := if 1 ≤ r ∧ r ≤ 1000 ∧ 1 ≤ c ∧ c ≤ 1000 ∧ 0 ≤ d ∧ d ≤ r * c / 2 then ((r + 1) * (c + 1) + d, 0) else (0, 2)
theorem turn_no {r c d : Int} (h : ¬ (1 ≤ r ∧ r ≤ 1000 ∧ 1 ≤ c ∧ c ≤ 1000 ∧ 0 ≤ d ∧ d ≤ r * c / 2)) : turnR r c d = (0, 2) := if_neg h
theorem mul_bd {r c : Int} (h1 : 1 ≤ r) (h2 : r ≤ 1000) (h3 : 1 ≤ c) (h4 : c ≤ 1000) : 0 ≤ r * c ∧ r * c ≤ 1000000 ∧ 0 ≤ (r + 1) * (c + 1) ∧ (r + 1) * (c + 1) ≤ 1002001 := by
  refine ⟨Int.mul_nonneg (by omega) (by omega), ?_, Int.mul_nonneg (by omega) (by omega), ?_⟩
  · exact Int.mul_le_mul h2 h4 (by omega) (by omega)
  · exact Int.mul_le_mul (show r + 1 ≤ 1001 by omega) (show c + 1 ≤ 1001 by omega) (by omega) (by omega)

end Go.Proofs.Ytbfpbkbhikogiab
