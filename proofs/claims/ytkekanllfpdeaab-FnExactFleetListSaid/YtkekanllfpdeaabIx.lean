/-
  slices.Index and Contains on lists of ships placed.
-/
import Derived.Test.YtkekanllfpdeaabFf
import Derived.Laws.StructEq
namespace Go.Proofs.Ytkekanllfpdeaab
open Go.RowKit
set_option linter.unusedVariables false

theorem eqT_any (a b c x y z : Int) (w : World) : (Op.equalIn 10000 61 (.agg #[.int .i64 a, .int .i64 b, .int .i64 c]) (.agg #[.int .i64 x, .int .i64 y, .int .i64 z])).run Try.prog w = .ok (decide ((a, b, c) = ((x, y, z) : T3))) w := by
  have u3 := Try.underlying2
  have a3 := Try.isAgg2
  have z3 := Try.sizeOf2
  rw [show (10000 : Nat) = 9999 + 1 from rfl, Op.equalIn]
  simp only [Sem.run_bind, run_underlying Try.underlying61, Result.andThen_ok]
  simp only [Std.Legacy.Range.forIn_eq_forIn_range', Std.Legacy.Range.size, Nat.sub_zero, Nat.add_sub_cancel, Nat.div_one, List.range'_succ, List.range'_zero, List.forIn_cons, List.forIn_nil]
  go_simp
  by_cases h1 : a = x <;> by_cases h2 : b = y <;> by_cases h3 : c = z <;> simp [h1, h2, h3]

def idxT : List T3 → T3 → Nat → Int
  | [], _, _ => -1
  | f :: fs, t, k => if t = f then (k : Int) else idxT fs t (k + 1)
theorem idxT_mem (t : T3) : ∀ (fs : List T3) (k : Nat), decide (0 ≤ idxT fs t k) = fs.contains t
  | [], k => by simp [idxT]
  | f :: fs, k => by
    unfold idxT
    by_cases h : t = f
    · subst h
      simp
    · rw [if_neg h, idxT_mem t fs (k + 1)]
      simp [h]

end Go.Proofs.Ytkekanllfpdeaab
