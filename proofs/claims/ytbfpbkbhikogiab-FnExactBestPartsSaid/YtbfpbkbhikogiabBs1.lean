/-
  Ends of dots and boxes: BestParts, plain.
-/
import Derived.Test.YtbfpbkbhikogiabBl
namespace Go.Proofs.Ytbfpbkbhikogiab
open Go.RowKit
set_option linter.unusedVariables false

theorem chains_any (a : Option Addr) (c : Nat) (zs : List Int) (W : World) (ha : IntsAt W a zs) (hok : okEn zs [] = true) : Calls Try.prog 11 #[.agg #[.slice a zs.length c, .slice none 0 0]] W (RetB (.int .i64 (vC zs)) W) :=
  value_any _ a c zs none 0 [] W ha (fun h => absurd rfl h) hok rfl

theorem bp_no {n k : Int} (h : ¬ ((1 ≤ n ∧ n ≤ 20) ∧ (1 ≤ k ∧ k ≤ 6) ∧ k ≤ n)) : bpR n k = ([], 2) := by
  unfold bpR okP
  rw [if_neg (by simp only [decide_eq_true_eq]; exact h)]
theorem bp_yes {n k : Nat} (h : (1 ≤ n ∧ n ≤ 20) ∧ (1 ≤ k ∧ k ≤ 6) ∧ k ≤ n) : bpR n k = (bestP (pt k 1 n), 0) := by
  unfold bpR okP
  rw [if_pos (by simp only [decide_eq_true_eq]; omega), Int.toNat_natCast, Int.toNat_natCast]
theorem newList_no (W w : World) (h : Below W.heap.size W w) : NewList ([], 2) W (.returned (.tuple #[.slice none 0 0, .int .i64 2])) w := ⟨none, 0, rfl, World.ownsRow_nil _ _ _ _, h⟩
def atV : Option Nat → Int
  | none => -1
  | some m => m
def beV (t : Nat → Int) : Option Nat → Int
  | none => 0
  | some m => t m
theorem bestP_is {ps : List (List Int)} {m : Nat} {zs : List Int} (h : mxI (vI ps) ps.length = some m) (hz : ps[m]? = some zs) : bestP ps = zs := by
  unfold bestP
  rw [h]
  show (ps[m]?).getD [] = zs
  rw [hz]
  rfl
theorem vI_is {ps : List (List Int)} {m : Nat} {zs : List Int} (hz : ps[m]? = some zs) : vI ps m = vC zs := by
  unfold vI
  rw [hz]
  rfl

end Go.Proofs.Ytbfpbkbhikogiab
