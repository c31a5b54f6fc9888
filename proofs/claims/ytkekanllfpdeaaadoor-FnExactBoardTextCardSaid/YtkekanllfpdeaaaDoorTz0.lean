/-
  The digits of a number, lowest first, by taking the lowest one away. No walk stands here.
-/
import Derived.Test.YtkekanllfpdeaaaDoorDg
import Derived.Lib.TrailingZeros
namespace Go.Proofs.YtkekanllfpdeaaaDoor
open Go.RowKit
set_option linter.unusedVariables false

def lowL (o : Nat) : Nat → Nat → List Int
  | 0, _ => []
  | f + 1, x => (if x % 2 = 1 then [(o : Int)] else []) ++ lowL (o + 1) f (x / 2)
theorem lowL_pop : ∀ (f o x : Nat), 0 < x → x < 2 ^ f → lowL o f x = ((o + Lib.ctzFrom f x : Nat) : Int) :: lowL o f (x &&& (x - 1))
  | 0, o, x, h, h2 => by simp at h2; omega
  | f + 1, o, x, h, h2 => by
    have hd : (x &&& (x - 1)) / 2 = x / 2 &&& (x - 1) / 2 := Nat.and_div_two
    have hm : (x &&& (x - 1)) % 2 = 0 := by
      have := Nat.and_mod_two_pow (a := x) (b := x - 1) (n := 1)
      simp only [Nat.pow_one] at this
      rw [this]
      have h3 : x % 2 = 0 ∨ (x - 1) % 2 = 0 := by omega
      rcases h3 with h3 | h3 <;> rw [h3] <;> simp
    unfold lowL Lib.ctzFrom
    rw [hd, hm]
    by_cases h1 : x % 2 = 1
    · have e : (x - 1) / 2 = x / 2 := by omega
      rw [e, Nat.and_self, if_pos h1, if_pos h1, if_neg (by omega)]
      simp
    · have e : (x - 1) / 2 = x / 2 - 1 := by omega
      rw [e, if_neg h1, if_neg h1, if_neg (by omega), List.nil_append, List.nil_append, lowL_pop f (o + 1) (x / 2) (by omega) (by rw [Nat.pow_succ] at h2; omega)]
      congr 2
      omega
theorem lowL_zero : ∀ (f o : Nat), lowL o f 0 = []
  | 0, _ => rfl
  | f + 1, o => by
    unfold lowL
    rw [lowL_zero f]
    rfl
theorem lowL_filter : ∀ (f o x : Nat), lowL o f x = ((List.range f).filter (fun i => x.testBit i)).map (fun i => ((o + i : Nat) : Int))
  | 0, o, x => rfl
  | f + 1, o, x => by
    unfold lowL
    rw [lowL_filter f (o + 1) (x / 2), List.range_succ_eq_map, List.filter_cons]
    have h0 : x.testBit 0 = decide (x % 2 = 1) := Nat.testBit_zero x
    have hc : (List.map Nat.succ (List.range f)).filter (fun i => x.testBit i) = ((List.range f).filter (fun i => (x / 2).testBit i)).map Nat.succ := by
      rw [List.filter_map]
      congr 1
      exact List.filter_congr fun i _ => by simp [Function.comp, Nat.testBit_succ]
    rw [h0, hc]
    by_cases h1 : x % 2 = 1 <;> simp [h1, Function.comp, Nat.add_comm, Nat.add_left_comm]
theorem pre_more {p : Int → Bool} {k : Nat} (h : ∀ i : Nat, k ≤ i → p (i : Int) = false) : ∀ j, pre p (k + j) = pre p k
  | 0 => rfl
  | j + 1 => by rw [← Nat.add_assoc, pre_no (h _ (by omega)), pre_more h j]
theorem lowL_pre {x K : Nat} (h : x < 2 ^ K) (hK : K ≤ 64) : lowL 0 64 x = pre (drawn (x : Int)) K := by
  rw [lowL_filter]
  have h1 : pre (drawn (x : Int)) 64 = pre (drawn (x : Int)) K := by
    have := pre_more (p := drawn (x : Int)) (k := K) (fun i hi => by
      rw [drawn_nat]
      exact Nat.testBit_lt_two_pow (Nat.lt_of_lt_of_le h (Nat.pow_le_pow_right (by omega) hi))) (64 - K)
    rwa [show K + (64 - K) = 64 by omega] at this
  rw [← h1]
  unfold pre
  congr 1
  · funext i
    simp
  · exact List.filter_congr fun i _ => (drawn_nat x i).symm
theorem lowL_len : ∀ (f o x : Nat), (lowL o f x).length ≤ f
  | 0, _, _ => Nat.le_refl _
  | f + 1, o, x => by
    have := lowL_len f (o + 1) (x / 2)
    unfold lowL
    by_cases h : x % 2 = 1
    · rw [if_pos h]; simp; omega
    · rw [if_neg h]; simp; omega
end Go.Proofs.YtkekanllfpdeaaaDoor
