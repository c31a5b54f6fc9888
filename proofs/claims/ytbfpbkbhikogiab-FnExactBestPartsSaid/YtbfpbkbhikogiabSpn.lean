/-
  Ends of dots and boxes: SparingNumber, the model's text.
-/
import Derived.Test.YtbfpbkbhikogiabAns
import Derived.Test.YtbfpbkbhikogiabEnB
namespace Go.Proofs.Ytbfpbkbhikogiab
open Go.RowKit
set_option linter.unusedVariables false

def kindOf (lp : Bool) : Int := match lp with | true => 1 | false => 0
def takerV (lp : Bool) (b v : Int) : Value := .tuple #[.int .i64 (b + v), .int .i64 (b - 2 * leftOf (kindOf lp) - v), .bool (spOpen (kindOf lp, b))]
set_option maxHeartbeats 400000 in
theorem taker_any (lp : Bool) (b v : Int) (W : World) (h0 : 0 ≤ b) (h1 : b ≤ 30) (h2 : -400 ≤ v) (h3 : v ≤ 400) :
    Calls Try.prog 34 #[.bool lp, .int .i64 b, .int .i64 v] W fun e W' => e = .returned (takerV lp b v) ∧ W = W' := by
  cases lp
  · have hl : Hid (takerV false b v = .tuple #[.int .i64 (b + v), .int .i64 (b - 4 - v), .bool (decide (2 < b))]) := hide (by simp [takerV, kindOf, leftOf, spOpen])
    rw [hl.out]
    go_enter Try.func34, Try.ntmps34
    go_wp2
    refine bodyPost_ret (v := .tuple #[.int .i64 (b + v), .int .i64 (b - 4 - v), .bool (decide (2 < b))]) (by simp [results, Try.results34, go_sem]) rfl ⟨rfl, rfl⟩
  · have hl : Hid (takerV true b v = .tuple #[.int .i64 (b + v), .int .i64 (b - 8 - v), .bool true]) := hide (by simp [takerV, kindOf, leftOf, spOpen])
    rw [hl.out]
    go_enter Try.func34, Try.ntmps34
    go_wp2
    refine bodyPost_ret (v := .tuple #[.int .i64 (b + v), .int .i64 (b - 8 - v), .bool true]) (by simp [results, Try.results34, go_sem]) rfl ⟨rfl, rfl⟩

def sparR (cs ls : List Int) : Int × Int := if okEn cs ls = true then (spar (strs cs ls), 0) else (0, 1)
theorem spar_yes {s : Int × Int} {ss : List (Int × Int)} {k : Nat} (h : ss[k]? = some s) (ho : spOpen s = true) (hk : k + 1 < ss.length) : spar (ss.drop k) = s.2 - 2 * leftOf s.1 + spar (ss.drop (k + 1)) := by
  rw [drop_of_get h, spar, if_pos ⟨fun e => by have := congrArg List.length e; simp at this; omega, ho⟩]
theorem spar_no {s : Int × Int} {ss : List (Int × Int)} {k : Nat} (h : ss[k]? = some s) (ho : spOpen s = false ∨ ¬ k + 1 < ss.length) : spar (ss.drop k) = s.2 - spar (ss.drop (k + 1)) := by
  rw [drop_of_get h, spar, if_neg]
  rintro ⟨h1, h2⟩
  rcases ho with ho | ho
  · rw [ho] at h2; cases h2
  · exact h1 (List.drop_eq_nil_of_le (by omega))
theorem strs_get1 {cs ls : List Int} {k : Nat} {b : Int} (h : cs[k]? = some b) : (strs cs ls)[k]? = some (0, b) := by
  have hk := (List.getElem?_eq_some_iff.1 h).1
  unfold strs
  rw [List.getElem?_append_left (by simpa using hk), List.getElem?_map, h]
  rfl
theorem strs_get2 {cs ls : List Int} {j : Nat} {b : Int} (h : ls[j]? = some b) : (strs cs ls)[cs.length + j]? = some (1, b) := by
  unfold strs
  rw [List.getElem?_append_right (by simp), List.length_map, Nat.add_sub_cancel_left, List.getElem?_map, h]
  rfl

end Go.Proofs.Ytbfpbkbhikogiab
