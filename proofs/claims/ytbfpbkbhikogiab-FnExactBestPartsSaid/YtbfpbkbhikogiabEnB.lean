/-
  Ends of dots and boxes: BoxesOf, both texts.
-/
import Derived.Test.YtbfpbkbhikogiabStr
namespace Go.Proofs.Ytbfpbkbhikogiab
open Go.RowKit
set_option linter.unusedVariables false

def boxR (cs ls : List Int) : Int × Int := if okEn cs ls = true then (sumL cs + sumL ls, 0) else (0, 1)
theorem sumL_strs (cs ls : List Int) : sumL ((strs cs ls).map (·.2)) = sumL cs + sumL ls := by
  have h : ∀ (k : Int) (l : List Int), (l.map (fun b => (k, b))).map (·.2) = l := by
    intro k l
    induction l with
    | nil => rfl
    | cons x r ih => simp only [List.map_cons, ih]
  unfold strs
  rw [List.map_append, h, h, sumL_append]
theorem sumTo_bd {l : List Int} (h : ∀ x ∈ l, 0 ≤ x ∧ x ≤ 30) (hl : l.length ≤ 8) (k : Nat) : 0 ≤ sumL (l.take k) ∧ sumL (l.take k) ≤ 240 := by
  have h2 := sumL_bd (l.take k) (fun x hx => h x (List.mem_of_mem_take hx))
  have h3 := List.length_take_le k l
  have h4 := List.length_take_le' k l
  omega
theorem okEn_bd {cs ls : List Int} (h : okEn cs ls = true) : (∀ x ∈ cs, 0 ≤ x ∧ x ≤ 30) ∧ (∀ x ∈ ls, 0 ≤ x ∧ x ≤ 30) ∧ cs.length ≤ 8 ∧ ls.length ≤ 8 := by
  obtain ⟨h8, h1, h2⟩ := okEn_parts h
  exact ⟨fun x hx => by have := srt_mem h1 x hx; omega, fun x hx => by have := srt_mem h2 x hx; omega, by omega, by omega⟩

end Go.Proofs.Ytbfpbkbhikogiab
