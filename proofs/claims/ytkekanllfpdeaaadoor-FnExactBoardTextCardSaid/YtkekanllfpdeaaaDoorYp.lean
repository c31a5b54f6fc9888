/-
  Texts of boards, plain.
-/
import Derived.Test.YtkekanllfpdeaaaDoorBc
import Derived.Lib.Join
namespace Go.Proofs.YtkekanllfpdeaaaDoor
open Go.RowKit
set_option linter.unusedVariables false

def dgt (n : Int) : UInt8 := UInt8.ofNat (48 + n.toNat)
/-- A number below 100 in decimal. -/
def decL (n : Int) : List UInt8 := if n < 10 then [dgt n] else [dgt (n / 10), dgt (n % 10)]
theorem decL_le (n : Int) : (decL n).length ≤ 2 := by unfold decL; split <;> simp
/-- Words with a sign between them; so many of them. -/
def jw (s : UInt8) (L : List (List UInt8)) : List UInt8 := Lib.join L [s]
theorem jw_nil (s : UInt8) : jw s [] = [] := rfl
theorem jw_snoc (s : UInt8) (L : List (List UInt8)) (x : List UInt8) : jw s (L ++ [x]) = (if L.length = 0 then jw s L else jw s L ++ [s]) ++ x := by
  cases L with
  | nil => simp [jw, Lib.join_nil, Lib.join_one]
  | cons a r =>
    simp only [List.length_cons, Nat.add_eq_zero_iff, Nat.one_ne_zero, and_false, if_false, List.cons_append]
    unfold jw
    simp only [Lib.join_cons]
    unfold Lib.joinTail
    simp [List.append_assoc]
theorem jw_le (s : UInt8) {M : Nat} : ∀ (L : List (List UInt8)), (∀ x ∈ L, x.length ≤ M) → (jw s L).length ≤ (M + 1) * L.length := by
  intro L
  suffices h : ∀ (n : Nat) (L : List (List UInt8)), L.length = n → (∀ x ∈ L, x.length ≤ M) → (jw s L).length ≤ (M + 1) * n from h _ L rfl
  intro n
  induction n with
  | zero => intro L hl _; rw [List.eq_nil_of_length_eq_zero hl]; simp [jw_nil]
  | succ n ih =>
    intro L hl hM
    have hne : L ≠ [] := by intro e; subst e; simp at hl
    have h2 := hM _ (List.getLast_mem hne)
    have h1 := ih L.dropLast (by simp; omega) (fun x hx => hM x ((List.dropLast_sublist L).subset hx))
    rw [← List.dropLast_concat_getLast hne, jw_snoc, Nat.mul_add, Nat.mul_one]
    split
    · rw [List.length_append]; omega
    · rw [List.length_append, List.length_append, List.length_singleton]; omega
/-- A line's nodes with dots; the words of the first k elements. -/
def jn (s : UInt8) (l : List Int) : List UInt8 := jw s (l.map decL)
theorem jn_le (s : UInt8) (l : List Int) : (jn s l).length ≤ 3 * l.length := by
  have := jw_le s (M := 2) (l.map decL) (fun x hx => by obtain ⟨n, _, rfl⟩ := List.mem_map.1 hx; exact decL_le n)
  rw [List.length_map] at this
  exact this
def lnT (x : Int) : List UInt8 := jn 46 (nodesL x)
theorem lnT_le (x : Int) : (lnT x).length ≤ 48 := by
  have h1 := jn_le 46 (nodesL x)
  have h2 := nodesL_le x
  unfold lnT
  omega
theorem take_snoc {α β : Type} (f : α → β) {l : List α} {k : Nat} {x : α} (h : l[k]? = some x) : (l.take (k + 1)).map f = (l.take k).map f ++ [f x] := by
  rw [List.take_add_one, h]
  simp
theorem jw_first {α : Type} (s : UInt8) (f : α → List UInt8) {l : List α} {k : Nat} {x : α} (hk : k = 0) (h : l[k]? = some x) : jw s ((l.take (k + 1)).map f) = jw s ((l.take k).map f) ++ f x := by
  rw [take_snoc f h, jw_snoc, if_pos (by rw [hk]; simp)]
theorem jw_next {α : Type} (s : UInt8) (f : α → List UInt8) {l : List α} {k : Nat} {x : α} (hk : ¬ k = 0) (h : l[k]? = some x) : jw s ((l.take (k + 1)).map f) = (jw s ((l.take k).map f) ++ [s]) ++ f x := by
  have hl := (List.getElem?_eq_some_iff.1 h).1
  rw [take_snoc f h, jw_snoc, if_neg (by rw [List.length_map, List.length_take]; omega)]
/-- A board's text; the answer. -/
def txtB (n : Int) (cs : List Int) : List UInt8 := (decL n ++ [58]) ++ jw 44 (cs.map lnT)
def txtR (n : Int) (cs : List Int) : List UInt8 × Int := if okB n cs = true then (txtB n cs, 0) else ([], 1)
theorem nodesL_in {x z : Int} (h : z ∈ nodesL x) : 0 ≤ z ∧ z < 100 := by
  unfold nodesL at h
  obtain ⟨h1, h2, _⟩ := pre_mem h
  omega
end Go.Proofs.YtkekanllfpdeaaaDoor
