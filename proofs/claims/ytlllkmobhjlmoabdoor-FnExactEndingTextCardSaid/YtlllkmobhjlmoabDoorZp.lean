/-
  Texts of endings, plain.
-/
import Derived.Test.YtlllkmobhjlmoabDoorEnI
import Derived.Lib.Join
namespace Go.Proofs.YtlllkmobhjlmoabDoor
open Go.RowKit
set_option linter.unusedVariables false

def dgt (n : Int) : UInt8 := UInt8.ofNat (48 + n.toNat)
/-- A number below 100 in decimal. -/
def decL (n : Int) : List UInt8 := if n < 10 then [dgt n] else [dgt (n / 10), dgt (n % 10)]
/-- Numbers with commas between them. -/
def jn (l : List Int) : List UInt8 := Lib.join (l.map decL) [44]
def txtE (cs ls : List Int) : List UInt8 := jn cs ++ [59] ++ jn ls
theorem decL_le (n : Int) : (decL n).length ≤ 2 := by unfold decL; split <;> simp
theorem jn_nil : jn [] = [] := rfl
theorem jn_snoc (l : List Int) (x : Int) : jn (l ++ [x]) = (if l.length = 0 then jn l else jn l ++ [44]) ++ decL x := by
  cases l with
  | nil => simp [jn, Lib.join_nil, Lib.join_one]
  | cons a r =>
    simp only [List.length_cons, Nat.add_eq_zero_iff, Nat.one_ne_zero, and_false, if_false, List.cons_append]
    unfold jn
    simp only [List.map_cons, List.map_append, List.map_nil, Lib.join_cons]
    unfold Lib.joinTail
    simp [List.append_assoc]
theorem jn_le : ∀ (l : List Int), (jn l).length ≤ 3 * l.length := by
  intro l
  suffices h : ∀ (n : Nat) (l : List Int), l.length = n → (jn l).length ≤ 3 * n from h _ l rfl
  intro n
  induction n with
  | zero => intro l hl; rw [List.eq_nil_of_length_eq_zero hl]; simp [jn_nil]
  | succ n ih =>
    intro l hl
    have hne : l ≠ [] := by intro e; subst e; simp at hl
    rw [← List.dropLast_concat_getLast hne, jn_snoc]
    have h1 := ih l.dropLast (by simp; omega)
    have h2 := decL_le (l.getLast hne)
    split
    · rw [List.length_append]; omega
    · rw [List.length_append, List.length_append, List.length_singleton]; omega
/-- The answer. -/
def txtR (cs ls : List Int) : List UInt8 × Int := if okEn cs ls = true then (txtE cs ls, 0) else ([], 1)
def txtV (r : List UInt8 × Int) : Value := .tuple #[.string ⟨r.1.toArray⟩, .int .i64 r.2]
end Go.Proofs.YtlllkmobhjlmoabDoor
