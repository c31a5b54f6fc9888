/-
  Seas, plain: lines of cells, placements in order. No walk stands here.
-/
import Derived.Test.YtkekanllfpdeaabSi
import Derived.Lib.SlicesCompact
namespace Go.Proofs.Ytkekanllfpdeaab
open Go.RowKit
set_option linter.unusedVariables false

/-! ### digits of numbers below 2^62 -/
theorem pow_62 {k : Int} (hk : k.toNat ≤ 61) : (0 : Int) ≤ 2 ^ k.toNat ∧ (2 : Int) ^ k.toNat ≤ 2305843009213693952 := by
  refine ⟨Int.le_of_lt (Int.pow_pos (by decide)), ?_⟩
  have := pow_mono hk
  simpa using this
theorem shl_walkX {k : Int} (hk : k.toNat ≤ 61) : wrap64 ((2 : Int) ^ k.toNat) = 2 ^ k.toNat := by
  have := pow_62 hk
  unfold wrap64
  omega
theorem or_walkX {E k : Int} (h0 : 0 ≤ E) (h1 : E < 4611686018427387904) (hk : k.toNat ≤ 61) : bits BinOp.or IntKind.i64 E (2 ^ k.toNat) = withE E k := by
  obtain ⟨m, rfl⟩ := Int.eq_ofNat_of_zero_le h0
  have h3 := (pow_62 hk).2
  have h4 : ((2 ^ k.toNat : Nat) : Int) ≤ 2305843009213693952 := by rw [Int.natCast_pow]; exact h3
  have := (bits_nat .i64 63 (by decide) wraps_i64 m (2 ^ k.toNat) (by omega) (by omega)).2
  rw [Int.natCast_pow] at this
  exact this
theorem withE_62 {E k : Int} (h0 : 0 ≤ E) (h1 : E < 4611686018427387904) (hk : k.toNat ≤ 61) : 0 ≤ withE E k ∧ withE E k < 4611686018427387904 :=
  ⟨withE_nonneg _ _, by have := withE_lt (n := 62) (k := k) h0 (by simpa using h1) (by omega); simpa using this⟩

/-! ### lines of cells -/
/-- A line of k cells more, with the steps dx, dy; none where it leaves the grid. -/
def lineGo (W H dx dy : Int) : Nat → Int → Int → Int → Option Int
  | 0, _, _, L => some L
  | k + 1, x, y, L => if x < 0 ∨ W ≤ x ∨ H ≤ y then none else lineGo W H dx dy k (x + dx) (y + dy) (withE L (y * W + x))
def lineAt (W H : Int) (n : Nat) (dx dy : Int) (s : Nat) : Option Int := lineGo W H dx dy n ((s : Int) % W) ((s : Int) / W) 0
def linesD (W H : Int) (n : Nat) (dx dy : Int) : List Int := (List.range (W * H).toNat).filterMap (lineAt W H n dx dy)
/-- The lines as the program makes them: rows first, then columns. -/
def linesL (W H : Int) (n : Nat) : List Int := linesD W H n 1 0 ++ linesD W H n 0 1

/-! ### a set kept in order -/
/-- Where x is to stand: behind the last number that is not greater. -/
def scanAt (x : Int) (zs : List Int) : Nat → Nat
  | 0 => 0
  | k + 1 => if x < zs.getD k 0 then scanAt x zs k else k + 1
def putS (x : Int) (zs : List Int) : List Int :=
  if scanAt x zs zs.length ≠ 0 ∧ zs.getD (scanAt x zs zs.length - 1) 0 = x then zs else zs.take (scanAt x zs zs.length) ++ x :: zs.drop (scanAt x zs zs.length)
def isortI : List Int → List Int
  | [] => []
  | x :: xs => insI x (isortI xs)
where insI (z : Int) : List Int → List Int
  | [] => [z]
  | x :: xs => if z ≤ x then z :: x :: xs else x :: insI z xs
def compI (zs : List Int) : List Int := Lib.compact zs

/-! ### the placements as the model makes them -/
def rowV (W : Int) (y x : Int) : Nat → Int
  | 0 => 0
  | i + 1 => withE (rowV W y x i) (y * W + x + i)
def colV (W : Int) (y x : Int) : Nat → Int
  | 0 => 0
  | i + 1 => withE (colV W y x i) ((y + i) * W + x)
def put2 (W H : Int) (n : Nat) (out : List Int) (y x : Int) : List Int :=
  let o1 := if x + n ≤ W then putS (rowV W y x n) out else out
  if y + n ≤ H then putS (colV W y x n) o1 else o1
def plRow (W H : Int) (n : Nat) (y : Int) : Nat → List Int → List Int
  | 0, out => out
  | x + 1, out => put2 W H n (plRow W H n y x out) y x
def plAll (W H : Int) (n : Nat) : Nat → List Int
  | 0 => []
  | y + 1 => plRow W H n y W.toNat (plAll W H n y)
def plc (W H : Int) (n : Nat) : List Int := plAll W H n H.toNat

/-! ### asked of the kernel, at all seas and lengths -/
def sides : List Nat := [1, 2, 3, 4, 5]
def plOk (W H n : Nat) : Bool := compI (isortI (linesL W H n)) == plc W H n && (plc W H n).all (fun z => decide (0 ≤ z) && decide (z < 33554432)) && decide ((plc W H n).length ≤ 50) && decide ((linesL W H n).length ≤ 50)
theorem plAll_ok : (sides.all fun W => sides.all fun H => sides.all fun n => plOk W H n) = true := by decide +kernel
theorem mem_sides {W : Int} (h0 : 1 ≤ W) (h1 : W ≤ 5) : ∃ w : Nat, W = w ∧ w ∈ sides := by
  refine ⟨W.toNat, by omega, ?_⟩
  have : W.toNat = 1 ∨ W.toNat = 2 ∨ W.toNat = 3 ∨ W.toNat = 4 ∨ W.toNat = 5 := by omega
  rcases this with h | h | h | h | h <;> rw [h] <;> decide
theorem pl_facts {W H n : Int} (w0 : 1 ≤ W) (w1 : W ≤ 5) (h0 : 1 ≤ H) (h1 : H ≤ 5) (n0 : 1 ≤ n) (n1 : n ≤ 5) :
    compI (isortI (linesL W H n.toNat)) = plc W H n.toNat ∧ (∀ z ∈ plc W H n.toNat, 0 ≤ z ∧ z < 33554432) ∧ (plc W H n.toNat).length ≤ 50 ∧ (linesL W H n.toNat).length ≤ 50 := by
  obtain ⟨a, rfl, ha⟩ := mem_sides w0 w1
  obtain ⟨b, rfl, hb⟩ := mem_sides h0 h1
  obtain ⟨c, rfl, hc⟩ := mem_sides n0 n1
  have h := List.all_eq_true.1 (List.all_eq_true.1 (List.all_eq_true.1 plAll_ok a ha) b hb) c hc
  rw [Int.toNat_natCast]
  simp only [plOk, Bool.and_eq_true, beq_iff_eq, List.all_eq_true, decide_eq_true_eq] at h
  exact ⟨h.1.1.1, h.1.1.2, h.1.2, h.2⟩

/-! ### a sorted list is one -/
theorem insI_perm (z : Int) (l : List Int) : (isortI.insI z l).Perm (z :: l) := by
  induction l with
  | nil => exact .refl _
  | cons x xs ih =>
    unfold isortI.insI
    split
    · exact .refl _
    · exact (ih.cons x).trans (.swap _ _ _)
theorem isortI_perm (l : List Int) : (isortI l).Perm l := by
  induction l with
  | nil => exact .refl _
  | cons x xs ih => exact (insI_perm x _).trans (ih.cons x)
theorem insI_sorted {z : Int} {l : List Int} (h : l.Pairwise (· ≤ ·)) : (isortI.insI z l).Pairwise (· ≤ ·) := by
  induction l with
  | nil => exact List.pairwise_singleton _ _
  | cons x xs ih =>
    unfold isortI.insI
    have hx := List.pairwise_cons.1 h
    split
    · rename_i hz
      refine List.pairwise_cons.2 ⟨fun a ha => ?_, h⟩
      rcases List.mem_cons.1 ha with rfl | ha
      · exact hz
      · have := hx.1 a ha; omega
    · refine List.pairwise_cons.2 ⟨fun a ha => ?_, ih hx.2⟩
      rcases List.mem_cons.1 ((insI_perm z xs).mem_iff.1 ha) with rfl | ha
      · omega
      · exact hx.1 a ha
theorem isortI_sorted (l : List Int) : (isortI l).Pairwise (· ≤ ·) := by
  induction l with
  | nil => exact .nil
  | cons x xs ih => exact insI_sorted ih
theorem sorted_unique {a b : List Int} (h : a.Perm b) (ha : a.Pairwise (· ≤ ·)) (hb : b.Pairwise (· ≤ ·)) : a = b :=
  h.eq_of_pairwise (fun x y _ _ h1 h2 => Int.le_antisymm h1 h2) ha hb
theorem isortI_of {a l : List Int} (h : a.Perm l) (ha : a.Pairwise (· ≤ ·)) : a = isortI l :=
  sorted_unique (h.trans (isortI_perm l).symm) ha (isortI_sorted l)
end Go.Proofs.Ytkekanllfpdeaab
