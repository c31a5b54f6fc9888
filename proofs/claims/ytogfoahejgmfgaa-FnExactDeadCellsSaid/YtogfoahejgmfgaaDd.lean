/-
  Boards of hexagons: dead cells, plain.
-/
import Derived.Test.YtogfoahejgmfgaaDf
namespace Go.Proofs.Ytogfoahejgmfgaa
open Go.RowKit
set_option linter.unusedVariables false

theorem xor_walk {a b : Nat} (ha : a < 268435456) (hb : b < 268435456) : bits BinOp.xor IntKind.i64 (a : Int) (b : Int) = ((a ^^^ b : Nat) : Int) := by
  have h2 : a ^^^ b < 2 ^ 28 := Nat.xor_lt_two_pow (by omega) (by omega)
  have ha' : a % 2 ^ 64 = a := Nat.mod_eq_of_lt (by omega)
  have hb' : b % 2 ^ 64 = b := Nat.mod_eq_of_lt (by omega)
  have h3 : IntKind.i64.wrap ((a ^^^ b : Nat) : Int) = ((a ^^^ b : Nat) : Int) := by
    rw [IntKind.wrap_i64]
    obtain ⟨x, hx⟩ : ∃ x, x = a ^^^ b := ⟨_, rfl⟩
    rw [← hx] at h2 ⊢
    have h4 : x < 268435456 := h2
    omega
  have hk : IntKind.i64.bits = 64 := rfl
  simp only [bits, BitVec.ofInt_natCast, BitVec.toNat_xor, BitVec.toNat_ofNat, hk, ha', hb']
  exact h3
/-- A number with given digits. -/
theorem bits_ex : ∀ (m : Nat) (f : Nat → Bool), ∃ s, s < 2 ^ m ∧ ∀ j, j < m → s.testBit j = f j
  | 0, f => ⟨0, by simp, fun j hj => by omega⟩
  | m + 1, f => by
    obtain ⟨s, h1, h2⟩ := bits_ex m f
    cases hf : f m
    · refine ⟨s, Nat.lt_of_lt_of_le h1 (Nat.pow_le_pow_right (by omega) (by omega)), fun j hj => ?_⟩
      by_cases e : j = m
      · subst e; rw [hf]; exact Nat.testBit_lt_two_pow h1
      · exact h2 j (by omega)
    · refine ⟨s ||| 2 ^ m, Nat.or_lt_two_pow (Nat.lt_of_lt_of_le h1 (Nat.pow_le_pow_right (by omega) (by omega))) (Nat.pow_lt_pow_right (by omega) (by omega)), fun j hj => ?_⟩
      rw [Nat.testBit_or, Nat.testBit_two_pow]
      by_cases e : j = m
      · subst e; simp [hf]
      · rw [h2 j (by omega)]
        have : ¬ (m = j) := fun x => e x.symm
        simp [this]
def updB (f : Nat → Bool) (i : Nat) (b : Bool) (j : Nat) : Bool := if j = i then b else f j
/-- An empty cell whose owner decides nothing. -/
def deadP (n : Int) (cs : List Int) (i : Nat) : Prop := ∀ f : Nat → Bool, jnP n (fullB cs (updB f i true)) = jnP n (fullB cs (updB f i false))
/-- The program's test. -/
theorem dead_prog {n : Int} {cs : List Int} {i : Nat} (hi : i < (empC cs).length) : (∀ s, s < 2 ^ (empC cs).length → jnF n cs (s ^^^ 2 ^ i) = jnF n cs s) ↔ deadP n cs i := by
  constructor
  · intro h f
    obtain ⟨s, h1, h2⟩ := bits_ex (empC cs).length (updB f i true)
    have h3 := h s h1
    have e1 : jnF n cs s = jnP n (fullB cs (updB f i true)) := by
      unfold jnF
      rw [fullB_congr (f := fun j => s.testBit j) (g := updB f i true) (fun j hj => h2 j hj)]
    have e2 : jnF n cs (s ^^^ 2 ^ i) = jnP n (fullB cs (updB f i false)) := by
      unfold jnF
      rw [fullB_congr (f := fun j => (s ^^^ 2 ^ i).testBit j) (g := updB f i false) (fun j hj => ?_)]
      show (s ^^^ 2 ^ i).testBit j = _
      rw [Nat.testBit_xor, Nat.testBit_two_pow, h2 j hj]
      unfold updB
      by_cases e : j = i
      · subst e; simp
      · have : ¬ (i = j) := fun x => e x.symm
        simp [e, this]
    rw [← e1, ← e2, h3]
  · intro h s hs
    have h3 := h (fun j => s.testBit j)
    have e0 : ∀ b, s.testBit i = b → jnF n cs s = jnP n (fullB cs (updB (fun j => s.testBit j) i b)) ∧ jnF n cs (s ^^^ 2 ^ i) = jnP n (fullB cs (updB (fun j => s.testBit j) i (!b))) := by
      intro b hb
      unfold jnF
      have q1 : fullB cs (fun j => s.testBit j) = fullB cs (updB (fun j => s.testBit j) i b) := by
        refine fullB_congr (fun j hj => ?_)
        unfold updB
        by_cases e : j = i
        · subst e; simp [hb]
        · simp [e]
      have q2 : fullB cs (fun j => (s ^^^ 2 ^ i).testBit j) = fullB cs (updB (fun j => s.testBit j) i (!b)) := by
        refine fullB_congr (fun j hj => ?_)
        show (s ^^^ 2 ^ i).testBit j = _
        rw [Nat.testBit_xor, Nat.testBit_two_pow]
        unfold updB
        by_cases e : j = i
        · subst e; simp [hb]
        · have : ¬ (i = j) := fun x => e x.symm
          simp [e, this]
      exact ⟨by rw [q1], by rw [q2]⟩
    cases hb : s.testBit i with
    | true =>
      obtain ⟨e1, e2⟩ := e0 true hb
      rw [e1, e2]; exact h3.symm
    | false =>
      obtain ⟨e1, e2⟩ := e0 false hb
      rw [e1, e2]; exact h3
/-- The model's board for a set: its cells are the player 2's. -/
noncomputable def jnG (n : Int) (cs : List Int) (s : Nat) : Int := jnP n (fullB cs fun j => !s.testBit j)
noncomputable def jnH (n : Int) (cs : List Int) (s i : Nat) : Int := jnP n (fullB cs (updB (fun j => !s.testBit j) i false))
/-- The model's test. -/
theorem dead_spec {n : Int} {cs : List Int} {i : Nat} (hi : i < (empC cs).length) : (∀ s, s < 2 ^ (empC cs).length → s.testBit i = false → jnG n cs s = jnH n cs s i) ↔ deadP n cs i := by
  constructor
  · intro h f
    obtain ⟨s, h1, h2⟩ := bits_ex (empC cs).length (fun j => !(updB f i true j))
    have hb : s.testBit i = false := by rw [h2 i hi]; simp [updB]
    have h3 := h s h1 hb
    have e1 : jnG n cs s = jnP n (fullB cs (updB f i true)) := by
      unfold jnG
      rw [fullB_congr (f := fun j => !s.testBit j) (g := updB f i true) (fun j hj => ?_)]
      show (!s.testBit j) = _
      rw [h2 j hj]; simp
    have e2 : jnH n cs s i = jnP n (fullB cs (updB f i false)) := by
      unfold jnH
      rw [fullB_congr (f := updB (fun j => !s.testBit j) i false) (g := updB f i false) (fun j hj => ?_)]
      unfold updB
      by_cases e : j = i
      · simp [e]
      · simp only [e, if_false]
        rw [h2 j hj]; simp [updB, e]
    rw [← e1, ← e2, h3]
  · intro h s hs hb
    have h3 := h (fun j => !s.testBit j)
    have e1 : jnG n cs s = jnP n (fullB cs (updB (fun j => !s.testBit j) i true)) := by
      unfold jnG
      rw [fullB_congr (f := fun j => !s.testBit j) (g := updB (fun j => !s.testBit j) i true) (fun j hj => ?_)]
      unfold updB
      by_cases e : j = i
      · subst e; simp [hb]
      · simp [e]
    rw [e1]; exact h3
open Classical in
noncomputable def deadB (n : Int) (cs : List Int) (i : Nat) : Bool := decide (deadP n cs i)
theorem deadB_yes {n : Int} {cs : List Int} {i : Nat} (h : deadP n cs i) : deadB n cs i = true := by simp [deadB, h]
theorem deadB_no {n : Int} {cs : List Int} {i : Nat} (h : ¬ deadP n cs i) : deadB n cs i = false := by simp [deadB, h]
/-- The dead ones of the first k empty cells. -/
noncomputable def ddL (n : Int) (cs : List Int) : Nat → List Int
  | 0 => []
  | k + 1 => if deadB n cs k = true then ddL n cs k ++ [(empC cs).getD k 0] else ddL n cs k
theorem ddL_le (n : Int) (cs : List Int) : ∀ k, (ddL n cs k).length ≤ k
  | 0 => Nat.le_refl _
  | k + 1 => by
    have := ddL_le n cs k
    rw [ddL]
    split
    · simp; omega
    · omega
noncomputable def ddR (n : Int) (cs : List Int) : List Int × Int := if okH n cs = true then (if (empC cs).length ≤ 9 then (ddL n cs (empC cs).length, 0) else ([], 3)) else ([], 1)
theorem ddR_le (n : Int) (cs : List Int) : (ddR n cs).1.length ≤ 1048576 := by
  unfold ddR
  split
  · split
    · have := ddL_le n cs (empC cs).length
      show (ddL n cs (empC cs).length).length ≤ _
      omega
    · simp
  · simp
end Go.Proofs.Ytogfoahejgmfgaa
