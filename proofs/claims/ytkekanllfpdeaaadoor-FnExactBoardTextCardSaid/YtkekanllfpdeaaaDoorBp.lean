/-
  Games of lines on points: plain functions on boards. No walk stands here.
-/
import Derived.Test.YtkekanllfpdeaaaDoorDg
namespace Go.Proofs.YtkekanllfpdeaaaDoor
open Go.RowKit
set_option linter.unusedVariables false

/-- strictly ascending with all elements in low..high -/
def ascB (low high : Int) : List Int → Bool
  | [] => true
  | x :: r => if x < low ∨ high < x then false else ascB (x + 1) high r
theorem ascB_no {low high x : Int} {r : List Int} (h : x < low ∨ high < x) : ascB low high (x :: r) = false := by rw [ascB, if_pos h]
theorem ascB_go {low high x : Int} {r : List Int} (h1 : low ≤ x) (h2 : x ≤ high) : ascB low high (x :: r) = ascB (x + 1) high r := by rw [ascB, if_neg (by omega)]
theorem ascB_mem : ∀ (cs : List Int) (lo hi : Int), ascB lo hi cs = true → ∀ z ∈ cs, lo ≤ z ∧ z ≤ hi
  | [], _, _, _, z, hz => by cases hz
  | x :: r, lo, hi, h, z, hz => by
    by_cases e : x < lo ∨ hi < x
    · rw [ascB_no e] at h; cases h
    · rw [ascB_go (by omega) (by omega)] at h
      rcases List.mem_cons.1 hz with rfl | hz
      · omega
      · have := ascB_mem r (x + 1) hi h z hz
        omega
theorem nn16 {n : Int} (h : 1 ≤ n ∧ n ≤ 16) : (2 : Int) ^ n.toNat ≤ 65536 := by
  have := pow_mono (a := n.toNat) (b := 16) (by omega)
  simpa using this
theorem nn9 {n : Int} (h : 1 ≤ n ∧ n ≤ 9) : (2 : Int) ^ n.toNat ≤ 512 := by
  have := pow_mono (a := n.toNat) (b := 9) (by omega)
  simpa using this
theorem pow_pos' (n : Int) : (1 : Int) ≤ 2 ^ n.toNat := by
  have : (0 : Int) < 2 ^ n.toNat := Int.pow_pos (by decide)
  omega

def okB (n : Int) (cs : List Int) : Bool := decide (1 ≤ n ∧ n ≤ 16) && (decide (cs.length ≤ 100) && ascB 1 (allI n) cs)
theorem okB_one {n : Int} {cs : List Int} (h : ¬ (1 ≤ n ∧ n ≤ 16)) : okB n cs = false := by simp [okB, h]
theorem okB_two {n : Int} {cs : List Int} (h : ¬ cs.length ≤ 100) : okB n cs = false := by simp [okB, h]
theorem okB_rest {n : Int} {cs : List Int} (h1 : 1 ≤ n ∧ n ≤ 16) (h2 : cs.length ≤ 100) : okB n cs = ascB 1 (allI n) cs := by simp [okB, h1, h2]
theorem okB_parts {n : Int} {cs : List Int} (h : okB n cs = true) : (1 ≤ n ∧ n ≤ 16) ∧ cs.length ≤ 100 ∧ ascB 1 (allI n) cs = true := by simpa [okB] using h
theorem okB_mem {n : Int} {cs : List Int} (h : okB n cs = true) {z : Int} (hz : z ∈ cs) : 1 ≤ z ∧ z < 2 ^ n.toNat ∧ z < 65536 := by
  obtain ⟨h1, _, h3⟩ := okB_parts h
  have := ascB_mem cs _ _ h3 z hz
  have := nn16 h1
  unfold allI at *
  omega
theorem allI_16 {n : Int} (h : 1 ≤ n ∧ n ≤ 16) : 0 ≤ allI n ∧ allI n < 65536 := by
  have := allI_range n
  have := nn16 h
  omega

/-! ### sets that fill or meet lines -/
def subB (l s : Int) : Bool := decide (diffI l s = 0)
theorem xor_zero {m k : Nat} : m ^^^ k = 0 ↔ k = m := by
  constructor
  · intro h
    apply Nat.eq_of_testBit_eq
    intro i
    have : (m ^^^ k).testBit i = false := by rw [h]; simp
    rw [Nat.testBit_xor] at this
    cases h1 : m.testBit i <;> cases h2 : k.testBit i <;> simp [h1, h2] at this ⊢
  · rintro rfl
    exact Nat.xor_self _
theorem subB_and {l s : Int} (h0 : 0 ≤ l) (k0 : 0 ≤ s) : decide (andI l s = l) = subB l s := by
  obtain ⟨a, rfl⟩ := Int.eq_ofNat_of_zero_le h0
  obtain ⟨b, rfl⟩ := Int.eq_ofNat_of_zero_le k0
  unfold subB
  apply decide_eq_decide.2
  have h := xor_zero (m := a) (k := a &&& b)
  constructor
  · intro e
    have e2 : a &&& b = a := by unfold andI at e; exact_mod_cast e
    show (((a ^^^ (a &&& b) : Nat)) : Int) = 0
    rw [h.2 e2]; rfl
  · intro e
    have e2 : a ^^^ (a &&& b) = 0 := by
      have e3 : (((a ^^^ (a &&& b) : Nat)) : Int) = 0 := e
      exact_mod_cast e3
    have e4 := h.1 e2
    show (((a &&& b : Nat)) : Int) = (a : Int)
    rw [e4]
def fil (cs : List Int) (s : Int) : Bool := cs.any fun l => subB l s
def lin (cs : List Int) (s : Int) : Option Int := cs.find? fun l => subB l s
theorem fil_lin (cs : List Int) (s : Int) : (lin cs s).isSome = fil cs s := by
  unfold lin fil
  induction cs with
  | nil => rfl
  | cons x r ih =>
    rw [List.find?_cons, List.any_cons]
    cases h : subB x s
    · simpa using ih
    · simp
theorem fil_false {cs : List Int} {s : Int} (h : fil cs s = false) : ∀ l ∈ cs, subB l s = false := by
  intro l hl
  unfold fil at h
  rw [List.any_eq_false] at h
  simpa using h l hl
theorem lin_none {cs : List Int} {s : Int} (h : fil cs s = false) : lin cs s = none := by
  have := fil_lin cs s
  rw [h] at this
  simpa using this
theorem lin_some {cs : List Int} {s : Int} (h : fil cs s = true) : ∃ l, lin cs s = some l := by
  have := fil_lin cs s
  rw [h] at this
  exact Option.isSome_iff_exists.1 this
def met (cs : List Int) (s : Int) : Bool := cs.all fun l => decide (andI l s ≠ 0)
theorem meet_sub {n l s : Int} (h0 : 0 ≤ l) (h1 : l < 2 ^ n.toNat) (k0 : 0 ≤ s) : diffI l (diffI (allI n) s) = andI l s := by
  have a0 := allI_range n
  have a1 := diffI_range (x := allI n) (y := s) (n := n.toNat) a0.1 a0.2 k0
  have a2 := diffI_range (x := l) (y := diffI (allI n) s) (n := n.toNat) h0 h1 a1.1
  have a3 := andI_range (x := l) (y := s) (n := n.toNat) h0 h1 k0
  refine eq_of_drawn a2.1 a2.2 a3.1 a3.2 (fun i hi => ?_)
  rw [drawn_diffI h0 a1.1 (by omega), drawn_diffI a0.1 k0 (by omega), drawn_andI h0 k0 (by omega), drawn_allI]
  simp [hi]
theorem any_mem {α : Type} {p q : α → Bool} : ∀ {l : List α}, (∀ x ∈ l, p x = q x) → l.any p = l.any q
  | [], _ => rfl
  | a :: r, h => by
    rw [List.any_cons, List.any_cons, h a List.mem_cons_self, any_mem (fun x hx => h x (List.mem_cons_of_mem _ hx))]
theorem met_fil {n : Int} {cs : List Int} (h : okB n cs = true) {s : Int} (k0 : 0 ≤ s) : met cs s = !fil cs (diffI (allI n) s) := by
  unfold met fil
  rw [List.all_eq_not_any_not]
  congr 1
  refine any_mem fun l hl => ?_
  obtain ⟨z0, z1, _⟩ := okB_mem h hl
  unfold subB
  rw [meet_sub (by omega) z1 k0]
  simp
end Go.Proofs.YtkekanllfpdeaaaDoor
