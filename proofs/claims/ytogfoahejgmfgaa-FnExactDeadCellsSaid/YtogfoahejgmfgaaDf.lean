/-
  Boards of hexagons: full boards that come from a board, plain.
-/
import Derived.Test.YtogfoahejgmfgaaNp
import Derived.Test.YtogfoahejgmfgaaDg
namespace Go.Proofs.Ytogfoahejgmfgaa
open Go.RowKit
set_option linter.unusedVariables false

def bitI (b : Bool) : Int := if b = true then 1 else 2
/-- The board when the first k empty cells have been filled. -/
def fset (cs es : List Int) (f : Nat → Bool) : Nat → List Int
  | 0 => cs
  | k + 1 => (fset cs es f k).set (es.getD k 0).toNat (bitI (f k))
theorem fset_len (cs es : List Int) (f : Nat → Bool) : ∀ k, (fset cs es f k).length = cs.length
  | 0 => rfl
  | k + 1 => by rw [fset, List.length_set, fset_len cs es f k]
theorem hexAt_set {X : List Int} {c z : Int} (h0 : 0 ≤ c) (hc : c < X.length) (b : Int) (hb : 0 ≤ b) : hexAt (X.set c.toNat z) b = if b = c then z else hexAt X b := by
  unfold hexAt
  rw [List.getD_eq_getElem?_getD, List.getD_eq_getElem?_getD, List.getElem?_set]
  by_cases e : b = c
  · subst e
    rw [if_pos rfl, if_pos rfl, if_pos (by omega)]
    rfl
  · rw [if_neg (by omega), if_neg e]
theorem hexAt_ext {X Y : List Int} (hl : X.length = Y.length) (h : ∀ i : Nat, i < X.length → hexAt X (i : Int) = hexAt Y (i : Int)) : X = Y := by
  apply List.ext_getElem hl
  intro i h1 h2
  have := h i h1
  simpa [hexAt, h1, h2] using this
/-- Of the empty cells those before k are filled so; the other cells are as they were. -/
structure FillTo (cs es : List Int) (f : Nat → Bool) (k : Nat) (X : List Int) : Prop where
  len : X.length = cs.length
  out : ∀ c, 0 ≤ c → c ∉ es → hexAt X c = hexAt cs c
  bit : ∀ j, j < k → ∀ e, es[j]? = some e → hexAt X e = bitI (f j)
theorem FillTo.nil {cs es : List Int} {f : Nat → Bool} {X : List Int} (hl : X.length = cs.length) (h : ∀ c, 0 ≤ c → c ∉ es → hexAt X c = hexAt cs c) : FillTo cs es f 0 X := ⟨hl, h, fun j hj => by omega⟩
theorem FillTo.step {cs es : List Int} {f : Nat → Bool} {k : Nat} {X : List Int} {e : Int} (h : FillTo cs es f k X) (he : es[k]? = some e) (hin : ∀ e ∈ es, 0 ≤ e ∧ e < cs.length) (hnd : ∀ (i j : Nat) (x : Int), es[i]? = some x → es[j]? = some x → i = j) : FillTo cs es f (k + 1) (X.set e.toNat (bitI (f k))) := by
  obtain ⟨h0, h1⟩ := hin e (List.mem_of_getElem? he)
  have hl := h.len
  have hs := fun b hb => hexAt_set (X := X) (z := bitI (f k)) h0 (by omega) b hb
  refine ⟨by rw [List.length_set]; exact hl, fun c hc hne => ?_, fun j hj x hx => ?_⟩
  · rw [hs c hc, if_neg (fun e' => hne (by rw [e']; exact List.mem_of_getElem? he))]
    exact h.out c hc hne
  · obtain ⟨x0, _⟩ := hin x (List.mem_of_getElem? hx)
    rw [hs x x0]
    by_cases e' : x = e
    · subst e'
      rw [if_pos rfl, hnd j k x hx he]
    · rw [if_neg e']
      by_cases ej : j = k
      · subst ej; rw [he] at hx; cases hx; exact absurd rfl e'
      · exact h.bit j (by omega) x hx
theorem FillTo.two {cs es : List Int} {f : Nat → Bool} {k : Nat} {X : List Int} {e z : Int} (h : FillTo cs es f k X) (he : es[k]? = some e) (hin : ∀ e ∈ es, 0 ≤ e ∧ e < cs.length) (hnd : ∀ (i j : Nat) (x : Int), es[i]? = some x → es[j]? = some x → i = j) : FillTo cs es f k (X.set e.toNat z) := by
  obtain ⟨h0, h1⟩ := hin e (List.mem_of_getElem? he)
  have hl := h.len
  have hs := fun b hb => hexAt_set (X := X) (z := z) h0 (by omega) b hb
  refine ⟨by rw [List.length_set]; exact hl, fun c hc hne => ?_, fun j hj x hx => ?_⟩
  · rw [hs c hc, if_neg (fun e' => hne (by rw [e']; exact List.mem_of_getElem? he))]
    exact h.out c hc hne
  · obtain ⟨x0, _⟩ := hin x (List.mem_of_getElem? hx)
    rw [hs x x0, if_neg (fun e' => by subst e'; have := hnd j k x hx he; omega)]
    exact h.bit j hj x hx
theorem fset_fill {cs es : List Int} {f : Nat → Bool} (hin : ∀ e ∈ es, 0 ≤ e ∧ e < cs.length) (hnd : ∀ (i j : Nat) (x : Int), es[i]? = some x → es[j]? = some x → i = j) : ∀ k, k ≤ es.length → FillTo cs es f k (fset cs es f k)
  | 0, _ => FillTo.nil rfl (fun _ _ _ => rfl)
  | k + 1, hk => by
    have ih := fset_fill (f := f) hin hnd k (by omega)
    have he : es[k]? = some (es.getD k 0) := by rw [List.getD_eq_getElem?_getD, List.getElem?_eq_getElem (by omega)]; rfl
    exact ih.step he hin hnd
theorem fill_one {cs es : List Int} {f : Nat → Bool} {X Y : List Int} (h : FillTo cs es f es.length X) (h' : FillTo cs es f es.length Y) : X = Y := by
  refine hexAt_ext (h.len.trans h'.len.symm) (fun i hi => ?_)
  by_cases e : (i : Int) ∈ es
  · obtain ⟨j, hj, he⟩ := List.getElem_of_mem e
    have hj2 : es[j]? = some (i : Int) := by rw [List.getElem?_eq_getElem hj, he]
    rw [h.bit j hj _ hj2, h'.bit j hj _ hj2]
  · rw [h.out _ (by omega) e, h'.out _ (by omega) e]
theorem FillTo.congr {cs es : List Int} {f g : Nat → Bool} {k : Nat} {X : List Int} (h : FillTo cs es f k X) (hfg : ∀ j, j < k → f j = g j) : FillTo cs es g k X := ⟨h.len, h.out, fun j hj e he => by rw [← hfg j hj]; exact h.bit j hj e he⟩
/-- A full board is a board. -/
theorem fill_ok {n : Int} {cs es : List Int} {f : Nat → Bool} {X : List Int} (hok : okH n cs = true) (h : FillTo cs es f es.length X) : okH n X = true ∧ ∀ z ∈ X, 0 ≤ z ∧ z ≤ 2 := by
  obtain ⟨h1, h2, h3, h4⟩ := okH_yes hok
  have hz : ∀ z ∈ X, 0 ≤ z ∧ z ≤ 2 := by
    intro z hz
    obtain ⟨i, hi, rfl⟩ := List.getElem_of_mem hz
    have hx : hexAt X (i : Int) = X[i] := by simp [hexAt, hi]
    rw [← hx]
    by_cases e : (i : Int) ∈ es
    · obtain ⟨j, hj, he⟩ := List.getElem_of_mem e
      rw [h.bit j hj _ (by rw [List.getElem?_eq_getElem hj, he])]
      unfold bitI
      split <;> omega
    · rw [h.out _ (by omega) e]
      exact h4 _ (hexAt_mem (by have := h.len; simp; omega))
  exact ⟨okH_mk h1 h2 (by rw [h.len]; exact h3) hz, hz⟩

/-! ### the empty cells -/
def empC (cs : List Int) : List Int := cellsP cs 0
theorem empC_in {cs : List Int} : ∀ e ∈ empC cs, 0 ≤ e ∧ e < cs.length := fun e he => by
  obtain ⟨h1, h2, _⟩ := pre_mem (show e ∈ pre (fun c => hexAt cs c == 0) cs.length from he)
  exact ⟨h1, h2⟩
theorem pre_asc (p : Int → Bool) : ∀ k, (pre p k).Pairwise (· < ·)
  | 0 => by simp [pre]
  | k + 1 => by
    cases h : p (k : Int)
    · rw [pre_no h]; exact pre_asc p k
    · rw [pre_yes h, List.pairwise_append]
      refine ⟨pre_asc p k, by simp, fun a ha b hb => ?_⟩
      have := (pre_mem ha).2.1
      simp at hb
      omega
theorem asc_dup {l : List Int} (h : l.Pairwise (· < ·)) : ∀ (i j : Nat) (x : Int), l[i]? = some x → l[j]? = some x → i = j := by
  intro i j x hi hj
  obtain ⟨li, ei⟩ := List.getElem?_eq_some_iff.1 hi
  obtain ⟨lj, ej⟩ := List.getElem?_eq_some_iff.1 hj
  rw [List.pairwise_iff_getElem] at h
  rcases Nat.lt_trichotomy i j with e | e | e
  · have := h i j li lj e; omega
  · exact e
  · have := h j i lj li e; omega
theorem empC_dup (cs : List Int) : ∀ (i j : Nat) (x : Int), (empC cs)[i]? = some x → (empC cs)[j]? = some x → i = j := asc_dup (pre_asc (fun c => hexAt cs c == 0) cs.length)
/-- The full board in which just the empty cells with f are the player 1's. -/
def fullB (cs : List Int) (f : Nat → Bool) : List Int := fset cs (empC cs) f (empC cs).length
theorem fullB_fill (cs : List Int) (f : Nat → Bool) : FillTo cs (empC cs) f (empC cs).length (fullB cs f) := fset_fill empC_in (empC_dup cs) _ (Nat.le_refl _)
theorem fullB_eq {cs : List Int} {f : Nat → Bool} {X : List Int} (h : FillTo cs (empC cs) f (empC cs).length X) : X = fullB cs f := fill_one h (fullB_fill cs f)
theorem fullB_congr {cs : List Int} {f g : Nat → Bool} (h : ∀ j, j < (empC cs).length → f j = g j) : fullB cs f = fullB cs g := fullB_eq ((fullB_fill cs f).congr h)
/-- Who joins when the empty cells of the set s are the player 1's. -/
noncomputable def jnF (n : Int) (cs : List Int) (s : Nat) : Int := jnP n (fullB cs fun j => s.testBit j)
noncomputable def jnL (n : Int) (cs : List Int) : List Int := (List.range (2 ^ (empC cs).length)).map fun s => jnF n cs s
theorem jnL_len (n : Int) (cs : List Int) : (jnL n cs).length = 2 ^ (empC cs).length := by simp [jnL]
theorem jnL_get {n : Int} {cs : List Int} {s : Nat} (h : s < 2 ^ (empC cs).length) : (jnL n cs)[s]? = some (jnF n cs s) := by simp [jnL, h]
end Go.Proofs.Ytogfoahejgmfgaa
