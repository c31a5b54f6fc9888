/-
  Dots and boxes: reflections. Plain functions.
-/
import Derived.Test.YtincdnlinepcgaaBxU
namespace Go.Proofs.Ytincdnlinepcgaa
open Go.RowKit
set_option linter.unusedVariables false

/-- Those of the pairs whose first is drawn: their seconds. -/
def foldE (E : Int) (l : List (Int × Int)) (acc : Int) : Int := l.foldl (fun a p => if drawn E p.1 then withE a p.2 else a) acc
theorem foldE_nonneg (E : Int) : ∀ (l : List (Int × Int)) (acc : Int), 0 ≤ acc → 0 ≤ foldE E l acc
  | [], acc, h => h
  | p :: l, acc, h => by
    show 0 ≤ foldE E l (if drawn E p.1 then withE acc p.2 else acc)
    refine foldE_nonneg E l _ ?_
    split
    · exact withE_nonneg _ _
    · exact h
theorem foldE_snoc (E : Int) (l : List (Int × Int)) (p : Int × Int) (acc : Int) : foldE E (l ++ [p]) acc = if drawn E p.1 then withE (foldE E l acc) p.2 else foldE E l acc := by
  unfold foldE
  rw [List.foldl_append]
  rfl
theorem foldE_lt (E : Int) (n : Nat) : ∀ (l : List (Int × Int)) (acc : Int), 0 ≤ acc → acc < 2 ^ n → (∀ p ∈ l, p.2.toNat < n) → foldE E l acc < 2 ^ n
  | [], acc, _, h, _ => h
  | p :: l, acc, h0, h, hp => by
    show foldE E l (if drawn E p.1 then withE acc p.2 else acc) < 2 ^ n
    refine foldE_lt E n l _ ?_ ?_ (fun q hq => hp q (List.mem_cons_of_mem _ hq))
    · split
      · exact withE_nonneg _ _
      · exact h0
    · split
      · exact withE_lt h0 h (hp p List.mem_cons_self)
      · exact h
theorem foldE_dg (E : Int) : ∀ (l : List (Int × Int)) (acc j : Int), 0 ≤ acc → 0 ≤ j → (∀ p ∈ l, 0 ≤ p.2) → (dg (foldE E l acc) j = 1 ↔ dg acc j = 1 ∨ ∃ p ∈ l, drawn E p.1 = true ∧ p.2 = j)
  | [], acc, j, _, _, _ => by simp [foldE]
  | p :: l, acc, j, h0, hj, hp => by
    have hp0 := hp p List.mem_cons_self
    have ih := foldE_dg E l (if drawn E p.1 then withE acc p.2 else acc) j (by split; exact withE_nonneg _ _; exact h0) hj (fun q hq => hp q (List.mem_cons_of_mem _ hq))
    show dg (foldE E l (if drawn E p.1 then withE acc p.2 else acc)) j = 1 ↔ _
    rw [ih]
    by_cases hd : drawn E p.1 = true
    · rw [if_pos hd, dg_withE h0 hp0 hj]
      by_cases e : j = p.2
      · subst e
        simp [hd]
      · have e' : ¬ p.2 = j := fun x => e x.symm
        simp [e, e']
    · rw [if_neg hd]
      simp [hd]
theorem eq_of_dg {a b : Int} (ha : 0 ≤ a) (hb : 0 ≤ b) (h : ∀ j : Int, 0 ≤ j → (dg a j = 1 ↔ dg b j = 1)) : a = b := by
  obtain ⟨m, rfl⟩ := Int.eq_ofNat_of_zero_le ha
  obtain ⟨n, rfl⟩ := Int.eq_ofNat_of_zero_le hb
  have : m = n := by
    apply Nat.eq_of_testBit_eq
    intro i
    have hi := h (i : Int) (by omega)
    rw [dg_nat, dg_nat] at hi
    cases h1 : m.testBit i <;> cases h2 : n.testBit i <;> simp [h1, h2] at hi ⊢
  rw [this]
theorem foldE_same (E : Int) {l k : List (Int × Int)} (hl : ∀ p ∈ l, 0 ≤ p.2) (h1 : ∀ p ∈ l, p ∈ k) (h2 : ∀ p ∈ k, p ∈ l) : foldE E l 0 = foldE E k 0 := by
  have hk : ∀ p ∈ k, 0 ≤ p.2 := fun p hp => hl p (h2 p hp)
  refine eq_of_dg (foldE_nonneg _ _ _ (Int.le_refl _)) (foldE_nonneg _ _ _ (Int.le_refl _)) fun j hj => ?_
  rw [foldE_dg E l 0 j (Int.le_refl _) hj hl, foldE_dg E k 0 j (Int.le_refl _) hj hk]
  constructor
  · rintro (h | ⟨p, hp, h⟩)
    · exact .inl h
    · exact .inr ⟨p, h1 p hp, h⟩
  · rintro (h | ⟨p, hp, h⟩)
    · exact .inl h
    · exact .inr ⟨p, h2 p hp, h⟩

/-! ### places -/
def mw (w h kind : Int) : Int := if kind = 2 then h else w
def mh (w h kind : Int) : Int := if kind = 2 then w else h
def plc (w h e : Int) : Bool × Int × Int := if e < nLie w h then (false, e / w, e % w) else (true, (e - nLie w h) / (w + 1), (e - nLie w h) % (w + 1))
def rplc (w h kind : Int) (p : Bool × Int × Int) : Bool × Int × Int :=
  if kind = 0 then (p.1, p.2.1, (if p.1 then w else w - 1) - p.2.2)
  else if kind = 1 then (p.1, (if p.1 then h - 1 else h) - p.2.1, p.2.2)
  else (!p.1, p.2.2, p.2.1)
def rfE (w h kind e : Int) : Int := edgeNo (mw w h kind) (mh w h kind) (rplc w h kind (plc w h e)).1 (rplc w h kind (plc w h e)).2.1 (rplc w h kind (plc w h e)).2.2
def prI (w h kind : Int) (n : Nat) : List (Int × Int) := (List.range n).map fun e : Nat => ((e : Int), rfE w h kind (e : Int))
def bxTo (w h kind i : Int) : Int := if kind = 0 then i / w * w + (w - 1 - i % w) else if kind = 1 then (h - 1 - i / w) * w + i % w else i % w * h + i / w
def atK (kind : Int) (k : Nat) : Nat := if kind = 0 then [0, 1, 3, 2].getD k 0 else if kind = 1 then [1, 0, 2, 3].getD k 0 else (k + 2) % 4
def prB (w h kind i : Int) (n : Nat) : List (Int × Int) := (List.range n).map fun k : Nat => ((around w h i).getD k 0, (around (mw w h kind) (mh w h kind) (bxTo w h kind i)).getD (atK kind k) 0)
def prS (w h kind : Int) (n : Nat) : List (Int × Int) := (List.range n).flatMap fun i : Nat => prB w h kind (i : Int) 4

def pairsB (w h kind : Int) : Bool :=
  (prI w h kind (nEdge w h).toNat).all (fun p => (prS w h kind (w * h).toNat).contains p) && (prS w h kind (w * h).toNat).all (fun p => (prI w h kind (nEdge w h).toNat).contains p) &&
  (prI w h kind (nEdge w h).toNat).all (fun p => decide (0 ≤ p.2 ∧ p.2 < nEdge (mw w h kind) (mh w h kind))) &&
  (List.range (nEdge w h).toNat).all (fun e : Nat => decide (0 ≤ (plc w h e).2.1 ∧ (plc w h e).2.1 ≤ 3 ∧ 0 ≤ (plc w h e).2.2 ∧ (plc w h e).2.2 ≤ 3 ∧ 0 ≤ (rplc w h kind (plc w h e)).2.1 ∧ (rplc w h kind (plc w h e)).2.1 ≤ 3 ∧ 0 ≤ (rplc w h kind (plc w h e)).2.2 ∧ (rplc w h kind (plc w h e)).2.2 ≤ 3)) &&
  (List.range (w * h).toNat).all (fun i : Nat => decide (0 ≤ bxTo w h kind i ∧ bxTo w h kind i < mw w h kind * mh w h kind))
theorem pairs_ok : ∀ w ∈ [(1 : Int), 2, 3], ∀ h ∈ [(1 : Int), 2, 3], ∀ k ∈ [(0 : Int), 1, 2], pairsB w h k = true := by decide +kernel
theorem pairs_of {w h kind : Int} (h1 : 1 ≤ w) (h2 : w ≤ 3) (h3 : 1 ≤ h) (h4 : h ≤ 3) (h5 : 0 ≤ kind) (h6 : kind ≤ 2) : pairsB w h kind = true := by
  refine pairs_ok w ?_ h ?_ kind ?_
  · rcases dims3 h1 h2 with rfl | rfl | rfl <;> simp
  · rcases dims3 h3 h4 with rfl | rfl | rfl <;> simp
  · rcases (by omega : kind = 0 ∨ kind = 1 ∨ kind = 2) with rfl | rfl | rfl <;> simp

/-- The reflected edges. -/
def refl3 (w h E kind : Int) : Int := foldE E (prI w h kind (nEdge w h).toNat) 0
theorem refl3_spec {w h kind : Int} (E : Int) (h1 : 1 ≤ w) (h2 : w ≤ 3) (h3 : 1 ≤ h) (h4 : h ≤ 3) (h5 : 0 ≤ kind) (h6 : kind ≤ 2) : refl3 w h E kind = foldE E (prS w h kind (w * h).toNat) 0 := by
  have hp := pairs_of h1 h2 h3 h4 h5 h6
  simp only [pairsB, Bool.and_eq_true, List.all_eq_true, decide_eq_true_eq] at hp
  obtain ⟨⟨⟨⟨p1, p2⟩, p3⟩, _⟩, _⟩ := hp
  exact foldE_same E (fun p hm => (p3 p hm).1) (fun p hm => by simpa using p1 p hm) (fun p hm => by simpa using p2 p hm)
theorem mdims {w h kind : Int} (h1 : 1 ≤ w) (h2 : w ≤ 3) (h3 : 1 ≤ h) (h4 : h ≤ 3) : 1 ≤ mw w h kind ∧ mw w h kind ≤ 3 ∧ 1 ≤ mh w h kind ∧ mh w h kind ≤ 3 := by
  unfold mw mh
  split <;> omega
theorem plc_range {w h kind : Int} {e : Nat} (h1 : 1 ≤ w) (h2 : w ≤ 3) (h3 : 1 ≤ h) (h4 : h ≤ 3) (h5 : 0 ≤ kind) (h6 : kind ≤ 2) (he : (e : Int) < nEdge w h) :
    (0 ≤ (plc w h e).2.1 ∧ (plc w h e).2.1 ≤ 3 ∧ 0 ≤ (plc w h e).2.2 ∧ (plc w h e).2.2 ≤ 3 ∧ 0 ≤ (rplc w h kind (plc w h e)).2.1 ∧ (rplc w h kind (plc w h e)).2.1 ≤ 3 ∧ 0 ≤ (rplc w h kind (plc w h e)).2.2 ∧ (rplc w h kind (plc w h e)).2.2 ≤ 3) ∧ 0 ≤ rfE w h kind e ∧ rfE w h kind e < nEdge (mw w h kind) (mh w h kind) := by
  have hp := pairs_of h1 h2 h3 h4 h5 h6
  simp only [pairsB, Bool.and_eq_true, List.all_eq_true, decide_eq_true_eq] at hp
  obtain ⟨⟨⟨_, p3⟩, p4⟩, _⟩ := hp
  have hm : e ∈ List.range (nEdge w h).toNat := List.mem_range.2 (by omega)
  exact ⟨p4 e hm, p3 (_, rfE w h kind e) (List.mem_map.2 ⟨e, hm, rfl⟩)⟩
theorem bxTo_range {w h kind : Int} {i : Nat} (h1 : 1 ≤ w) (h2 : w ≤ 3) (h3 : 1 ≤ h) (h4 : h ≤ 3) (h5 : 0 ≤ kind) (h6 : kind ≤ 2) (hi : (i : Int) < w * h) : 0 ≤ bxTo w h kind i ∧ bxTo w h kind i < mw w h kind * mh w h kind := by
  have hp := pairs_of h1 h2 h3 h4 h5 h6
  simp only [pairsB, Bool.and_eq_true, List.all_eq_true, decide_eq_true_eq] at hp
  exact hp.2 i (List.mem_range.2 (by omega))
theorem prI_snoc (w h kind : Int) (k : Nat) : prI w h kind (k + 1) = prI w h kind k ++ [((k : Int), rfE w h kind (k : Int))] := by simp [prI, List.range_succ]
/-- The first k edges told. -/
def rflTo (w h E kind : Int) (k : Nat) : Int := foldE E (prI w h kind k) 0
theorem rflTo_succ (w h E kind : Int) (k : Nat) : rflTo w h E kind (k + 1) = if drawn E (k : Int) then withE (rflTo w h E kind k) (rfE w h kind (k : Int)) else rflTo w h E kind k := by
  unfold rflTo
  rw [prI_snoc, foldE_snoc]
theorem rflTo_range {w h E kind : Int} {k : Nat} (h1 : 1 ≤ w) (h2 : w ≤ 3) (h3 : 1 ≤ h) (h4 : h ≤ 3) (h5 : 0 ≤ kind) (h6 : kind ≤ 2) (hk : (k : Int) ≤ nEdge w h) : okBox (mw w h kind) (mh w h kind) (rflTo w h E kind k) = true := by
  obtain ⟨m1, m2, m3, m4⟩ := mdims (kind := kind) h1 h2 h3 h4
  refine okBox_mk m1 m2 m3 m4 (foldE_nonneg _ _ _ (Int.le_refl _)) (foldE_lt E _ _ 0 (Int.le_refl _) (Int.pow_pos (by decide)) fun p hp => ?_)
  obtain ⟨e, he, rfl⟩ := List.mem_map.1 hp
  have := (plc_range (e := e) h1 h2 h3 h4 h5 h6 (by have := List.mem_range.1 he; omega)).2
  show (rfE w h kind e).toNat < _
  omega
end Go.Proofs.Ytincdnlinepcgaa
