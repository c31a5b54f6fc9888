/-
  Boards of hexagons: the search for the need by a queue, plain.
-/
import Derived.Test.YtogfoahejgmfgaaHp
import Derived.Test.YtogfoahejgmfgaaHw
namespace Go.Proofs.Ytogfoahejgmfgaa
open Go.RowKit
set_option linter.unusedVariables false

def topN : Int := 9223372036854775807
/-- How a number of the table stands in memory. -/
def encI : Option Nat → Int
  | none => 9223372036854775807
  | some k => (k : Int)
def costH (cs : List Int) (c : Int) : Nat := if hexAt cs c = 0 then 1 else 0
/-- What the closure asks: the cell is none of the other player's, and the number is less than the one known. -/
def rchB (cs : List Int) (t : Tb) (c : Int) (k : Nat) : Bool := decide (hexAt cs c ≠ 2) && decide ((k : Int) < encI (tbAt t c))
def rchT (cs : List Int) (t : Tb) (c : Int) (k : Nat) : Tb := if rchB cs t c k = true then t.set c.toNat (some k) else t
def rchQ (cs : List Int) (t : Tb) (Q : List Int) (c : Int) (k : Nat) : List Int := if rchB cs t c k = true then Q ++ [c] else Q
theorem fH_one {cs : List Int} {c : Int} (h0 : 0 ≤ hexAt cs c) (h2 : hexAt cs c ≤ 2) : fH cs 1 c = if hexAt cs c = 2 then none else some (costH cs c) := by
  unfold fH costH
  rcases (by omega : hexAt cs c = 0 ∨ hexAt cs c = 1 ∨ hexAt cs c = 2) with h | h | h <;> simp [h]
/-- What is known: a table, and a queue of cells of which something is known. -/
structure Rq (n : Int) (cs : List Int) (t : Tb) (Q : List Int) : Prop where
  tab : Tab n cs 1 t
  q : ∀ c ∈ Q, 0 ≤ c ∧ c < n * n ∧ ∃ k, tbAt t c = some k
/-- Nothing gets worse. -/
def TLe (t t' : Tb) : Prop := ∀ c j, 0 ≤ c → tbAt t c = some j → ∃ k, tbAt t' c = some k ∧ k ≤ j
theorem TLe.refl (t : Tb) : TLe t t := fun _ j _ h => ⟨j, h, Nat.le_refl _⟩
theorem TLe.trans {a b c : Tb} (h : TLe a b) (k : TLe b c) : TLe a c := fun x j hx hj => by
  obtain ⟨j1, h1, l1⟩ := h x j hx hj
  obtain ⟨j2, h2, l2⟩ := k x j1 hx h1
  exact ⟨j2, h2, by omega⟩
/-- What a cell asks of a neighbour. -/
def Edge (cs : List Int) (t : Tb) (b c : Int) : Prop := ∀ j i, tbAt t b = some j → fH cs 1 c = some i → ∃ k, tbAt t c = some k ∧ k ≤ j + i
/-- Each cell that is not in the queue, but x, asks nothing of its neighbours; x asks nothing of those gone over. -/
def Clo (n : Int) (cs : List Int) (t : Tb) (Q : List Int) (x : Int) (pre : List Int) : Prop :=
  (∀ b, 0 ≤ b → b < n * n → b ∉ Q → b ≠ x → ∀ c ∈ near n b, Edge cs t b c) ∧ (x ∉ Q → ∀ c ∈ pre, Edge cs t x c)
theorem encI_lt {t : Tb} {c : Int} {k : Nat} (hk : k ≤ 1000) : ((k : Int) < encI (tbAt t c)) ↔ ∀ j, tbAt t c = some j → k < j := by
  cases h : tbAt t c with
  | none => simp [encI]; omega
  | some j => simp [encI]
theorem rch_step {n : Int} {cs : List Int} {t : Tb} {Q : List Int} {c : Int} {k : Nat} (hn : 1 ≤ n) (hn8 : n ≤ 8) (h : Rq n cs t Q) (h0 : 0 ≤ c) (h1 : c < n * n) (hz0 : 0 ≤ hexAt cs c) (hz2 : hexAt cs c ≤ 2)
    (hw : hexAt cs c ≠ 2 → Way n cs 1 c k) (hs : k ≤ known t + 1) :
    Rq n cs (rchT cs t c k) (rchQ cs t Q c k) ∧ TLe t (rchT cs t c k) ∧ mass (rchT cs t c k) * 2 + (rchQ cs t Q c k).length ≤ mass t * 2 + Q.length ∧ (hexAt cs c ≠ 2 → ∃ k', tbAt (rchT cs t c k) c = some k' ∧ k' ≤ k) ∧
    (∀ b, 0 ≤ b → b ∉ rchQ cs t Q c k → b ∉ Q ∧ tbAt (rchT cs t c k) b = tbAt t b) := by
  have hl := h.tab.len
  have hsq := (sq_nums hn hn8).2.1
  have hkl := known_le t
  have hlt : ((k : Int) < encI (tbAt t c)) ↔ ∀ j, tbAt t c = some j → k < j := encI_lt (by omega)
  unfold rchT rchQ
  cases hb : rchB cs t c k
  · simp only [Bool.false_eq_true, if_false]
    refine ⟨h, TLe.refl _, Nat.le_refl _, fun h2 => ?_, fun b _ hq => ⟨hq, by trivial⟩⟩
    have hb2 : ¬ ((k : Int) < encI (tbAt t c)) := by
      intro hlt2
      have : rchB cs t c k = true := by simp [rchB, h2, hlt2]
      rw [this] at hb; cases hb
    rw [hlt] at hb2
    cases hj : tbAt t c with
    | none => exact absurd (fun j e => by rw [hj] at e; cases e) hb2
    | some j =>
      refine ⟨j, rfl, ?_⟩
      by_cases e : k < j
      · exact absurd (fun j' e' => by rw [hj] at e'; cases e'; exact e) hb2
      · omega
  · simp only [if_true]
    have hb' : hexAt cs c ≠ 2 ∧ ((k : Int) < encI (tbAt t c)) := by
      simp only [rchB, Bool.and_eq_true, decide_eq_true_eq] at hb
      exact hb
    obtain ⟨hT, hm⟩ := h.tab.put hsq h0 h1 (hw hb'.1) hs (hlt.1 hb'.2)
    have hat : ∀ b, 0 ≤ b → tbAt (t.set c.toNat (some k)) b = if b = c then some k else tbAt t b := fun b hb0 => tbAt_set h0 (by omega) b hb0
    have hle : TLe t (t.set c.toNat (some k)) := by
      intro b j hb0 hj
      rw [hat b hb0]
      by_cases e : b = c
      · subst e; rw [if_pos rfl]; exact ⟨k, rfl, Nat.le_of_lt ((hlt.1 hb'.2) j hj)⟩
      · rw [if_neg e]; exact ⟨j, hj, Nat.le_refl _⟩
    refine ⟨⟨hT, fun b hbq => ?_⟩, hle, by simp; omega, fun _ => ⟨k, by rw [hat c h0, if_pos rfl], Nat.le_refl _⟩, fun b hb0 hq => ?_⟩
    · rw [List.mem_append] at hbq
      rcases hbq with hbq | hbq
      · obtain ⟨b0, b1, j, hj⟩ := h.q b hbq
        obtain ⟨k', hk', _⟩ := hle b j b0 hj
        exact ⟨b0, b1, k', hk'⟩
      · simp at hbq; subst hbq
        exact ⟨h0, h1, k, by rw [hat b h0, if_pos rfl]⟩
    · simp only [List.mem_append, List.mem_singleton, not_or] at hq
      exact ⟨hq.1, by rw [hat b hb0, if_neg hq.2]⟩
/-- One cell more has been gone over. -/
theorem clo_step {n : Int} {cs : List Int} {t t' : Tb} {Q Q' : List Int} {x c : Int} {pre : List Int} {j : Nat} (hx0 : 0 ≤ x) (hp : ∀ c ∈ pre, 0 ≤ c) (hn : 1 ≤ n) (h : Clo n cs t Q x pre) (hle : TLe t t')
    (hat : ∀ b, 0 ≤ b → b ∉ Q' → b ∉ Q ∧ tbAt t' b = tbAt t b) (hj : tbAt t x = some j) (hc : ∀ i, fH cs 1 c = some i → ∃ k, tbAt t' c = some k ∧ k ≤ j + i) : Clo n cs t' Q' x (pre ++ [c]) := by
  have key : ∀ b d, 0 ≤ b → 0 ≤ d → b ∉ Q' → Edge cs t b d → Edge cs t' b d := by
    intro b d hb0 hd0 hq he j' i hj' hi
    rw [(hat b hb0 hq).2] at hj'
    obtain ⟨k, hk, hkl⟩ := he j' i hj' hi
    obtain ⟨k', hk', hkl'⟩ := hle d k hd0 hk
    exact ⟨k', hk', by omega⟩
  refine ⟨fun b hb0 hb1 hq hbx d hd => key b d hb0 (near_in hn hb0 hb1 hd).1 hq (h.1 b hb0 hb1 (hat b hb0 hq).1 hbx d hd), fun hq d hd => ?_⟩
  rw [List.mem_append] at hd
  rcases hd with hd | hd
  · exact key x d hx0 (hp d hd) hq (h.2 (hat x hx0 hq).1 d hd)
  · simp at hd; subst hd
    intro j' i hj' hi
    rw [(hat x hx0 hq).2, hj] at hj'
    cases hj'
    exact hc i hi
/-- Between two rounds. -/
def ClO (n : Int) (cs : List Int) (t : Tb) (Q : List Int) : Prop := ∀ b, 0 ≤ b → b < n * n → b ∉ Q → ∀ c ∈ near n b, Edge cs t b c
theorem clo_beg {n : Int} {cs : List Int} {t : Tb} {Q : List Int} {y : Int} (h : ClO n cs t (y :: Q)) : Clo n cs t Q y [] :=
  ⟨fun b hb0 hb1 hq hby d hd => h b hb0 hb1 (by simp [hby, hq]) d hd, fun _ d hd => by simp at hd⟩
theorem clo_end {n : Int} {cs : List Int} {t : Tb} {Q : List Int} {y : Int} (h : Clo n cs t Q y (near n y)) : ClO n cs t Q := by
  intro b hb0 hb1 hq d hd
  by_cases e : b = y
  · subst e; exact h.2 hq d hd
  · exact h.1 b hb0 hb1 hq e d hd
/-- A table as the search leaves it. -/
theorem still_of {n : Int} {cs : List Int} {t : Tb} (h : ClO n cs t []) (hb : ∀ c i, 0 ≤ c → c < n * n → begH n 1 c = true → fH cs 1 c = some i → ∃ k, tbAt t c = some k ∧ k ≤ i) : Still n cs 1 t :=
  ⟨hb, fun b c j i hb0 hb1 hj hc hi => h b hb0 hb1 (by simp) c hc j i hj hi⟩
/-- Nothing is known but of cells in the queue. -/
def Fresh (t : Tb) (Q : List Int) : Prop := ∀ b, 0 ≤ b → b ∉ Q → tbAt t b = none
theorem Fresh.clo {n : Int} {cs : List Int} {t : Tb} {Q : List Int} (h : Fresh t Q) : ClO n cs t Q := by
  intro b hb0 _ hbq c _ j i hj
  rw [h b hb0 hbq] at hj; cases hj
theorem Fresh.step {t t' : Tb} {Q Q' : List Int} (h : Fresh t Q) (hat : ∀ b, 0 ≤ b → b ∉ Q' → b ∉ Q ∧ tbAt t' b = tbAt t b) : Fresh t' Q' := by
  intro b hb0 hq
  rw [(hat b hb0 hq).2]
  exact h b hb0 (hat b hb0 hq).1
theorem beg_row {n c : Int} (hn : 1 ≤ n) (h0 : 0 ≤ c) (h1 : c < n * n) : begH n 1 c = true ↔ c < n := by
  unfold begH
  rw [if_pos rfl, decide_eq_true_eq]
  constructor
  · intro h
    have := Int.mul_ediv_add_emod c n
    have h2 := Int.emod_lt_of_pos c (show 0 < n by omega)
    rw [h] at this
    omega
  · intro h
    exact Int.ediv_eq_zero_of_lt h0 h

/-! ### the least number of the last row -/
def mnL : List Int → Int
  | [] => 0
  | x :: r => r.foldl (fun a b => if b < a then b else a) x
theorem minO_assoc (a b c : Option Nat) : minO (minO a b) c = minO a (minO b c) := by
  cases a <;> cases b <;> cases c <;> simp only [minO]
  rename_i x y z
  congr 1
  by_cases h1 : y < x <;> by_cases h2 : z < y <;> by_cases h3 : z < x <;> simp [h1, h2, h3] <;> omega
theorem encI_min {a b : Option Nat} (ha : ∀ k, a = some k → k ≤ 1000) (hb : ∀ k, b = some k → k ≤ 1000) : encI (minO a b) = if encI b < encI a then encI b else encI a := by
  cases a with
  | none =>
    cases b with
    | none => simp [minO]
    | some y =>
      have := hb y rfl
      rw [if_pos (show encI (some y) < encI none by show (y : Int) < 9223372036854775807; omega)]
      rfl
  | some x =>
    have h1 := ha x rfl
    cases b with
    | none =>
      rw [if_neg (show ¬ encI none < encI (some x) by show ¬ ((9223372036854775807 : Int) < (x : Int)); omega)]
      rfl
    | some y =>
      by_cases e : y < x
      · rw [if_pos (show encI (some y) < encI (some x) by show (y : Int) < (x : Int); omega)]
        simp [minO, e]
      · rw [if_neg (show ¬ encI (some y) < encI (some x) by show ¬ ((y : Int) < (x : Int)); omega)]
        simp [minO, e]
theorem minO_small {a b : Option Nat} (ha : ∀ k, a = some k → k ≤ 1000) (hb : ∀ k, b = some k → k ≤ 1000) : ∀ k, minO a b = some k → k ≤ 1000 := by
  intro k hk
  rcases (minO_some hk).1 with h | h
  · exact ha k h
  · exact hb k h
theorem encI_fold {t : Tb} : ∀ (l : List Int) (x : Option Nat), (∀ k, x = some k → k ≤ 1000) → (∀ c ∈ l, ∀ k, tbAt t c = some k → k ≤ 1000) → (l.map fun c => encI (tbAt t c)).foldl (fun a b => if b < a then b else a) (encI x) = encI (minO x (leastO t l))
  | [], x, _, _ => by cases x <;> rfl
  | c :: l, x, hx, hl => by
    have hc := hl c List.mem_cons_self
    rw [List.map_cons, List.foldl_cons, ← encI_min hx hc, encI_fold l _ (minO_small hx hc) (fun d hd => hl d (List.mem_cons_of_mem _ hd)), minO_assoc]
    rfl
theorem encI_least {t : Tb} {l : List Int} (hne : l ≠ []) (hl : ∀ c ∈ l, ∀ k, tbAt t c = some k → k ≤ 1000) : mnL (l.map fun c => encI (tbAt t c)) = encI (leastO t l) := by
  cases l with
  | nil => exact absurd rfl hne
  | cons c l =>
    have h := encI_fold l (tbAt t c) (hl c List.mem_cons_self) (fun d hd => hl d (List.mem_cons_of_mem _ hd))
    exact h
def lastR (n : Int) (N : Nat) : List Int := (List.range N).map fun i : Nat => n * (n - 1) + (i : Int)
theorem mem_lastR {N : Nat} (hN : 1 ≤ N) {c : Int} : c ∈ lastR (N : Int) N ↔ 0 ≤ c ∧ c < (N : Int) * N ∧ endH N 1 c = true := by
  have hn : (1 : Int) ≤ (N : Int) := by omega
  simp only [lastR, List.mem_map, List.mem_range, endH, if_true, decide_eq_true_eq]
  constructor
  · rintro ⟨i, hi, rfl⟩
    have h1 := row_lt (n := (N : Int)) (y := (N : Int) - 1) (x := (i : Int)) (by omega) (by omega) (by omega) (by omega)
    exact ⟨h1.1, h1.2, div_row (by omega) (by omega)⟩
  · rintro ⟨c0, c1, he⟩
    obtain ⟨k1, k2, k3, k4, k5⟩ := cell_rc hn c0 c1
    refine ⟨(c % (N : Int)).toNat, by omega, ?_⟩
    rw [he] at k5
    omega
theorem lastR_ne {n : Int} {N : Nat} (hN : 1 ≤ N) : lastR n N ≠ [] := by
  intro h
  have := congrArg List.length h
  simp [lastR] at this
  omega
/-- The need of the player 1 in memory's spelling. -/
theorem need_enc {N : Nat} {cs : List Int} {t : Tb} (hN : 1 ≤ N) (hN8 : N ≤ 8) (h : Tab N cs 1 t) (hs : Still N cs 1 t) : mnL ((lastR N N).map fun c => encI (tbAt t c)) = encI (needO N cs 1) := by
  have hn : (1 : Int) ≤ (N : Int) := by omega
  have hsq := (sq_nums hn (by omega)).2.1
  have hl := h.len
  rw [h.need hn hs (l := lastR N N) (fun c => mem_lastR hN)]
  exact encI_least (lastR_ne hN) (fun c hc k hk => by have := h.le ((mem_lastR hN).1 hc).1 hk; omega)
theorem need_64 {N : Nat} {cs : List Int} {t : Tb} (hN : 1 ≤ N) (hN8 : N ≤ 8) (h : Tab N cs 1 t) (hs : Still N cs 1 t) {k : Nat} (hk : needO N cs 1 = some k) : k ≤ 64 := by
  have hn : (1 : Int) ≤ (N : Int) := by omega
  rw [h.need hn hs (l := lastR N N) (fun c => mem_lastR hN)] at hk
  exact needO_le hn (by omega) h (fun c hc => ((mem_lastR hN).1 hc).1) hk

/-! ### the model's pass -/
/-- The least way to a cell by those of its neighbours gone over. -/
def bstS (t : Tb) (step : Nat) (b : Option Nat) (z : Int) : Option Nat := match tbAt t z with
  | none => b
  | some far => match b with
    | none => some (far + step)
    | some b0 => if far + step < b0 then some (far + step) else some b0
def bstF (t : Tb) (step : Nat) (b : Option Nat) (l : List Int) : Option Nat := l.foldl (bstS t step) b
theorem bstF_snoc (t : Tb) (step : Nat) (b : Option Nat) (l : List Int) (z : Int) : bstF t step b (l ++ [z]) = bstS t step (bstF t step b l) z := by simp [bstF]
theorem bstS_le {t : Tb} {step : Nat} {b : Option Nat} {z : Int} : (∀ i, b = some i → ∃ k, bstS t step b z = some k ∧ k ≤ i) ∧ ∀ j, tbAt t z = some j → ∃ k, bstS t step b z = some k ∧ k ≤ j + step := by
  unfold bstS
  cases h : tbAt t z with
  | none => exact ⟨fun i hi => ⟨i, hi, Nat.le_refl _⟩, fun j hj => (by cases hj)⟩
  | some far =>
    cases b with
    | none => exact ⟨fun i hi => (by cases hi), fun j hj => (by cases hj; exact ⟨_, rfl, Nat.le_refl _⟩)⟩
    | some b0 =>
      refine ⟨fun i hi => ?_, fun j hj => ?_⟩
      · cases hi
        by_cases e : far + step < b0
        · exact ⟨far + step, by simp [e], by omega⟩
        · exact ⟨b0, by simp [e], by omega⟩
      · cases hj
        by_cases e : far + step < b0
        · exact ⟨far + step, by simp [e], by omega⟩
        · exact ⟨b0, by simp [e], by omega⟩
theorem bstF_le {t : Tb} {step : Nat} : ∀ (l : List Int) (b : Option Nat), (∀ i, b = some i → ∃ k, bstF t step b l = some k ∧ k ≤ i) ∧ ∀ z ∈ l, ∀ j, tbAt t z = some j → ∃ k, bstF t step b l = some k ∧ k ≤ j + step
  | [], b => ⟨fun i hi => ⟨i, hi, Nat.le_refl _⟩, fun z hz => by simp at hz⟩
  | z :: l, b => by
    have h1 := bstS_le (t := t) (step := step) (b := b) (z := z)
    have ih := bstF_le (t := t) (step := step) l (bstS t step b z)
    have e : bstF t step b (z :: l) = bstF t step (bstS t step b z) l := rfl
    rw [e]
    refine ⟨fun i hi => ?_, fun y hy j hj => ?_⟩
    · obtain ⟨k, hk, hkl⟩ := h1.1 i hi
      obtain ⟨k', hk', hkl'⟩ := ih.1 k hk
      exact ⟨k', hk', by omega⟩
    · rw [List.mem_cons] at hy
      rcases hy with rfl | hy
      · obtain ⟨k, hk, hkl⟩ := h1.2 j hj
        obtain ⟨k', hk', hkl'⟩ := ih.1 k hk
        exact ⟨k', hk', by omega⟩
      · exact ih.2 y hy j hj
theorem bstF_from {t : Tb} {step : Nat} : ∀ (l : List Int) (b : Option Nat) (k : Nat), bstF t step b l = some k → b = some k ∨ ∃ z ∈ l, ∃ j, tbAt t z = some j ∧ k = j + step
  | [], b, k, h => Or.inl h
  | z :: l, b, k, h => by
    have e : bstF t step b (z :: l) = bstF t step (bstS t step b z) l := rfl
    rw [e] at h
    rcases bstF_from l _ k h with h | ⟨y, hy, j, hj, hk⟩
    · unfold bstS at h
      cases hz : tbAt t z with
      | none => rw [hz] at h; exact Or.inl h
      | some far =>
        rw [hz] at h
        cases b with
        | none =>
          simp only [Option.some.injEq] at h
          exact Or.inr ⟨z, List.mem_cons_self, far, hz, h.symm⟩
        | some b0 =>
          simp only at h
          split at h
          · simp only [Option.some.injEq] at h
            exact Or.inr ⟨z, List.mem_cons_self, far, hz, h.symm⟩
          · exact Or.inl h
    · exact Or.inr ⟨y, List.mem_cons_of_mem _ hy, j, hj, hk⟩
def begO (n : Int) (cs : List Int) (p c : Int) : Option Nat := if begH n p c = true then some (costH cs c) else none
def bstO (n : Int) (cs : List Int) (p : Int) (t : Tb) (c : Int) : Option Nat := bstF t (costH cs c) (begO n cs p c) (near n c)
/-- Whether a cell's number is bettered. -/
def betB (b o : Option Nat) : Bool := match b with
  | none => false
  | some k => match o with
    | none => true
    | some j => decide (k < j)
theorem fH_cost {cs : List Int} {p c : Int} (hp : p = 1 ∨ p = 2) (h0 : 0 ≤ hexAt cs c) (h2 : hexAt cs c ≤ 2) : fH cs p c = if hexAt cs c = 3 - p then none else some (costH cs c) := by
  unfold fH costH
  rcases hp with rfl | rfl <;> rcases (by omega : hexAt cs c = 0 ∨ hexAt cs c = 1 ∨ hexAt cs c = 2) with h | h | h <;> simp [h]
theorem bst_put {n : Int} {cs : List Int} {p : Int} {t : Tb} {c : Int} {k : Nat} (hn : 1 ≤ n) (hn8 : n ≤ 8) (hp : p = 1 ∨ p = 2) (h : Tab n cs p t) (h0 : 0 ≤ c) (h1 : c < n * n) (hz0 : 0 ≤ hexAt cs c) (hz2 : hexAt cs c ≤ 2) (hne : hexAt cs c ≠ 3 - p)
    (hk : bstO n cs p t c = some k) (hb : betB (some k) (tbAt t c) = true) : Tab n cs p (t.set c.toNat (some k)) ∧ mass (t.set c.toNat (some k)) < mass t := by
  have hf : fH cs p c = some (costH cs c) := by rw [fH_cost hp hz0 hz2, if_neg hne]
  have hc1 : costH cs c ≤ 1 := by unfold costH; split <;> omega
  have hw : Way n cs p c k ∧ k ≤ known t + 1 := by
    rcases bstF_from _ _ k hk with e | ⟨z, hz, j, hj, rfl⟩
    · unfold begO at e
      split at e
      · rename_i hbg
        simp only [Option.some.injEq] at e
        subst e
        exact ⟨.beg h0 h1 hbg hf, by omega⟩
      · cases e
    · obtain ⟨z0, z1⟩ := near_in hn h0 h1 hz
      have hs := h.small z j z0 hj
      exact ⟨(h.way z j z0 hj).step (near_sym hn h0 h1 hz) hf, by omega⟩
  refine h.put (sq_nums hn hn8).2.1 h0 h1 hw.1 hw.2 (fun j hj => ?_)
  rw [hj] at hb
  simpa [betB] using hb
/-- A pass that betters nothing: the table is still. -/
theorem still_pass {n : Int} {cs : List Int} {p : Int} {t : Tb} (hn : 1 ≤ n) (hp : p = 1 ∨ p = 2) (hz : ∀ c, 0 ≤ c → c < n * n → 0 ≤ hexAt cs c ∧ hexAt cs c ≤ 2)
    (h : ∀ c, 0 ≤ c → c < n * n → hexAt cs c ≠ 3 - p → betB (bstO n cs p t c) (tbAt t c) = false) : Still n cs p t := by
  have key : ∀ c i, 0 ≤ c → c < n * n → fH cs p c = some i → hexAt cs c ≠ 3 - p ∧ costH cs c = i := by
    intro c i c0 c1 hf
    rw [fH_cost hp (hz c c0 c1).1 (hz c c0 c1).2] at hf
    split at hf
    · cases hf
    · rename_i hne
      exact ⟨hne, by simpa using hf⟩
  have bet : ∀ c k, 0 ≤ c → c < n * n → hexAt cs c ≠ 3 - p → bstO n cs p t c = some k → ∃ k', tbAt t c = some k' ∧ k' ≤ k := by
    intro c k c0 c1 hne hk
    have hb := h c c0 c1 hne
    rw [hk] at hb
    cases hj : tbAt t c with
    | none => rw [hj] at hb; simp [betB] at hb
    | some j =>
      rw [hj] at hb
      simp only [betB, decide_eq_false_iff_not] at hb
      exact ⟨j, rfl, by omega⟩
  refine ⟨fun c i c0 c1 hb hf => ?_, fun b c j i b0 b1 hj hc hf => ?_⟩
  · obtain ⟨hne, rfl⟩ := key c i c0 c1 hf
    obtain ⟨k, hk, hkl⟩ := (bstF_le (t := t) (step := costH cs c) (near n c) (begO n cs p c)).1 (costH cs c) (by unfold begO; rw [if_pos hb])
    obtain ⟨k', hk', hkl'⟩ := bet c k c0 c1 hne hk
    exact ⟨k', hk', by omega⟩
  · obtain ⟨c0, c1⟩ := near_in hn b0 b1 hc
    obtain ⟨hne, rfl⟩ := key c i c0 c1 hf
    obtain ⟨k, hk, hkl⟩ := (bstF_le (t := t) (step := costH cs c) (near n c) (begO n cs p c)).2 b (near_sym hn b0 b1 hc) j hj
    obtain ⟨k', hk', hkl'⟩ := bet c k c0 c1 hne hk
    exact ⟨k', hk', by omega⟩
end Go.Proofs.Ytogfoahejgmfgaa
