/-
  Boards of hexagons: ways of a player, their least number of empty cells, and who joins. No walk stands here.
-/
import Derived.Test.YtogfoahejgmfgaaHp
namespace Go.Proofs.Ytogfoahejgmfgaa
open Go.RowKit
set_option linter.unusedVariables false

/-- What a cell costs a player: nothing, one, or no way. -/
def fH (cs : List Int) (p c : Int) : Option Nat := if hexAt cs c = 0 then some 1 else if hexAt cs c = p then some 0 else none
def begH (n p c : Int) : Bool := if p = 1 then decide (c / n = 0) else decide (c % n = 0)
def endH (n p c : Int) : Bool := if p = 1 then decide (c / n = n - 1) else decide (c % n = n - 1)
def WayN (n : Int) (cs : List Int) (p : Int) : Nat → Int → Nat → Prop
  | 0, c, k => 0 ≤ c ∧ c < n * n ∧ begH n p c = true ∧ fH cs p c = some k
  | m + 1, c, k => ∃ b j i, WayN n cs p m b j ∧ c ∈ near n b ∧ fH cs p c = some i ∧ k = j + i
/-- A way of a player from its first side to the cell c, with k empty cells. -/
def Way (n : Int) (cs : List Int) (p c : Int) (k : Nat) : Prop := ∃ m, WayN n cs p m c k
theorem Way.beg {n : Int} {cs : List Int} {p c : Int} {k : Nat} (h0 : 0 ≤ c) (h1 : c < n * n) (h2 : begH n p c = true) (h3 : fH cs p c = some k) : Way n cs p c k := ⟨0, h0, h1, h2, h3⟩
theorem Way.step {n : Int} {cs : List Int} {p b c : Int} {j i : Nat} (h : Way n cs p b j) (h1 : c ∈ near n b) (h2 : fH cs p c = some i) : Way n cs p c (j + i) := by
  obtain ⟨m, hm⟩ := h
  exact ⟨m + 1, b, j, i, hm, h1, h2, rfl⟩
theorem Way.ind {n : Int} {cs : List Int} {p : Int} {motive : Int → Nat → Prop} (beg : ∀ c k, 0 ≤ c → c < n * n → begH n p c = true → fH cs p c = some k → motive c k)
    (step : ∀ b c j i, Way n cs p b j → c ∈ near n b → fH cs p c = some i → motive b j → motive c (j + i)) {c : Int} {k : Nat} (h : Way n cs p c k) : motive c k := by
  obtain ⟨m, hm⟩ := h
  induction m generalizing c k with
  | zero =>
    obtain ⟨h0, h1, h2, h3⟩ := hm
    exact beg c k h0 h1 h2 h3
  | succ m ih =>
    obtain ⟨b, j, i, h0, h1, h2, rfl⟩ := hm
    exact step b c j i ⟨m, h0⟩ h1 h2 (ih h0)
theorem Way.in {n : Int} {cs : List Int} {p c : Int} {k : Nat} (hn : 1 ≤ n) (h : Way n cs p c k) : 0 ≤ c ∧ c < n * n :=
  Way.ind (motive := fun c _ => 0 ≤ c ∧ c < n * n) (fun _ _ h0 h1 _ _ => ⟨h0, h1⟩) (fun _ _ _ _ _ h1 _ ih => near_in hn ih.1 ih.2 h1) h

def NeedIs (n : Int) (cs : List Int) (p : Int) : Option Nat → Prop
  | some k => (∃ c, endH n p c = true ∧ Way n cs p c k) ∧ ∀ c j, endH n p c = true → Way n cs p c j → k ≤ j
  | none => ∀ c j, endH n p c = true → ¬ Way n cs p c j
theorem needIs_one {n : Int} {cs : List Int} {p : Int} {o o' : Option Nat} (h : NeedIs n cs p o) (h' : NeedIs n cs p o') : o = o' := by
  cases o with
  | none =>
    cases o' with
    | none => rfl
    | some k =>
      obtain ⟨c, he, hw⟩ := h'.1
      exact absurd hw (h c k he)
  | some k =>
    obtain ⟨c, he, hw⟩ := h.1
    cases o' with
    | none => exact absurd hw (h' c k he)
    | some k' =>
      obtain ⟨c', he', hw'⟩ := h'.1
      have h1 := h.2 c' k' he' hw'
      have h2 := h'.2 c k he hw
      rw [show k = k' by omega]
theorem need_ex (n : Int) (cs : List Int) (p : Int) : ∃ o, NeedIs n cs p o := by
  by_cases h : ∃ k c, endH n p c = true ∧ Way n cs p c k
  · obtain ⟨k, hk⟩ := h
    induction k using Nat.strongRecOn with
    | ind k ih =>
      by_cases h2 : ∃ j, j < k ∧ ∃ c, endH n p c = true ∧ Way n cs p c j
      · obtain ⟨j, hj, hc⟩ := h2
        exact ih j hj hc
      · refine ⟨some k, hk, fun c j he hw => ?_⟩
        by_cases hj : j < k
        · exact absurd ⟨j, hj, c, he, hw⟩ h2
        · omega
  · exact ⟨none, fun c j he hw => h ⟨j, c, he, hw⟩⟩
/-- The need of a player, none if there is no way. -/
noncomputable def needO (n : Int) (cs : List Int) (p : Int) : Option Nat := Classical.epsilon (NeedIs n cs p)
theorem need_is (n : Int) (cs : List Int) (p : Int) : NeedIs n cs p (needO n cs p) := Classical.epsilon_spec (need_ex n cs p)
theorem need_eq {n : Int} {cs : List Int} {p : Int} {o : Option Nat} (h : NeedIs n cs p o) : needO n cs p = o := needIs_one (need_is n cs p) h

/-! ### a table of needs -/
/-- What is known of the cells: nothing, or the number of a way. -/
abbrev Tb := List (Option Nat)
def known : Tb → Nat
  | [] => 0
  | none :: t => known t
  | some _ :: t => known t + 1
def mass : Tb → Nat
  | [] => 0
  | none :: t => mass t + 100
  | some k :: t => mass t + k
theorem known_le : ∀ t : Tb, known t ≤ t.length
  | [] => Nat.le_refl _
  | none :: t => by have := known_le t; simp [known]; omega
  | some _ :: t => by have := known_le t; simp [known]; omega
theorem known_set : ∀ (t : Tb) (i k : Nat), i < t.length → (t[i]? = some none → known (t.set i (some k)) = known t + 1) ∧ ∀ j, t[i]? = some (some j) → known (t.set i (some k)) = known t
  | [], i, k, h => by simp at h
  | o :: t, 0, k, _ => by cases o <;> simp [known]
  | o :: t, i + 1, k, h => by
    have ih := known_set t i k (by simpa using h)
    cases o <;> simp only [List.getElem?_cons_succ, List.set_cons_succ, known]
    · exact ih
    · exact ⟨fun e => by rw [ih.1 e], fun j e => by rw [ih.2 j e]⟩
theorem mass_set : ∀ (t : Tb) (i k : Nat), i < t.length → (t[i]? = some none → mass (t.set i (some k)) + 100 = mass t + k) ∧ ∀ j, t[i]? = some (some j) → mass (t.set i (some k)) + j = mass t + k
  | [], i, k, h => by simp at h
  | o :: t, 0, k, _ => by
    cases o with
    | none => refine ⟨fun _ => by simp [mass]; omega, fun j e => by simp at e⟩
    | some x => refine ⟨fun e => by simp at e, fun j e => by simp at e; subst e; simp [mass]; omega⟩
  | o :: t, i + 1, k, h => by
    have ih := mass_set t i k (by simpa using h)
    cases o <;> simp only [List.getElem?_cons_succ, List.set_cons_succ, mass]
    · exact ⟨fun e => by have := ih.1 e; omega, fun j e => by have := ih.2 j e; omega⟩
    · exact ⟨fun e => by have := ih.1 e; omega, fun j e => by have := ih.2 j e; omega⟩

/-- What is known of a cell. -/
def tbAt (t : Tb) (c : Int) : Option Nat := t.getD c.toNat none
theorem tbAt_get {t : Tb} {k : Nat} {o : Option Nat} (h : t[k]? = some o) : tbAt t (k : Int) = o := by simp [tbAt, h]
theorem tbAt_set {t : Tb} {c : Int} {o : Option Nat} (h0 : 0 ≤ c) (hc : c < t.length) (b : Int) (hb : 0 ≤ b) : tbAt (t.set c.toNat o) b = if b = c then o else tbAt t b := by
  unfold tbAt
  rw [List.getD_eq_getElem?_getD, List.getD_eq_getElem?_getD, List.getElem?_set]
  by_cases e : b = c
  · subst e
    rw [if_pos rfl, if_pos rfl, if_pos (by omega)]
    rfl
  · rw [if_neg (by omega), if_neg e]
/-- Each number known is that of a way, and no more than there are numbers known. -/
structure Tab (n : Int) (cs : List Int) (p : Int) (t : Tb) : Prop where
  len : (t.length : Int) = n * n
  way : ∀ c k, 0 ≤ c → tbAt t c = some k → Way n cs p c k
  small : ∀ c k, 0 ≤ c → tbAt t c = some k → k ≤ known t
theorem tbAt_lt {t : Tb} {c : Int} {k : Nat} (h : tbAt t c = some k) : c.toNat < t.length := by
  unfold tbAt at h
  rw [List.getD_eq_getElem?_getD] at h
  by_cases e : c.toNat < t.length
  · exact e
  · rw [List.getElem?_eq_none (by omega)] at h; simp at h
theorem Tab.le {n : Int} {cs : List Int} {p : Int} {t : Tb} (h : Tab n cs p t) {c : Int} {k : Nat} (h0 : 0 ≤ c) (hk : tbAt t c = some k) : k ≤ t.length := Nat.le_trans (h.small c k h0 hk) (known_le t)
/-- A lesser number at a cell: still a table, and the mass is less. -/
theorem Tab.put {n : Int} {cs : List Int} {p : Int} {t : Tb} (h : Tab n cs p t) (hn : n * n ≤ 64) {c : Int} {k : Nat} (h0 : 0 ≤ c) (h1 : c < n * n) (hw : Way n cs p c k) (hs : k ≤ known t + 1) (hl : ∀ j, tbAt t c = some j → k < j) :
    Tab n cs p (t.set c.toNat (some k)) ∧ mass (t.set c.toNat (some k)) < mass t := by
  have hlen := h.len
  have hc : c.toNat < t.length := by omega
  obtain ⟨o, ho⟩ : ∃ o, t[c.toNat]? = some o := ⟨_, List.getElem?_eq_getElem hc⟩
  have hat : tbAt t c = o := by simp [tbAt, ho]
  have hkl := known_le t
  cases o with
  | none =>
    have hk := (known_set t c.toNat k hc).1 ho
    have hm := (mass_set t c.toNat k hc).1 ho
    refine ⟨⟨by rw [List.length_set]; exact hlen, fun b j hb hj => ?_, fun b j hb hj => ?_⟩, by omega⟩
    · rw [tbAt_set h0 (by omega) b hb] at hj
      split at hj
      · rename_i e; subst e; cases hj; exact hw
      · exact h.way b j hb hj
    · rw [tbAt_set h0 (by omega) b hb] at hj
      split at hj
      · cases hj; omega
      · have := h.small b j hb hj; omega
  | some j0 =>
    have hk := (known_set t c.toNat k hc).2 j0 ho
    have hm := (mass_set t c.toNat k hc).2 j0 ho
    have hlt := hl j0 hat
    have hs0 := h.small c j0 h0 hat
    refine ⟨⟨by rw [List.length_set]; exact hlen, fun b j hb hj => ?_, fun b j hb hj => ?_⟩, by omega⟩
    · rw [tbAt_set h0 (by omega) b hb] at hj
      split at hj
      · rename_i e; subst e; cases hj; exact hw
      · exact h.way b j hb hj
    · rw [tbAt_set h0 (by omega) b hb] at hj
      split at hj
      · cases hj; omega
      · have := h.small b j hb hj; omega
theorem known_rep (m : Nat) : known (List.replicate m none) = 0 := by
  induction m with
  | zero => rfl
  | succ m ih => simp [List.replicate_succ, known, ih]
theorem Tab.nil {n : Int} {cs : List Int} {p : Int} {m : Nat} (h : (m : Int) = n * n) : Tab n cs p (List.replicate m none) := by
  have h0 : ∀ c, tbAt (List.replicate m none) c = none := by
    intro c
    unfold tbAt
    rw [List.getD_eq_getElem?_getD, List.getElem?_replicate]
    split <;> rfl
  refine ⟨by simpa using h, fun c k _ hk => ?_, fun c k _ hk => ?_⟩
  · rw [h0] at hk; cases hk
  · rw [h0] at hk; cases hk
/-- Nothing can be bettered. -/
def Still (n : Int) (cs : List Int) (p : Int) (t : Tb) : Prop :=
  (∀ c i, 0 ≤ c → c < n * n → begH n p c = true → fH cs p c = some i → ∃ k, tbAt t c = some k ∧ k ≤ i) ∧
  ∀ b c j i, 0 ≤ b → b < n * n → tbAt t b = some j → c ∈ near n b → fH cs p c = some i → ∃ k, tbAt t c = some k ∧ k ≤ j + i
theorem Still.least {n : Int} {cs : List Int} {p : Int} {t : Tb} (hn : 1 ≤ n) (h : Still n cs p t) {c : Int} {j : Nat} (hw : Way n cs p c j) : ∃ k, tbAt t c = some k ∧ k ≤ j := by
  refine (Way.ind (motive := fun c j => 0 ≤ c ∧ c < n * n ∧ ∃ k, tbAt t c = some k ∧ k ≤ j) ?_ ?_ hw).2.2
  · intro c k h0 h1 h2 h3
    exact ⟨h0, h1, h.1 c k h0 h1 h2 h3⟩
  · intro b c j i _ h1 h2 ⟨b0, b1, k, hk, hkj⟩
    obtain ⟨c0, c1⟩ := near_in hn b0 b1 h1
    obtain ⟨k', hk', hle⟩ := h.2 b c k i b0 b1 hk h1 h2
    exact ⟨c0, c1, k', hk', by omega⟩
/-- The lesser of two, none the greatest. -/
def minO : Option Nat → Option Nat → Option Nat
  | none, b => b
  | a, none => a
  | some a, some b => some (if b < a then b else a)
/-- The least number known at cells. -/
def leastO (t : Tb) : List Int → Option Nat
  | [] => none
  | c :: l => minO (tbAt t c) (leastO t l)
theorem minO_none {a b : Option Nat} : minO a b = none ↔ a = none ∧ b = none := by
  cases a <;> cases b <;> simp [minO]
theorem minO_some {a b : Option Nat} {k : Nat} (h : minO a b = some k) : (a = some k ∨ b = some k) ∧ (∀ j, a = some j → k ≤ j) ∧ ∀ j, b = some j → k ≤ j := by
  cases a with
  | none => simp only [minO] at h; subst h; simp
  | some x =>
    cases b with
    | none => simp only [minO] at h; cases h; simp
    | some y =>
      simp only [minO, Option.some.injEq] at h
      subst h
      split <;> simp <;> omega
theorem leastO_some {t : Tb} : ∀ {l : List Int} {k : Nat}, leastO t l = some k → (∃ c ∈ l, tbAt t c = some k) ∧ ∀ c ∈ l, ∀ j, tbAt t c = some j → k ≤ j
  | [], k, h => by simp [leastO] at h
  | c :: l, k, h => by
    rw [leastO] at h
    obtain ⟨h1, h2, h3⟩ := minO_some h
    cases hl : leastO t l with
    | none =>
      rw [hl] at h1
      have h1 : tbAt t c = some k := by simpa using h1
      refine ⟨⟨c, by simp, h1⟩, fun b hb j hj => ?_⟩
      simp only [List.mem_cons] at hb
      rcases hb with rfl | hb
      · exact h2 j hj
      · exfalso
        clear h h1 h2 h3
        induction l with
        | nil => simp at hb
        | cons d l ih =>
          rw [leastO] at hl
          obtain ⟨e1, e2⟩ := minO_none.1 hl
          simp only [List.mem_cons] at hb
          rcases hb with rfl | hb
          · rw [e1] at hj; cases hj
          · exact ih e2 hb
    | some m =>
      obtain ⟨k1, k2⟩ := leastO_some hl
      have h4 := h3 m hl
      refine ⟨?_, fun b hb j hj => ?_⟩
      · rcases h1 with h1 | h1
        · exact ⟨c, by simp, h1⟩
        · rw [hl] at h1; cases h1
          obtain ⟨d, hd, hdk⟩ := k1
          exact ⟨d, by simp [hd], hdk⟩
      · simp only [List.mem_cons] at hb
        rcases hb with rfl | hb
        · exact h2 j hj
        · have := k2 b hb j hj; omega
theorem leastO_none {t : Tb} : ∀ {l : List Int}, leastO t l = none → ∀ c ∈ l, tbAt t c = none
  | [], _, c, hc => by simp at hc
  | d :: l, h, c, hc => by
    rw [leastO] at h
    obtain ⟨e1, e2⟩ := minO_none.1 h
    simp only [List.mem_cons] at hc
    rcases hc with rfl | hc
    · exact e1
    · exact leastO_none e2 c hc
/-- The need read off a table that is still. -/
theorem Tab.need {n : Int} {cs : List Int} {p : Int} {t : Tb} (hn : 1 ≤ n) (h : Tab n cs p t) (hs : Still n cs p t) {l : List Int} (hl : ∀ c, c ∈ l ↔ 0 ≤ c ∧ c < n * n ∧ endH n p c = true) : needO n cs p = leastO t l := by
  refine need_eq ?_
  cases ho : leastO t l with
  | none =>
    intro c j he hw
    obtain ⟨c0, c1⟩ := hw.in hn
    obtain ⟨k, hk, _⟩ := hs.least hn hw
    rw [leastO_none ho c ((hl c).2 ⟨c0, c1, he⟩)] at hk
    cases hk
  | some k =>
    obtain ⟨⟨c, hc, hck⟩, h2⟩ := leastO_some ho
    obtain ⟨c0, c1, he⟩ := (hl c).1 hc
    refine ⟨⟨c, he, h.way c k c0 hck⟩, fun b j hb hw => ?_⟩
    obtain ⟨b0, b1⟩ := hw.in hn
    obtain ⟨k', hk', hle⟩ := hs.least hn hw
    have := h2 b ((hl b).2 ⟨b0, b1, hb⟩) k' hk'
    omega
theorem needO_le {n : Int} {cs : List Int} {p : Int} {t : Tb} (hn : 1 ≤ n) (hn8 : n ≤ 8) (h : Tab n cs p t) {l : List Int} (hl : ∀ c ∈ l, 0 ≤ c) {k : Nat} (hk : leastO t l = some k) : k ≤ 64 := by
  obtain ⟨⟨c, hc, hck⟩, _⟩ := leastO_some hk
  have := h.le (hl c hc) hck
  have h1 := h.len
  have h2 := (sq_nums hn hn8).2.1
  omega

/-! ### mirrored boards -/
theorem fH_mir {n : Int} {cs : List Int} (hok : okH n cs = true) {c : Int} (h0 : 0 ≤ c) (h1 : c < n * n) : fH (mirH n cs) 1 c = fH cs 2 (trH n c) := by
  obtain ⟨hn, _, hcs, hz⟩ := okH_yes hok
  obtain ⟨t0, t1⟩ := trH_in hn h0 h1
  obtain ⟨z0, z2⟩ := hz _ (hexAt_mem (cs := cs) (c := trH n c) (by omega))
  unfold fH
  rw [mirH_at h0 (by omega)]
  rcases (by omega : hexAt cs (trH n c) = 0 ∨ hexAt cs (trH n c) = 1 ∨ hexAt cs (trH n c) = 2) with e | e | e <;> simp [swP, e]
theorem begH_tr {n c : Int} (hn : 1 ≤ n) (h0 : 0 ≤ c) (h1 : c < n * n) : begH n 2 (trH n c) = begH n 1 c ∧ begH n 1 (trH n c) = begH n 2 c ∧ endH n 2 (trH n c) = endH n 1 c ∧ endH n 1 (trH n c) = endH n 2 c := by
  obtain ⟨e1, e2⟩ := trH_div hn h0 h1
  simp [begH, endH, e1, e2]
theorem way_mir {n : Int} {cs : List Int} (hok : okH n cs = true) {c : Int} {k : Nat} (h : Way n (mirH n cs) 1 c k) : Way n cs 2 (trH n c) k := by
  obtain ⟨hn, _, hcs, hz⟩ := okH_yes hok
  refine (Way.ind (motive := fun c k => 0 ≤ c ∧ c < n * n ∧ Way n cs 2 (trH n c) k) ?_ ?_ h).2.2
  · intro c k h0 h1 h2 h3
    obtain ⟨t0, t1⟩ := trH_in hn h0 h1
    exact ⟨h0, h1, .beg t0 t1 (by rw [(begH_tr hn h0 h1).1]; exact h2) (by rw [← fH_mir hok h0 h1]; exact h3)⟩
  · intro b c j i _ h1 h2 ⟨b0, b1, hw⟩
    obtain ⟨c0, c1⟩ := near_in hn b0 b1 h1
    exact ⟨c0, c1, hw.step (near_tr hn b0 b1 h1) (by rw [← fH_mir hok c0 c1]; exact h2)⟩
theorem way_mir' {n : Int} {cs : List Int} (hok : okH n cs = true) {c : Int} {k : Nat} (h : Way n cs 2 c k) : Way n (mirH n cs) 1 (trH n c) k := by
  obtain ⟨hn, _, hcs, hz⟩ := okH_yes hok
  refine (Way.ind (motive := fun c k => 0 ≤ c ∧ c < n * n ∧ Way n (mirH n cs) 1 (trH n c) k) ?_ ?_ h).2.2
  · intro c k h0 h1 h2 h3
    obtain ⟨t0, t1⟩ := trH_in hn h0 h1
    exact ⟨h0, h1, .beg t0 t1 (by rw [(begH_tr hn h0 h1).2.1]; exact h2) (by rw [fH_mir hok t0 t1, trH_trH hn h0 h1]; exact h3)⟩
  · intro b c j i _ h1 h2 ⟨b0, b1, hw⟩
    obtain ⟨c0, c1⟩ := near_in hn b0 b1 h1
    obtain ⟨t0, t1⟩ := trH_in hn c0 c1
    exact ⟨c0, c1, hw.step (near_tr hn b0 b1 h1) (by rw [fH_mir hok t0 t1, trH_trH hn c0 c1]; exact h2)⟩
theorem needIs_mir {n : Int} {cs : List Int} (hok : okH n cs = true) {o : Option Nat} (h : NeedIs n (mirH n cs) 1 o) : NeedIs n cs 2 o := by
  obtain ⟨hn, _, hcs, hz⟩ := okH_yes hok
  cases o with
  | none =>
    intro c j he hw
    obtain ⟨c0, c1⟩ := hw.in hn
    exact h (trH n c) j (by rw [(begH_tr hn c0 c1).2.2.2]; exact he) (way_mir' hok hw)
  | some k =>
    obtain ⟨⟨c, he, hw⟩, h2⟩ := h
    obtain ⟨c0, c1⟩ := hw.in hn
    refine ⟨⟨trH n c, by rw [(begH_tr hn c0 c1).2.2.1]; exact he, way_mir hok hw⟩, fun b j hb hwb => ?_⟩
    obtain ⟨b0, b1⟩ := hwb.in hn
    exact h2 (trH n b) j (by rw [(begH_tr hn b0 b1).2.2.2]; exact hb) (way_mir' hok hwb)
theorem need_mir {n : Int} {cs : List Int} (hok : okH n cs = true) : needO n (mirH n cs) 1 = needO n cs 2 := (need_eq (needIs_mir hok (need_is n (mirH n cs) 1))).symm
theorem okH_mir {n : Int} {cs : List Int} (hok : okH n cs = true) : okH n (mirH n cs) = true := by
  obtain ⟨hn, hn8, hcs, hz⟩ := okH_yes hok
  refine okH_mk hn hn8 (by rw [mirH_len]; exact hcs) (fun z hzm => ?_)
  simp only [mirH, List.mem_map, List.mem_range] at hzm
  obtain ⟨i, hi, rfl⟩ := hzm
  obtain ⟨t0, t1⟩ := trH_in (a := (i : Int)) hn (by omega) (by omega)
  obtain ⟨z0, z2⟩ := hz _ (hexAt_mem (cs := cs) (c := trH n (i : Int)) (by omega))
  exact swP_range z0 z2

/-! ### who joins -/
noncomputable def jnsB (n : Int) (cs : List Int) (p : Int) : Bool := needO n cs p == some 0
noncomputable def jnP (n : Int) (cs : List Int) : Int := if jnsB n cs 1 = true then 1 else if jnsB n cs 2 = true then 2 else 0
theorem jns_iff {n : Int} {cs : List Int} {p : Int} : jnsB n cs p = true ↔ ∃ c, endH n p c = true ∧ Way n cs p c 0 := by
  have h := need_is n cs p
  unfold jnsB
  rw [beq_iff_eq]
  constructor
  · intro e
    rw [e] at h
    exact h.1
  · rintro ⟨c, he, hw⟩
    cases ho : needO n cs p with
    | none => rw [ho] at h; exact absurd hw (h c 0 he)
    | some k =>
      rw [ho] at h
      have := h.2 c 0 he hw
      obtain rfl : k = 0 := by omega
      rfl
end Go.Proofs.Ytogfoahejgmfgaa
