/-
  Games of lines on points: states, moves, values of both games. No walk stands here.
-/
import Derived.Test.YtkekanllfpdeaaaDoorBp
namespace Go.Proofs.YtkekanllfpdeaaaDoor
open Go.RowKit
set_option linter.unusedVariables false

theorem filter_one {p q : Nat → Bool} (k : Nat) : ∀ (m : Nat), k < m → p k = true → q k = false → (∀ j, j ≠ k → q j = p j) → ((List.range m).filter p).length = ((List.range m).filter q).length + 1
  | 0, h, _, _, _ => by omega
  | m + 1, h, hp, hq, he => by
    rw [List.range_succ, List.filter_append, List.filter_append, List.length_append, List.length_append]
    by_cases e : k = m
    · subst e
      have : (List.range k).filter p = (List.range k).filter q := List.filter_congr fun j hj => (he j (by have := List.mem_range.1 hj; omega)).symm
      rw [this]
      simp [hp, hq]
    · have ih := filter_one k m (by omega) hp hq he
      rw [ih]
      have := he m (fun x => e x.symm)
      simp only [List.filter_cons, List.filter_nil, this]
      omega

/-- A state of a game. -/
structure St (n F S : Int) : Prop where
  nn : 1 ≤ n ∧ n ≤ 9
  f : 0 ≤ F ∧ F < 2 ^ n.toNat
  s : 0 ≤ S ∧ S < 2 ^ n.toNat
  ap : andI F S = 0
  od : ones F = ones S ∨ ones F = ones S + 1
theorem St.lt {n F S : Int} (h : St n F S) : 0 ≤ F ∧ F < 512 ∧ 0 ≤ S ∧ S < 512 := by
  have := nn9 h.nn
  have := h.f
  have := h.s
  omega
def t1 (F S : Int) : Bool := decide (ones F = ones S)
def mF (F S p : Int) : Int := if t1 F S = true then withE F p else F
def mS (F S p : Int) : Int := if t1 F S = true then S else withE S p
def isFree (F S p : Int) : Bool := !drawn (orI F S) p
def frees (n F S : Int) : List Int := pre (isFree F S) n.toNat
def freeN (n F S : Int) : Nat := (frees n F S).length
theorem freeN_le (n F S : Int) : freeN n F S ≤ n.toNat := pre_le _ _
theorem frees_mem {n F S p : Int} (h : p ∈ frees n F S) : 0 ≤ p ∧ p < n ∧ isFree F S p = true := by
  obtain ⟨h1, h2, h3⟩ := pre_mem h
  exact ⟨h1, by omega, h3⟩
theorem frees_mk {n F S : Int} {p : Nat} (h : p < n.toNat) (h2 : isFree F S p = true) : (p : Int) ∈ frees n F S := by
  unfold frees pre
  exact List.mem_map.2 ⟨p, List.mem_filter.2 ⟨List.mem_range.2 h, h2⟩, rfl⟩
theorem isFree_parts {F S p : Int} (h0 : 0 ≤ F) (k0 : 0 ≤ S) (hp : 0 ≤ p) (h : isFree F S p = true) : drawn F p = false ∧ drawn S p = false := by
  unfold isFree at h
  rw [drawn_orI h0 k0 hp] at h
  simpa using h
theorem free_of_zero {n F S : Int} (h : St n F S) : freeN n F S = 0 ↔ orI F S = allI n := by
  have a0 := allI_range n
  have o0 := orI_range h.f.1 h.f.2 h.s.1 h.s.2
  constructor
  · intro e
    refine eq_of_drawn o0.1 o0.2 a0.1 a0.2 (fun i hi => ?_)
    rw [drawn_allI, decide_eq_true hi]
    have hn : frees n F S = [] := List.eq_nil_of_length_eq_zero e
    cases hd : drawn (orI F S) i
    · have := frees_mk (n := n) (F := F) (S := S) hi (by simp [isFree, hd])
      rw [hn] at this
      cases this
    · rfl
  · intro e
    unfold freeN
    rw [List.length_eq_zero_iff]
    apply List.eq_nil_iff_forall_not_mem.2
    intro p hp
    obtain ⟨h1, h2, h3⟩ := frees_mem hp
    obtain ⟨k, rfl⟩ := Int.eq_ofNat_of_zero_le h1
    unfold isFree at h3
    rw [e, drawn_allI, decide_eq_true (by omega : k < n.toNat)] at h3
    cases h3
theorem withE_2 {x p n : Int} (h : 0 ≤ x ∧ x < 2 ^ n.toNat) (hp : 0 ≤ p) (hp2 : p < n) : 0 ≤ withE x p ∧ withE x p < 2 ^ n.toNat := ⟨withE_nonneg _ _, withE_lt h.1 h.2 (by omega)⟩
theorem St.move {n F S p : Int} (h : St n F S) (hp : p ∈ frees n F S) : St n (mF F S p) (mS F S p) ∧ freeN n F S = freeN n (mF F S p) (mS F S p) + 1 ∧ t1 (mF F S p) (mS F S p) = !t1 F S := by
  obtain ⟨h0, h1, h2⟩ := frees_mem hp
  obtain ⟨d1, d2⟩ := isFree_parts h.f.1 h.s.1 h0 h2
  have hn := h.nn
  have hst : St n (mF F S p) (mS F S p) ∧ t1 (mF F S p) (mS F S p) = !t1 F S := by
    unfold mF mS
    cases e : t1 F S
    · have e1 : ones F = ones S + 1 := by
        have : ¬ ones F = ones S := by simpa [t1] using e
        have := h.od
        omega
      have e2 := ones_withE h.s.1 h0 (by omega) d2
      simp only [Bool.false_eq_true, if_false]
      refine ⟨⟨hn, h.f, withE_2 h.s h0 h1, ?_, by omega⟩, ?_⟩
      · rw [andI_comm]
        exact withE_free h.s.1 h.f.1 h0 (by rw [andI_comm]; exact h.ap) d1
      · simp [t1]; omega
    · have e1 : ones F = ones S := by simpa [t1] using e
      have e2 := ones_withE h.f.1 h0 (by omega) d1
      simp only [if_true]
      refine ⟨⟨hn, withE_2 h.f h0 h1, h.s, withE_free h.f.1 h.s.1 h0 h.ap d2, by omega⟩, ?_⟩
      simp [t1]; omega
  refine ⟨hst.1, ?_, hst.2⟩
  obtain ⟨k, rfl⟩ := Int.eq_ofNat_of_zero_le h0
  have hor : ∀ j : Nat, drawn (orI (mF F S k) (mS F S k)) j = (decide ((j : Int) = (k : Int)) || drawn (orI F S) j) := by
    intro j
    rw [drawn_orI hst.1.f.1 hst.1.s.1 (by omega), drawn_orI h.f.1 h.s.1 (by omega)]
    unfold mF mS
    cases e : t1 F S
    · simp only [Bool.false_eq_true, if_false]
      rw [drawn_withE h.s.1 (by omega) (by omega)]
      cases drawn F j <;> cases drawn S j <;> simp
    · simp only [if_true]
      rw [drawn_withE h.f.1 (by omega) (by omega)]
      cases drawn F j <;> cases drawn S j <;> simp
  unfold freeN frees pre
  rw [List.length_map, List.length_map]
  refine filter_one k n.toNat (by omega) h2 ?_ (fun j hj => ?_)
  · unfold isFree
    rw [hor k]
    simp
  · unfold isFree
    rw [hor j]
    have : ¬ ((j : Int) = (k : Int)) := by omega
    simp [this]

/-! ### greatest and least -/
def mxL : List Int → Int
  | [] => 0
  | x :: r => r.foldl (fun a b => if a < b then b else a) x
def mnL : List Int → Int
  | [] => 0
  | x :: r => r.foldl (fun a b => if b < a then b else a) x
theorem foldl_pick {f : Int → Int → Int} (hf : ∀ a b, f a b = a ∨ f a b = b) : ∀ (r : List Int) (x : Int), r.foldl f x = x ∨ r.foldl f x ∈ r
  | [], x => Or.inl rfl
  | y :: s, x => by
    simp only [List.foldl_cons]
    rcases hf x y with e | e
    · rw [e]
      rcases foldl_pick hf s x with h | h
      · exact Or.inl h
      · exact Or.inr (List.mem_cons_of_mem _ h)
    · rw [e]
      rcases foldl_pick hf s y with h | h
      · exact Or.inr (by rw [h]; exact List.mem_cons_self)
      · exact Or.inr (List.mem_cons_of_mem _ h)
theorem mxL_mem {l : List Int} (h : l ≠ []) : mxL l ∈ l := by
  cases l with
  | nil => exact absurd rfl h
  | cons x r =>
    rcases foldl_pick (f := fun a b => if a < b then b else a) (fun a b => by by_cases e : a < b <;> simp [e]) r x with e | e
    · show r.foldl _ x ∈ _
      rw [e]; exact List.mem_cons_self
    · exact List.mem_cons_of_mem _ e
theorem mnL_mem {l : List Int} (h : l ≠ []) : mnL l ∈ l := by
  cases l with
  | nil => exact absurd rfl h
  | cons x r =>
    rcases foldl_pick (f := fun a b => if b < a then b else a) (fun a b => by by_cases e : b < a <;> simp [e]) r x with e | e
    · show r.foldl _ x ∈ _
      rw [e]; exact List.mem_cons_self
    · exact List.mem_cons_of_mem _ e
theorem mxF_ge : ∀ (r : List Int) (x : Int), x ≤ r.foldl (fun a b => if a < b then b else a) x ∧ ∀ y ∈ r, y ≤ r.foldl (fun a b => if a < b then b else a) x
  | [], x => ⟨Int.le_refl _, fun y hy => by cases hy⟩
  | z :: s, x => by
    simp only [List.foldl_cons]
    have hm : x ≤ (if x < z then z else x) ∧ z ≤ (if x < z then z else x) := by split <;> omega
    obtain ⟨m, hm'⟩ : ∃ m, m = (if x < z then z else x) := ⟨_, rfl⟩
    rw [← hm'] at hm ⊢
    obtain ⟨h1, h2⟩ := mxF_ge s m
    refine ⟨by omega, fun y hy => ?_⟩
    rcases List.mem_cons.1 hy with rfl | hy
    · omega
    · exact h2 y hy
theorem mnF_le : ∀ (r : List Int) (x : Int), r.foldl (fun a b => if b < a then b else a) x ≤ x ∧ ∀ y ∈ r, r.foldl (fun a b => if b < a then b else a) x ≤ y
  | [], x => ⟨Int.le_refl _, fun y hy => by cases hy⟩
  | z :: s, x => by
    simp only [List.foldl_cons]
    have hm : (if z < x then z else x) ≤ x ∧ (if z < x then z else x) ≤ z := by split <;> omega
    obtain ⟨m, hm'⟩ : ∃ m, m = (if z < x then z else x) := ⟨_, rfl⟩
    rw [← hm'] at hm ⊢
    obtain ⟨h1, h2⟩ := mnF_le s m
    refine ⟨by omega, fun y hy => ?_⟩
    rcases List.mem_cons.1 hy with rfl | hy
    · omega
    · exact h2 y hy
theorem mxL_ge {l : List Int} {y : Int} (h : y ∈ l) : y ≤ mxL l := by
  cases l with
  | nil => cases h
  | cons x r =>
    obtain ⟨h1, h2⟩ := mxF_ge r x
    rcases List.mem_cons.1 h with rfl | h
    · exact h1
    · exact h2 y h
theorem mnL_le {l : List Int} {y : Int} (h : y ∈ l) : mnL l ≤ y := by
  cases l with
  | nil => cases h
  | cons x r =>
    obtain ⟨h1, h2⟩ := mnF_le r x
    rcases List.mem_cons.1 h with rfl | h
    · exact h1
    · exact h2 y h
def pick (b : Bool) (l : List Int) : Int := if b = true then mxL l else mnL l
theorem pick_mem {b : Bool} {l : List Int} (h : l ≠ []) : pick b l ∈ l := by
  unfold pick
  split
  · exact mxL_mem h
  · exact mnL_mem h

/-! ### values -/
def endM (n : Int) (cs : List Int) (F S : Int) : Option Int := if fil cs F = true then some 1 else if orI F S = allI n then some (-1) else none
def endR (n : Int) (cs : List Int) (F S : Int) : Option Int := if fil cs F = true then some 1 else if fil cs S = true then some (-1) else if orI F S = allI n then some 0 else none
def gv (E : Int → Int → Option Int) (n : Int) : Nat → Int → Int → Int
  | 0, F, S => (E F S).getD 0
  | k + 1, F, S => (E F S).getD (pick (t1 F S) ((frees n F S).map fun p => gv E n k (mF F S p) (mS F S p)))
def val (E : Int → Int → Option Int) (n F S : Int) : Int := gv E n (freeN n F S) F S
def kids (E : Int → Int → Option Int) (n F S : Int) : List Int := (frees n F S).map fun p => val E n (mF F S p) (mS F S p)
theorem val_end {E : Int → Int → Option Int} {n F S r : Int} (h : E F S = some r) : val E n F S = r := by
  unfold val
  cases freeN n F S <;> simp [gv, h]
theorem val_step {E : Int → Int → Option Int} {n F S : Int} (h : St n F S) (hE : E F S = none) : val E n F S = pick (t1 F S) (kids E n F S) := by
  unfold val kids
  cases hk : freeN n F S with
  | zero =>
    have hn : frees n F S = [] := List.eq_nil_of_length_eq_zero hk
    rw [hn]
    simp only [gv, hE, Option.getD_none, List.map_nil, pick]
    split <;> rfl
  | succ k =>
    simp only [gv, hE, Option.getD_none]
    congr 1
    refine List.map_congr_left fun p hp => ?_
    obtain ⟨_, h2, _⟩ := h.move hp
    unfold val
    rw [show freeN n (mF F S p) (mS F S p) = k by omega]
theorem kids_ne {E : Int → Int → Option Int} {n F S : Int} (h : freeN n F S ≠ 0) : kids E n F S ≠ [] := by
  intro e
  apply h
  have := congrArg List.length e
  unfold kids at this
  simpa [freeN] using this
def Small3 (E : Int → Int → Option Int) : Prop := ∀ F S r, E F S = some r → -1 ≤ r ∧ r ≤ 1
theorem endM_small (n : Int) (cs : List Int) : Small3 (endM n cs) := by
  intro F S r h
  unfold endM at h
  split at h
  · cases h; omega
  · split at h
    · cases h; omega
    · cases h
theorem endR_small (n : Int) (cs : List Int) : Small3 (endR n cs) := by
  intro F S r h
  unfold endR at h
  split at h
  · cases h; omega
  · split at h
    · cases h; omega
    · split at h
      · cases h; omega
      · cases h
theorem gv_range {E : Int → Int → Option Int} (hE : Small3 E) (n : Int) : ∀ (k : Nat) (F S : Int), -1 ≤ gv E n k F S ∧ gv E n k F S ≤ 1
  | 0, F, S => by
    unfold gv
    cases h : E F S
    · simp
    · simpa using hE F S _ h
  | k + 1, F, S => by
    unfold gv
    cases h : E F S
    · simp only [Option.getD_none]
      by_cases hn : (frees n F S).map (fun p => gv E n k (mF F S p) (mS F S p)) = []
      · rw [hn]
        unfold pick
        split <;> simp [mxL, mnL]
      · have hm := pick_mem (b := t1 F S) hn
        obtain ⟨p, _, hp⟩ := List.mem_map.1 hm
        rw [← hp]
        exact gv_range hE n k _ _
    · simpa using hE F S _ h
theorem val_range {E : Int → Int → Option Int} (hE : Small3 E) (n F S : Int) : -1 ≤ val E n F S ∧ val E n F S ≤ 1 := gv_range hE n _ _ _

/-- Best nodes. -/
def bestL (n : Int) (cs : List Int) (F S : Int) : List Int := (frees n F S).filter fun p => val (endR n cs) n (mF F S p) (mS F S p) == val (endR n cs) n F S
theorem bestL_ne {n : Int} {cs : List Int} {F S : Int} (h : St n F S) (hE : endR n cs F S = none) : bestL n cs F S ≠ [] := by
  have hf : freeN n F S ≠ 0 := by
    intro e
    have := (free_of_zero h).1 e
    unfold endR at hE
    split at hE
    · cases hE
    · split at hE
      · cases hE
      · cases hE
  have hm := pick_mem (b := t1 F S) (kids_ne (E := endR n cs) hf)
  have hv := val_step h hE
  rw [← hv] at hm
  obtain ⟨p, hp, he⟩ := List.mem_map.1 hm
  intro e
  have : p ∈ bestL n cs F S := List.mem_filter.2 ⟨hp, by simpa using he⟩
  rw [e] at this
  cases this
end Go.Proofs.YtkekanllfpdeaaaDoor
