/-
  Dots and boxes: net scores. Plain functions.
-/
import Derived.Test.YtincdnlinepcgabBxU
namespace Go.Proofs.Ytincdnlinepcgab
open Go.RowKit
set_option linter.unusedVariables false

def maxL : List Int → Int
  | [] => 0
  | x :: r => r.foldl max x
theorem maxL_snoc (l : List Int) (x : Int) : maxL (l ++ [x]) = if l = [] then x else max (maxL l) x := by
  cases l with
  | nil => rfl
  | cons y r => simp [maxL, List.foldl_append]
theorem foldl_max_bd {a b : Int} : ∀ (r : List Int) (x : Int), a ≤ x → x ≤ b → (∀ y ∈ r, a ≤ y ∧ y ≤ b) → a ≤ r.foldl max x ∧ r.foldl max x ≤ b
  | [], x, h1, h2, _ => ⟨h1, h2⟩
  | y :: r, x, h1, h2, h => by
    have hy := h y List.mem_cons_self
    exact foldl_max_bd r (max x y) (by omega) (by omega) fun z hz => h z (List.mem_cons_of_mem _ hz)
theorem maxL_bd {a b : Int} {l : List Int} (h0 : a ≤ 0) (h1 : 0 ≤ b) (h : ∀ y ∈ l, a ≤ y ∧ y ≤ b) : a ≤ maxL l ∧ maxL l ≤ b := by
  cases l with
  | nil => exact ⟨h0, h1⟩
  | cons y r =>
    have hy := h y List.mem_cons_self
    exact foldl_max_bd r y hy.1 hy.2 fun z hz => h z (List.mem_cons_of_mem _ hz)
theorem maxL_take {l : List Int} {j : Nat} {g : Int} (h : l[j]? = some g) : maxL (l.take (j + 1)) = if j = 0 then g else max (maxL (l.take j)) g := by
  rw [List.take_add_one, h]
  show maxL (l.take j ++ [g]) = _
  rw [maxL_snoc]
  have hj := (List.getElem?_eq_some_iff.1 h).1
  by_cases e : j = 0
  · subst e; simp
  · rw [if_neg e, if_neg]
    intro hn
    have h2 := congrArg List.length hn
    rw [List.length_take, List.length_nil] at h2
    omega

def gainW (f : Int → Int) (w h E e : Int) : Int := if 0 < takenBy w h E (withE E e) then takenBy w h E (withE E e) + f (withE E e) else - f (withE E e)
def netF (w h : Int) : Nat → Int → Int
  | 0, _ => 0
  | k + 1, E => maxL ((freeE w h E).map (gainW (netF w h k) w h E))
def nfree (w h E : Int) : Nat := (freeE w h E).length
def net (w h E : Int) : Int := netF w h (nfree w h E) E

theorem pre_del {p : Int → Bool} {e : Nat} : ∀ {n : Nat}, e < n → p (e : Int) = true → (pre (fun j => p j && decide (j ≠ (e : Int))) n).length + 1 = (pre p n).length
  | 0, h, _ => by omega
  | n + 1, h, hp => by
    by_cases he : e = n
    · subst he
      rw [pre_yes hp, pre_no (p := fun j => p j && decide (j ≠ (e : Int))) (by simp)]
      rw [pre_congr (p := fun j => p j && decide (j ≠ (e : Int))) (q := p) (k := e) (fun i hi => by
        have : ((i : Int) ≠ (e : Int)) := by omega
        simp [this])]
      simp
    · have ih := pre_del (p := p) (e := e) (n := n) (by omega) hp
      have hne : ((n : Int) ≠ (e : Int)) := by omega
      cases hpn : p (n : Int)
      · rw [pre_no hpn, pre_no (p := fun j => p j && decide (j ≠ (e : Int))) (by simp [hpn])]
        exact ih
      · rw [pre_yes hpn, pre_yes (p := fun j => p j && decide (j ≠ (e : Int))) (by simp [hpn, hne])]
        rw [List.length_append, List.length_append, List.length_singleton]
        omega
theorem drawn_withE {E k j : Int} (h0 : 0 ≤ E) (hk : 0 ≤ k) (hj : 0 ≤ j) : drawn (withE E k) j = (decide (j = k) || drawn E j) := by
  unfold drawn
  rw [dg_withE h0 hk hj]
  by_cases e : j = k
  · simp [e]
  · simp [e]
theorem nfree_with {w h E e : Int} (hb : okBox w h E = true) (he : e ∈ freeE w h E) : nfree w h (withE E e) + 1 = nfree w h E := by
  obtain ⟨_, _, _, _, h5, _⟩ := okBox_parts hb
  obtain ⟨e0, en, hp⟩ := pre_mem he
  obtain ⟨k, rfl⟩ := Int.eq_ofNat_of_zero_le e0
  unfold nfree freeE
  have hd := pre_del (p := fun j => !drawn E j) (e := k) (n := (nEdge w h).toNat) (by omega) hp
  rw [← hd]
  congr 2
  refine pre_congr fun i hi => ?_
  show (!drawn (withE E (k : Int)) (i : Int)) = _
  rw [drawn_withE h5 (by omega) (by omega)]
  by_cases e : (i : Int) = (k : Int)
  · simp [e]
  · simp [e]
theorem ok_with {w h E e : Int} (hb : okBox w h E = true) (he : e ∈ freeE w h E) : okBox w h (withE E e) = true := by
  obtain ⟨e0, en, _⟩ := pre_mem he
  obtain ⟨m, hm, _⟩ := edges_nat hb
  exact okBox_with hb e0 (by omega)
theorem netF_enough (w h : Int) : ∀ (k : Nat) (E : Int), okBox w h E = true → nfree w h E ≤ k → netF w h k E = net w h E := by
  intro k
  induction k with
  | zero =>
    intro E hb hk
    have h0 : nfree w h E = 0 := by omega
    unfold net
    rw [h0]
  | succ k ih =>
    intro E hb hk
    unfold net
    cases hn : nfree w h E with
    | zero =>
      have hl : freeE w h E = [] := List.eq_nil_of_length_eq_zero hn
      simp [netF, hl, maxL]
    | succ m =>
      show maxL _ = maxL _
      congr 1
      refine List.map_congr_left fun e he => ?_
      have h1 := nfree_with hb he
      have h2 := ok_with hb he
      have h3 := ih (withE E e) h2 (by omega)
      have h4 : netF w h m (withE E e) = net w h (withE E e) := by unfold net; congr 1; omega
      unfold gainW
      rw [h3, h4]
theorem net_eq {w h E : Int} (hb : okBox w h E = true) : net w h E = maxL ((freeE w h E).map (gainW (net w h) w h E)) := by
  rw [← netF_enough w h (nfree w h E + 1) E hb (by omega)]
  show maxL _ = maxL _
  congr 1
  refine List.map_congr_left fun e he => ?_
  have h1 := nfree_with hb he
  unfold gainW
  rw [netF_enough w h (nfree w h E) (withE E e) (ok_with hb he) (by omega)]

/-- The boxes that are not taken. -/
def rest (w h E : Int) : Int := w * h - ((withB w h E 4).length : Int)
theorem rest_range {w h E : Int} (hb : okBox w h E = true) : 0 ≤ rest w h E ∧ rest w h E ≤ 9 := by
  obtain ⟨h1, h2, h3, h4, _, _⟩ := okBox_parts hb
  have := grid_nums h1 h2 h3 h4
  have := pre_le (fun i => decide (cnt4 w h E i = 4)) (w * h).toNat
  unfold rest withB
  omega
theorem gain_bd {w h E e : Int} {f : Int → Int} (hb : okBox w h E = true) (he : e ∈ freeE w h E) (hf : - rest w h (withE E e) ≤ f (withE E e) ∧ f (withE E e) ≤ rest w h (withE E e)) :
    - rest w h E ≤ gainW f w h E e ∧ gainW f w h E e ≤ rest w h E := by
  have hd := takenBy_diff (k := e) hb (pre_mem he).1
  have ht : 0 ≤ takenBy w h E (withE E e) := (takenTo_range _ _ _ _ _).1
  unfold rest at *
  unfold gainW
  split <;> omega
theorem net_bd' (w h : Int) : ∀ (k : Nat) (E : Int), okBox w h E = true → - rest w h E ≤ netF w h k E ∧ netF w h k E ≤ rest w h E := by
  intro k
  induction k with
  | zero => intro E hb; have := rest_range hb; show - rest w h E ≤ 0 ∧ (0 : Int) ≤ rest w h E; omega
  | succ k ih =>
    intro E hb
    have := rest_range hb
    refine maxL_bd (by omega) (by omega) fun y hy => ?_
    obtain ⟨e, he, rfl⟩ := List.mem_map.1 hy
    exact gain_bd hb he (ih _ (ok_with hb he))
theorem net_bd {w h E : Int} (hb : okBox w h E = true) : -9 ≤ net w h E ∧ net w h E ≤ 9 := by
  have := net_bd' w h (nfree w h E) E hb
  have := rest_range hb
  unfold net
  omega
theorem gain_bd9 {w h E e : Int} (hb : okBox w h E = true) (he : e ∈ freeE w h E) : -9 ≤ gainW (net w h) w h E e ∧ gainW (net w h) w h E e ≤ 9 := by
  have := gain_bd (f := net w h) hb he (net_bd' w h _ _ (ok_with hb he))
  have := rest_range hb
  omega
/-- The score behind the first j edges. -/
def scTo (w h E : Int) (j : Nat) : Int := maxL (((freeE w h E).map (gainW (net w h) w h E)).take j)
theorem scTo_zero (w h E : Int) : scTo w h E 0 = 0 := rfl
theorem scTo_succ {w h E e : Int} {j : Nat} (he : (freeE w h E)[j]? = some e) : scTo w h E (j + 1) = if j = 0 then gainW (net w h) w h E e else max (scTo w h E j) (gainW (net w h) w h E e) := by
  unfold scTo
  exact maxL_take (by rw [List.getElem?_map, he]; rfl)
theorem scTo_all {w h E : Int} (hb : okBox w h E = true) : scTo w h E (nfree w h E) = net w h E := by
  rw [net_eq hb]
  unfold scTo nfree
  rw [List.take_of_length_le (by simp)]
theorem scTo_bd {w h E : Int} (hb : okBox w h E = true) (j : Nat) : -9 ≤ scTo w h E j ∧ scTo w h E j ≤ 9 := by
  refine maxL_bd (by omega) (by omega) fun y hy => ?_
  obtain ⟨e, he, rfl⟩ := List.mem_map.1 (List.mem_of_mem_take hy)
  exact gain_bd9 hb he
/-- The calls that one asks for. -/
def calls : Nat → Nat
  | 0 => 1
  | k + 1 => 1 + (k + 1) * calls k
theorem calls_pos (k : Nat) : 1 ≤ calls k := by cases k <;> simp [calls]
theorem calls_mono : ∀ {a b : Nat}, a ≤ b → calls a ≤ calls b
  | a, 0, h => by have : a = 0 := by omega
                  subst this; exact Nat.le_refl _
  | a, b + 1, h => by
    by_cases e : a = b + 1
    · subst e; exact Nat.le_refl _
    · have := calls_mono (a := a) (b := b) (by omega)
      have h2 : calls b ≤ (b + 1) * calls b := Nat.le_mul_of_pos_left _ (by omega)
      simp only [calls]
      omega
theorem calls12 : calls 12 ≤ 2000000000 := by decide +kernel
end Go.Proofs.Ytincdnlinepcgab
