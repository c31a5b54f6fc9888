/-
  Ends of dots and boxes: lists of parts, plain; lists of lists of one's own.
-/
import Derived.Test.YtbfpbkbhikogiabOr
import Derived.Test.YtbfpbkbhikogiabVa
namespace Go.Proofs.Ytbfpbkbhikogiab
open Go.RowKit
set_option linter.unusedVariables false

/-- The ascending lists of k numbers from low on with the sum n. -/
def pt : Nat → Nat → Nat → List (List Int)
  | 0, _, _ => []
  | 1, _, n => [[(n : Int)]]
  | k + 2, low, n => (List.range' low (n / (k + 2) + 1 - low)).flatMap fun x => (pt (k + 1) x (n - x)).map fun ys => (x : Int) :: ys
/-- The same behind a beginning. -/
def sp : Nat → Nat → Nat → List Int → List (List Int)
  | 0, _, n, b => if n = 0 then [b] else []
  | k + 1, low, n, b => (List.range' low (n / (k + 1) + 1 - low)).flatMap fun x => sp k x (n - x) (b ++ [(x : Int)])
def partsB (n k : Nat) : Bool := decide (sp k 1 n [] = pt k 1 n) && (!(pt k 1 n).isEmpty && (pt k 1 n).all (fun xs => okEn xs []))
theorem parts_chk : ((List.range 21).all fun n => (List.range 7).all fun k => !(decide (0 < k) && decide (k ≤ n)) || partsB n k) = true := by decide +kernel
theorem parts_ok {n k : Nat} (hn : n < 21) (hk : k < 7) (h0 : 0 < k) (hkn : k ≤ n) : sp k 1 n [] = pt k 1 n ∧ pt k 1 n ≠ [] ∧ ∀ xs ∈ pt k 1 n, okEn xs [] = true := by
  have h := parts_chk
  rw [List.all_eq_true] at h
  have h1 := h n (List.mem_range.2 hn)
  rw [List.all_eq_true] at h1
  have h2 := h1 k (List.mem_range.2 hk)
  have e0 : decide (0 < k) = true := decide_eq_true h0
  have e1 : decide (k ≤ n) = true := decide_eq_true hkn
  rw [e0, e1] at h2
  have h3 : partsB n k = true := by simpa using h2
  unfold partsB at h3
  rw [Bool.and_eq_true, Bool.and_eq_true, List.all_eq_true] at h3
  refine ⟨of_decide_eq_true h3.1, fun e => ?_, h3.2.2⟩
  have h4 := h3.2.1
  rw [e] at h4
  cases h4

theorem flat_le {α β : Type} {m : Nat} (f : α → List β) : ∀ (l : List α), (∀ x ∈ l, (f x).length ≤ m) → (l.flatMap f).length ≤ l.length * m
  | [], _ => by simp
  | x :: r, h => by
    rw [List.flatMap_cons, List.length_append, List.length_cons, Nat.add_mul, Nat.one_mul]
    have h1 := h x (by simp)
    have h2 := flat_le f r (fun y hy => h y (by simp [hy]))
    omega
theorem cnt_le {k low n : Nat} (hk : 0 < k) (hn : n ≤ 20) : n / k + 1 - low ≤ 21 := by
  have := Nat.div_le_self n k
  omega
theorem sp_le : ∀ (k low n : Nat) (b : List Int), n ≤ 20 → (sp k low n b).length ≤ 21 ^ k
  | 0, low, n, b, _ => by unfold sp; split <;> simp
  | k + 1, low, n, b, hn => by
    unfold sp
    refine Nat.le_trans (flat_le (m := 21 ^ k) _ _ (fun x _ => sp_le k x (n - x) _ (by omega))) ?_
    rw [List.length_range', Nat.pow_succ, Nat.mul_comm]
    exact Nat.mul_le_mul_left _ (cnt_le (by omega) hn)
theorem pt_le : ∀ (k low n : Nat), n ≤ 20 → (pt k low n).length ≤ 21 ^ k
  | 0, low, n, _ => by unfold pt; simp
  | 1, low, n, _ => by unfold pt; simp
  | k + 2, low, n, hn => by
    unfold pt
    refine Nat.le_trans (flat_le (m := 21 ^ (k + 1)) _ _ (fun x _ => by rw [List.length_map]; exact pt_le (k + 1) x (n - x) (by omega))) ?_
    rw [List.length_range', Nat.pow_succ, Nat.mul_comm]
    exact Nat.mul_le_mul_left _ (cnt_le (by omega) hn)
theorem pow_bd {k : Nat} (hk : k ≤ 6) : 21 ^ k ≤ 85766121 := Nat.le_trans (Nat.pow_le_pow_right (by omega) hk) (by decide)
theorem pt_rows : ∀ (k low n : Nat), ∀ xs ∈ pt k low n, xs.length = k
  | 0, low, n, xs, h => by unfold pt at h; cases h
  | 1, low, n, xs, h => by unfold pt at h; simp at h; subst h; rfl
  | k + 2, low, n, xs, h => by
    unfold pt at h
    obtain ⟨x, _, hx⟩ := List.mem_flatMap.1 h
    obtain ⟨ys, hy, rfl⟩ := List.mem_map.1 hx
    simp [pt_rows (k + 1) x (n - x) ys hy]
/-- What has been collected behind j first numbers. -/
def spJ (k low n : Nat) (b : List Int) (j : Nat) : List (List Int) := (List.range' low j).flatMap fun x => sp k x (n - x) (b ++ [(x : Int)])
theorem spJ_step (k low n : Nat) (b : List Int) (j : Nat) : spJ k low n b (j + 1) = spJ k low n b j ++ sp k (low + j) (n - (low + j)) (b ++ [((low + j : Nat) : Int)]) := by
  unfold spJ
  rw [List.range'_concat]
  simp
theorem spJ_le {k low n : Nat} (b : List Int) {j : Nat} (hk : k ≤ 5) (hn : n ≤ 20) (hj : j ≤ 21) : (spJ k low n b j).length ≤ 85766121 := by
  unfold spJ
  refine Nat.le_trans (flat_le (m := 21 ^ k) _ _ (fun x _ => sp_le k x (n - x) _ (by omega))) ?_
  rw [List.length_range']
  have h1 := pow_bd (k := k + 1) (by omega)
  rw [Nat.pow_succ] at h1
  have h2 := Nat.mul_le_mul_right (21 ^ k) hj
  rw [Nat.mul_comm 21] at h2
  omega
def ptJ (k low n : Nat) (j : Nat) : List (List Int) := (List.range' low j).flatMap fun x => (pt (k + 1) x (n - x)).map fun ys => (x : Int) :: ys
theorem ptJ_step (k low n : Nat) (j : Nat) : ptJ k low n (j + 1) = ptJ k low n j ++ (pt (k + 1) (low + j) (n - (low + j))).map fun ys => ((low + j : Nat) : Int) :: ys := by
  unfold ptJ
  rw [List.range'_concat]
  simp
theorem ptJ_le {k low n : Nat} {j : Nat} (hk : k ≤ 4) (hn : n ≤ 20) (hj : j ≤ 21) : (ptJ k low n j).length ≤ 85766121 := by
  unfold ptJ
  refine Nat.le_trans (flat_le (m := 21 ^ (k + 1)) _ _ (fun x _ => by rw [List.length_map]; exact pt_le (k + 1) x (n - x) (by omega))) ?_
  rw [List.length_range']
  have h1 := pow_bd (k := k + 1 + 1) (by omega)
  rw [Nat.pow_succ 21 (k + 1)] at h1
  have h2 := Nat.mul_le_mul_right (21 ^ (k + 1)) hj
  rw [Nat.mul_comm 21] at h2
  omega

/-! ### the first one with the greatest -/
def mxI (t : Nat → Int) : Nat → Option Nat
  | 0 => none
  | j + 1 => match mxI t j with
    | none => some j
    | some m => if t m < t j then some j else some m
theorem mxI_lt (t : Nat → Int) : ∀ (j m : Nat), mxI t j = some m → m < j
  | 0, m, h => by cases h
  | j + 1, m, h => by
    unfold mxI at h
    cases hj : mxI t j with
    | none => rw [hj] at h; simp at h; omega
    | some m' =>
      rw [hj] at h
      have := mxI_lt t j m' hj
      simp only at h
      split at h <;> simp at h <;> omega
theorem mxI_some (t : Nat → Int) : ∀ (j : Nat), 0 < j → ∃ m, mxI t j = some m
  | 0, h => by omega
  | j + 1, _ => by
    unfold mxI
    cases mxI t j with
    | none => exact ⟨j, rfl⟩
    | some m => simp only; split; exact ⟨j, rfl⟩; exact ⟨m, rfl⟩
/-- The value of an ending of chains. -/
def vC (xs : List Int) : Int := vT (cntL xs [])
def vI (ps : List (List Int)) (i : Nat) : Int := vC ((ps[i]?).getD [])
def bestP (ps : List (List Int)) : List Int := (ps[(mxI (vI ps) ps.length).getD 0]?).getD []
def okP (n k : Int) : Bool := decide ((1 ≤ n ∧ n ≤ 20) ∧ (1 ≤ k ∧ k ≤ 6) ∧ k ≤ n)
def bpR (n k : Int) : List Int × Int := if okP n k = true then (bestP (pt k.toNat 1 n.toNat), 0) else ([], 2)

/-! ### lists of lists of one's own -/
theorem rowI_by {B : Nat} {w w' : World} {u : Value} {n : Nat} {xs : List Value} (h : w.ownsRow B 2 1 u n xs) (hk : ∀ (k : Nat) (cs : Array Value), w.heap[k]? = some (.cells cs 2 (0, 0)) → w'.heap[k]? = some (.cells cs 2 (0, 0))) : w'.ownsRow B 2 1 u n xs := by
  refine ⟨h.1, ?_⟩
  rcases h.2 with h2 | ⟨g, cap, cur, hv, hg, hh, r⟩
  · exact .inl h2
  · exact .inr ⟨g, cap, cur, hv, hg, hk _ _ hh, r⟩
/-- A list whose slots lie from A on, its rows from B on. -/
structure ListO (A B : Nat) (w : World) (v : Value) (vs : List Value) (xss : List (List Int)) : Prop where
  len : vs.length = xss.length
  own : w.ownsRow A 22 1 v xss.length vs
  rows : ∀ (i : Nat) (u : Value) (zs : List Int), vs[i]? = some u → xss[i]? = some zs → w.ownsRow B 2 1 u zs.length (zs.map intV)
theorem ListO.nil (A B : Nat) (w : World) : ListO A B w (.slice none 0 0) [] [] := ⟨rfl, World.ownsRow_nil _ _ _ _, fun i u zs h _ => by simp at h⟩
theorem ListO.empty {A : Nat} (B : Nat) {w : World} {b : Nat} (hb : w.heap[b]? = some (.cells #[] 22 (0, 0))) (hB : A ≤ b) : ListO A B w (.slice (some ⟨b, 0, none⟩) 0 0) [] [] :=
  ⟨rfl, ⟨rfl, .inr ⟨b, 0, #[], rfl, hB, hb, Nat.le_refl _, by decide, rfl, rfl⟩⟩, fun i u zs h _ => by simp at h⟩
theorem ListO.one {A B : Nat} {w : World} {b : Nat} {u : Value} {zs : List Int} (hb : w.heap[b]? = some (.cells #[u] 22 (0, 0))) (hB : A ≤ b) (hu : w.ownsRow B 2 1 u zs.length (zs.map intV)) : ListO A B w (.slice (some ⟨b, 0, none⟩) 1 1) [u] [zs] :=
  ⟨rfl, ⟨rfl, .inr ⟨b, 1, #[u], rfl, hB, hb, Nat.le_refl _, by decide, rfl, rfl⟩⟩, fun i u' zs' h h' => by
    match i, h, h' with
    | 0, h, h' =>
      simp at h h'
      subst h h'
      exact hu
    | i + 1, h, h' => simp at h⟩
theorem ListO.keep {A B : Nat} {w w' : World} {v : Value} {vs : List Value} {xss : List (List Int)} (h : ListO A B w v vs xss) (hb : Below w.heap.size w w') : ListO A B w' v vs xss :=
  ⟨h.len, ownsRow_keep h.own hb, fun i u zs hi hz => ownsRow_keep (h.rows i u zs hi hz) hb⟩
theorem ListO.base {A A' B B' : Nat} {w : World} {v : Value} {vs : List Value} {xss : List (List Int)} (h : ListO A B w v vs xss) (hA : A' ≤ A) (hB : B' ≤ B) : ListO A' B' w v vs xss :=
  ⟨h.len, ownsRow_base h.own hA, fun i u zs hi hz => ownsRow_base (h.rows i u zs hi hz) hB⟩
theorem ints_by_grown {A : Nat} {w w7 : World} {v : Value} {n : Nat} {vs : List Value} (h : w.ownsRow A 22 1 v n vs) (hg : w.grownBy w7 v.ownBlock) : ∀ (k : Nat) (cs : Array Value), w.heap[k]? = some (.cells cs 2 (0, 0)) → w7.heap[k]? = some (.cells cs 2 (0, 0)) :=
  fun k cs hc => (hg.block k (block_lt hc) (fun e => row_not_box' h hc nums_not_rows e.symm)).trans hc
/-- Behind an append of another list. -/
theorem ListO.app {A A2 B : Nat} {w w7 : World} {v v2 v' : Value} {vs vs2 : List Value} {xss yss : List (List Int)} (h : ListO A B w v vs xss) (h2 : ListO A2 B w v2 vs2 yss) (hown : w7.ownsRow A 22 1 v' (xss.length + yss.length) (vs ++ vs2)) (hg : w.grownBy w7 v.ownBlock) : ListO A B w7 v' (vs ++ vs2) (xss ++ yss) := by
  have hk := ints_by_grown h.own hg
  refine ⟨by simp [h.len, h2.len], by simpa using hown, fun i u zs hi hz => ?_⟩
  by_cases e : i < vs.length
  · rw [List.getElem?_append_left e] at hi
    rw [List.getElem?_append_left (by rw [← h.len]; exact e)] at hz
    exact rowI_by (h.rows i u zs hi hz) hk
  · rw [List.getElem?_append_right (by omega)] at hi
    rw [List.getElem?_append_right (by rw [← h.len]; omega), ← h.len] at hz
    exact rowI_by (h2.rows _ u zs hi hz) hk
/-- Behind an append of one row. -/
theorem ListO.snoc {A B : Nat} {w w7 : World} {v v' u : Value} {vs : List Value} {xss : List (List Int)} {zs : List Int} (h : ListO A B w v vs xss) (hu : w.ownsRow B 2 1 u zs.length (zs.map intV))
    (hown : w7.ownsRow A 22 1 v' (xss.length + 1) (vs ++ [u])) (hg : (w.alloc (.cells #[u] 22)).grownBy w7 v.ownBlock) : ListO A B w7 v' (vs ++ [u]) (xss ++ [zs]) := by
  have ha := below_alloc w (.cells #[u] 22)
  have h1 := h.keep ha
  have h2 : ListO w.heap.size B (w.alloc (.cells #[u] 22)) (.slice (some ⟨w.heap.size, 0, none⟩) 1 1) [u] [zs] := ListO.one (heap_alloc_new w _) (Nat.le_refl _) (ownsRow_keep hu ha)
  exact h1.app h2 (by simpa using hown) hg
theorem ListO.cells {A B : Nat} {w : World} {g c n : Nat} {vs : List Value} {xss : List (List Int)} (h : ListO A B w (.slice (some ⟨g, 0, none⟩) n c) vs xss) : ∀ (j : Nat) (u : Value), vs[j]? = some u → w.cell? ((⟨g, 0, none⟩ : Addr).add j) = some u := by
  intro j u hu
  have hj := (List.getElem?_eq_some_iff.1 hu).1
  obtain ⟨_, _, e⟩ := own_form h.own
  simp only [Value.slice.injEq] at e
  have h1 := h.own
  rw [e.2.1] at h1
  have h2 := h1.cellAt j (by rw [← h.len]; omega)
  rw [hu] at h2
  rw [← h2]
  congr 1
  simp only [Addr.add]
  split
  · rename_i e; subst e; rfl
  · simp
theorem ListO.ones {A B : Nat} {w : World} {v : Value} {vs : List Value} {xss : List (List Int)} (h : ListO A B w v vs xss) : ∀ u ∈ vs, u.oneCell' = true := by
  intro u hu
  obtain ⟨i, hi⟩ := List.mem_iff_getElem?.1 hu
  have hl := (List.getElem?_eq_some_iff.1 hi).1
  obtain ⟨a, c, rfl⟩ := own_form (h.rows i u _ hi (List.getElem?_eq_getElem (by rw [← h.len]; exact hl)))
  rfl
/-- One row of it. -/
theorem ListO.row {A B : Nat} {w : World} {v : Value} {vs : List Value} {xss : List (List Int)} (h : ListO A B w v vs xss) {i : Nat} (hi : i < xss.length) : ∃ a c zs, vs[i]? = some (.slice a zs.length c) ∧ xss[i]? = some zs ∧ w.ownsRow B 2 1 (.slice a zs.length c) zs.length (zs.map intV) := by
  have h1 : vs[i]? = some (vs[i]'(by rw [h.len]; exact hi)) := List.getElem?_eq_getElem _
  have h2 := List.getElem?_eq_getElem hi
  have h3 := h.rows i _ _ h1 h2
  obtain ⟨a, c, e⟩ := own_form h3
  refine ⟨a, c, _, ?_, h2, ?_⟩
  · rw [h1, e]
  · rw [← e]; exact h3
/-- A slot of it. -/
theorem ListO.slot {A B : Nat} {w : World} {a : Option Addr} {n c : Nat} {vs : List Value} {xss : List (List Int)} (h : ListO A B w (.slice a n c) vs xss) {i : Nat} {u : Value} (hi : vs[i]? = some u) : ∃ g, a = some ⟨g, 0, none⟩ ∧ n = xss.length ∧ w.cell? ⟨g, i, none⟩ = some u := by
  have hl := (List.getElem?_eq_some_iff.1 hi).1
  have hx := h.len
  have h0 := h.own
  rcases h.own.2 with ⟨_, h1⟩ | ⟨g, cap, cur, hv, _⟩
  · omega
  · simp only [Value.slice.injEq] at hv
    obtain ⟨rfl, rfl, rfl⟩ := hv
    have := h0.cellAt i (by omega)
    exact ⟨g, rfl, rfl, this.trans hi⟩
end Go.Proofs.Ytbfpbkbhikogiab
