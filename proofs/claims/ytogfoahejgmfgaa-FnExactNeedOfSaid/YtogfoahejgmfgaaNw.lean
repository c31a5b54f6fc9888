/-
  Boards of hexagons: the need, the model's text: the table in memory, and the numbers of the last side.
-/
import Derived.Test.YtogfoahejgmfgaaNv
namespace Go.Proofs.Ytogfoahejgmfgaa
open Go.RowKit
set_option linter.unusedVariables false

/-- How a number of the model's table stands in memory. -/
def encM : Option Nat → Int
  | none => -1
  | some k => (k : Int)
/-- The model's table. -/
def LS (g L : Nat) (t : Tb) (W : World) : Prop := ∃ cur, W.heap[g]? = some (.cells cur 2 (0, 0)) ∧ L ≤ cur.size ∧ ∀ i, i < L → cur[i]? = some (.int .i64 (encM (tbAt t (i : Int))))
theorem LS.row {g L : Nat} {t : Tb} {W W' : World} (h : LS g L t W) (hb : W'.heap[g]? = W.heap[g]?) : LS g L t W' := by
  obtain ⟨cur, hc, r⟩ := h
  exact ⟨cur, hb.trans hc, r⟩
theorem LS.lt {g L : Nat} {t : Tb} {W : World} (h : LS g L t W) : g < W.heap.size := by
  obtain ⟨cur, hc, r⟩ := h
  exact block_lt hc
theorem LS.keep {g L : Nat} {t : Tb} {W W' : World} (h : LS g L t W) (hb : Below W.heap.size W W') : LS g L t W' := h.row (hb.block g h.lt)
theorem LS.cell {g L : Nat} {t : Tb} {W : World} (h : LS g L t W) {i : Nat} (hi : i < L) : W.cell? ⟨g, i, none⟩ = some (.int .i64 (encM (tbAt t (i : Int)))) ∧ W.frozen? ⟨g, i, none⟩ = false := by
  obtain ⟨cur, hc, _, h2⟩ := h
  exact ⟨(cell_of_row _ _ i _ _ (0, 0) hc).trans (h2 i hi), frozen_of_row _ _ i _ _ hc⟩
theorem LS.set {g L : Nat} {t : Tb} {W : World} (h : LS g L t W) {x k : Nat} (hx : x < L) (hl : t.length = L) : LS g L (t.set (x : Int).toNat (some k)) (W.setCell ⟨g, x, none⟩ (.int .i64 (k : Int))) := by
  obtain ⟨cur, hc, h1, h2⟩ := h
  refine ⟨cur.setIfInBounds x (.int .i64 (k : Int)), heap_setCell_same _ g _ _ _ _ hc, by simpa using h1, fun i hi => ?_⟩
  rw [tbAt_set (by omega) (by omega) (i : Int) (by omega)]
  by_cases e : i = x
  · subst e
    rw [if_pos rfl, Array.getElem?_setIfInBounds_self_of_lt (by omega)]
    rfl
  · rw [if_neg (by omega), Array.getElem?_setIfInBounds_ne (by omega)]
    exact h2 i hi
theorem LS.of_owns {B g L c : Nat} {W : World} (h : W.ownsRow B 2 1 (.slice (some ⟨g, 0, none⟩) L c) L ((List.replicate L (-1 : Int)).map intV)) : LS g L (List.replicate L none) W := by
  rcases h.2 with ⟨hv, _⟩ | ⟨g', cap, cur, hv, _, hh, h1, h2, h3, h4⟩
  · cases hv
  · cases hv
    refine ⟨cur, hh, by omega, fun i hi => ?_⟩
    have h5 : (cur.toList.take (L * 1))[i]? = some (.int .i64 (-1)) := by rw [h4]; simp [intV, hi]
    rw [List.getElem?_take_of_lt (by omega)] at h5
    rw [tb_rep]
    show cur[i]? = some (.int .i64 (-1))
    simpa using h5
/-- The least number of the cells gone over. -/
def lstF (t : Tb) (o : Option Nat) (l : List Int) : Option Nat := l.foldl (fun o c => minO o (tbAt t c)) o
theorem lstF_eq (t : Tb) : ∀ (l : List Int) (o : Option Nat), lstF t o l = minO o (leastO t l)
  | [], o => by cases o <;> rfl
  | c :: l, o => by
    show lstF t (minO o (tbAt t c)) l = _
    rw [lstF_eq t l, minO_assoc]
    rfl
theorem lstF_snoc (t : Tb) (o : Option Nat) (l : List Int) (c : Int) : lstF t o (l ++ [c]) = minO (lstF t o l) (tbAt t c) := by simp [lstF]
def lstC (n p k : Int) : Int := if p = 2 then n * k + n - 1 else n * (n - 1) + k
def lastP (n p : Int) (N : Nat) : List Int := (List.range N).map fun i : Nat => lstC n p (i : Int)
theorem lastP_succ (n p : Int) (k : Nat) : lastP n p (k + 1) = lastP n p k ++ [lstC n p (k : Int)] := by simp [lastP, List.range_succ]
theorem lstC_in {n p k : Int} (hn : 1 ≤ n) (h0 : 0 ≤ k) (h1 : k < n) : 0 ≤ lstC n p k ∧ lstC n p k < n * n := by
  unfold lstC
  split
  · have := row_lt (n := n) (y := k) (x := n - 1) h0 h1 (by omega) (by omega)
    omega
  · exact row_lt (n := n) (y := n - 1) (x := k) (by omega) (by omega) h0 h1
theorem mem_lastP {N : Nat} {p : Int} (hp : p = 1 ∨ p = 2) (hN : 1 ≤ N) {c : Int} : c ∈ lastP (N : Int) p N ↔ 0 ≤ c ∧ c < (N : Int) * N ∧ endH N p c = true := by
  have hn : (1 : Int) ≤ (N : Int) := by omega
  simp only [lastP, List.mem_map, List.mem_range]
  constructor
  · rintro ⟨i, hi, rfl⟩
    have h1 := lstC_in (p := p) hn (show (0 : Int) ≤ (i : Int) by omega) (show (i : Int) < (N : Int) by omega)
    refine ⟨h1.1, h1.2, ?_⟩
    rcases hp with rfl | rfl
    · have := div_row (n := (N : Int)) (y := (N : Int) - 1) (x := (i : Int)) (by omega) (by omega)
      simp [endH, lstC, this]
    · have := mod_row (n := (N : Int)) (y := (i : Int)) (x := (N : Int) - 1) (by omega) (by omega)
      have e : (N : Int) * (i : Int) + (N : Int) - 1 = (N : Int) * (i : Int) + ((N : Int) - 1) := by omega
      simp [endH, lstC, e, this]
  · rintro ⟨c0, c1, he⟩
    obtain ⟨k1, k2, k3, k4, k5⟩ := cell_rc hn c0 c1
    rcases hp with rfl | rfl
    · have he' : c / (N : Int) = (N : Int) - 1 := by simpa [endH] using he
      refine ⟨(c % (N : Int)).toNat, by omega, ?_⟩
      rw [he'] at k5
      simp [lstC]
      omega
    · have he' : c % (N : Int) = (N : Int) - 1 := by simpa [endH] using he
      refine ⟨(c / (N : Int)).toNat, by omega, ?_⟩
      rw [he'] at k5
      have e : (((c / (N : Int)).toNat : Nat) : Int) = c / (N : Int) := by omega
      simp only [lstC, if_true, e]
      omega
theorem need_lst {N : Nat} {cs : List Int} {p : Int} {t : Tb} (hp : p = 1 ∨ p = 2) (hN : 1 ≤ N) (h : Tab N cs p t) (hs : Still N cs p t) : needO N cs p = lstF t none (lastP N p N) := by
  rw [h.need (by omega) hs (l := lastP N p N) (fun c => mem_lastP hp hN), lstF_eq]
  rfl
end Go.Proofs.Ytogfoahejgmfgaa
