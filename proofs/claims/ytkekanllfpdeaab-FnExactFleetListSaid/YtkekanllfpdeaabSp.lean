/-
  The library's Sort and Compact on a list of the call's own; the placements, the program's text.
-/
import Derived.Test.YtkekanllfpdeaabSo
import Derived.Sort.OwnSortedInts
import Derived.Test.YtkekanllfpdeaabPc
namespace Go.Proofs.Ytkekanllfpdeaab
open Go.RowKit Go.Shelf Go.Sort
set_option linter.unusedVariables false

theorem compI_lib : ∀ zs : List Int, Lib.compact zs = compI zs := by
  intro zs
  rfl
theorem mergeSort_isort (zs : List Int) : (zs.mergeSort fun x y => decide (x ≤ y)) = isortI zs := by
  refine isortI_of (List.mergeSort_perm zs _) ?_
  have := List.pairwise_mergeSort (le := fun x y : Int => decide (x ≤ y)) (fun a b c h1 h2 => by simp at *; omega) (fun a b => by simp; omega) zs
  exact this.imp (fun h => by simpa using h)
theorem isortI_len (zs : List Int) : (isortI zs).length = zs.length := (isortI_perm zs).length_eq
theorem compI_le (zs : List Int) : (compI zs).length ≤ zs.length := by
  unfold compI Lib.compact Lib.compactUpTo
  rw [List.length_map]
  exact Nat.le_trans (List.length_filter_le _ _) (by simp)
theorem ownsRow_short {w : World} {base g n m cap : Nat} {e : TypeId} {xs : List Value} (h : w.ownsRow base e 1 (.slice (some ⟨g, 0, none⟩) n cap) n xs) (hm : m ≤ n) : w.ownsRow base e 1 (.slice (some ⟨g, 0, none⟩) m cap) m (xs.take m) := by
  refine ⟨by have := h.1; rw [List.length_take]; omega, ?_⟩
  rcases h.2 with ⟨h0, _⟩ | ⟨g', cap', cur, hv, hg, hh, h1, h2, h3, h4⟩
  · cases h0
  · cases hv
    refine .inr ⟨g, cap, cur, rfl, hg, hh, by omega, h2, h3, ?_⟩
    rw [← h4, List.take_take]
    congr 1
    omega
theorem sort_any (B : Nat) (v : Value) (zs : List Int) (W0 w : World) (ho : Owns B W0 w v zs) (hl : zs.length ≤ 1000) :
    Calls Try.prog 76 #[v] w fun e w' => e = .returned (.tuple #[]) ∧ Owns B W0 w' v (isortI zs) := by
  rcases ho.own.2 with ⟨hv, hn⟩ | ⟨g, cap, cur, rfl, hbase, hb, h1, h2, h3, h4⟩
  · have : zs = [] := List.eq_nil_of_length_eq_zero hn
    subst this
    subst hv
    exact (Try.slices_Sort_int_none none 0 w).mono fun e w' h => ⟨h.1, by rw [h.2]; exact ho⟩
  · have hH := holds_of_blockI (ss := zs) hb (by rw [Nat.mul_one] at h4; exact h4)
    refine (Try.slices_Sort_int g 0 cap zs w hH (block_lt hb) (by omega)).mono ?_
    rintro e w' ⟨rfl, n, os, rfl⟩
    rw [mergeSort_isort]
    have hg := grownBy_sortedI (w := w) (g := g) (n := n) (os := os) (isortI zs).toArray
    refine ⟨rfl, ?_, ho.old.grown hg ho.size (fun j hj => by cases hj; exact hbase), Nat.le_trans ho.size hg.size⟩
    have := ownsRow_sortedI (n := n) (os := os) (isortI_len zs) hbase hb h1 h2 h3
    rw [isortI_len]
    exact this
theorem compact_any (B : Nat) (v : Value) (zs : List Int) (W0 w : World) (ho : Owns B W0 w v zs) (hl : zs.length ≤ 1000) :
    Calls Try.prog 62 #[v] w fun e w' => ∃ v', e = .returned v' ∧ Owns B W0 w' v' (compI zs) := by
  rcases ho.own.2 with ⟨hv, hn⟩ | ⟨g, cap, cur, rfl, hbase, hb, h1, h2, h3, h4⟩
  · have : zs = [] := List.eq_nil_of_length_eq_zero hn
    subst this
    subst hv
    exact (Try.slices_Compact_int_empty none 0 w).mono fun e w' h => ⟨_, h.1, by rw [h.2]; exact ho⟩
  · have hH := holds_of_blockI (ss := zs) hb (by rw [Nat.mul_one] at h4; exact h4)
    refine (Try.slices_Compact_int g 0 cap zs w hH (by omega) h1).mono ?_
    rintro e w' ⟨rfl, n, rfl⟩
    rw [compI_lib]
    obtain ⟨ts, hts⟩ : ∃ ts, ts = compI zs ++ List.replicate (zs.length - (compI zs).length) 0 := ⟨_, rfl⟩
    rw [← hts]
    have hlen : ts.length = zs.length := by rw [hts]; have := compI_le zs; simp; omega
    have hg := grownBy_sortedI (w := w) (g := g) (n := n) (os := #[]) ts.toArray
    have hor := ownsRow_sortedI (n := n) (os := #[]) hlen hbase hb h1 h2 h3
    rw [grow_empty] at hg hor
    refine ⟨_, rfl, ?_, ho.old.grown hg ho.size (fun j hj => by cases hj; exact hbase), Nat.le_trans ho.size hg.size⟩
    have := ownsRow_short hor (compI_le zs)
    rw [← List.map_take, show ts.take (compI zs).length = compI zs by rw [hts, List.take_left]] at this
    exact this
end Go.Proofs.Ytkekanllfpdeaab
