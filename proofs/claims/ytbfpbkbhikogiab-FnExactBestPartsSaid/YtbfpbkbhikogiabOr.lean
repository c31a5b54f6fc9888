/-
  Rows of rows of numbers under way: each row in a block of its own.
-/
import Derived.Test.YtbfpbkbhikogiabGo
import Derived.Test.YtbfpbkbhikogiabOw
import Derived.Test.YtbfpbkbhikogiabEnds0
namespace Go.Proofs.Ytbfpbkbhikogiab
open Go.RowKit
set_option linter.unusedVariables false

def rowVs (gs : List Nat) (xss : List (List Int)) : List Value := (gs.zip xss).map fun p => .slice (some ⟨p.1, 0, none⟩) p.2.length p.2.length
def lfs (gs : List Nat) (xss : List (List Int)) : List Lf := (gs.zip xss).map fun p => ⟨some ⟨p.1, 0, none⟩, p.2.length⟩
theorem rowVs_len {gs : List Nat} {xss : List (List Int)} (h : gs.length = xss.length) : (rowVs gs xss).length = xss.length := by simp [rowVs, h]
theorem lfs_len {gs : List Nat} {xss : List (List Int)} (h : gs.length = xss.length) : (lfs gs xss).length = xss.length := by simp [lfs, h]
theorem rowVs_snoc {gs : List Nat} {xss : List (List Int)} (h : gs.length = xss.length) (g : Nat) (zs : List Int) : rowVs (gs ++ [g]) (xss ++ [zs]) = rowVs gs xss ++ [.slice (some ⟨g, 0, none⟩) zs.length zs.length] := by
  unfold rowVs
  rw [List.zip_append h]
  simp

structure OwnR (B : Nat) (w : World) (v : Value) (gs : List Nat) (xss : List (List Int)) : Prop where
  len : gs.length = xss.length
  own : w.ownsRow B 22 1 v xss.length (rowVs gs xss)
  rows : ∀ (i g : Nat) (zs : List Int), gs[i]? = some g → xss[i]? = some zs → B ≤ g ∧ w.heap[g]? = some (.cells (zs.map intV).toArray 2 (0, 0))
  nod : gs.Pairwise fun x y => x ≠ y
theorem OwnR.nil (B : Nat) (w : World) : OwnR B w (.slice none 0 0) [] [] := ⟨rfl, World.ownsRow_nil _ _ _ _, fun i g zs h _ => by simp at h, List.Pairwise.nil⟩
theorem OwnR.empty {B : Nat} {w : World} {b : Nat} (hb : w.heap[b]? = some (.cells #[] 22 (0, 0))) (hB : B ≤ b) : OwnR B w (.slice (some ⟨b, 0, none⟩) 0 0) [] [] :=
  ⟨rfl, ⟨rfl, .inr ⟨b, 0, #[], rfl, hB, hb, Nat.le_refl _, by decide, rfl, rfl⟩⟩, fun i g zs h _ => by simp at h, List.Pairwise.nil⟩
theorem OwnR.get {B : Nat} {w : World} {v : Value} {gs : List Nat} {xss : List (List Int)} (h : OwnR B w v gs xss) : ∀ x ∈ gs, B ≤ x ∧ ∃ cs, w.heap[x]? = some (.cells cs 2 (0, 0)) := by
  intro x hx
  obtain ⟨i, hi⟩ := List.mem_iff_getElem?.1 hx
  have hl := (List.getElem?_eq_some_iff.1 hi).1
  have hxl : xss[i]? = some (xss[i]'(by rw [← h.len]; exact hl)) := List.getElem?_eq_getElem _
  obtain ⟨h1, h2⟩ := h.rows i x _ hi hxl
  exact ⟨h1, _, h2⟩
theorem OwnR.fresh {B : Nat} {w : World} {v : Value} {gs : List Nat} {xss : List (List Int)} (h : OwnR B w v gs xss) : ∀ x ∈ gs, x < w.heap.size := by
  intro x hx
  obtain ⟨_, cs, h2⟩ := h.get x hx
  exact block_lt h2
theorem OwnR.keep {B : Nat} {w w' : World} {v : Value} {gs : List Nat} {xss : List (List Int)} (h : OwnR B w v gs xss) (hb : Below w.heap.size w w') : OwnR B w' v gs xss :=
  ⟨h.len, ownsRow_keep h.own hb, fun i g zs hi hz => ⟨(h.rows i g zs hi hz).1, box_keep (h.rows i g zs hi hz).2 hb⟩, h.nod⟩
theorem OwnR.but {B n : Nat} {w w' : World} {v : Value} {gs : List Nat} {xss : List (List Int)} (h : OwnR B w v gs xss) (hb : But n w w') (hn : n < B) : OwnR B w' v gs xss := by
  refine ⟨h.len, ?_, fun i g zs hi hz => ⟨(h.rows i g zs hi hz).1, hb.row (h.rows i g zs hi hz).2 (by have := (h.rows i g zs hi hz).1; omega)⟩, h.nod⟩
  refine h.own.kept (row := some n) ⟨hb.os, hb.tape, hb.output, hb.size, fun k hk hne => hb.block k hk (fun e => hne (by rw [e]))⟩ ?_
  rcases h.own.2 with ⟨hv, _⟩ | ⟨g', cap, cur, hv, hg, _⟩
  · rw [hv]; simp [Value.ownBlock]
  · rw [hv]; simp [Value.ownBlock]; omega
theorem OwnR.set {B : Nat} {w : World} {v : Value} {gs : List Nat} {xss : List (List Int)} (h : OwnR B w v gs xss) {b o : Nat} (hb : b < B) (u : Value) : OwnR B (w.setCell ⟨b, o, none⟩ u) v gs xss :=
  ⟨h.len, ownsRow_setCell_below h.own hb u, fun i g zs hi hz => ⟨(h.rows i g zs hi hz).1, (Below.heap_setCell _ _ _ _ (by have := (h.rows i g zs hi hz).1; show g ≠ b; omega)).trans (h.rows i g zs hi hz).2⟩, h.nod⟩
theorem nums_not_rows : (2 : TypeId) ≠ 22 := by decide
theorem row_not_box' {w : World} {base B n : Nat} {e t : TypeId} {size : Nat} {v : Value} {xs : List Value} {cs : Array Value} {fr : Nat × Nat} (h : w.ownsRow base e size v n xs) (hb : w.heap[B]? = some (.cells cs t fr)) (hte : t ≠ e) : v.ownBlock ≠ some B := by
  rcases h.2 with ⟨rfl, _⟩ | ⟨g, cap, cur, rfl, _, hg, _⟩
  · simp [Value.ownBlock]
  · simp only [Value.ownBlock, ne_eq, Option.some.injEq]
    rintro rfl
    rw [hg] at hb
    simp at hb
    exact hte hb.2.1.symm
theorem OwnR.snoc {B : Nat} {w1 w7 : World} {v v' : Value} {gs : List Nat} {xss : List (List Int)} {g : Nat} {zs : List Int} (h : OwnR B w1 v gs xss) (hB : B ≤ g) (hnew : ∀ x ∈ gs, x ≠ g) (hrow : w1.heap[g]? = some (.cells (zs.map intV).toArray 2 (0, 0)))
    (hown : w7.ownsRow B 22 1 v' (xss.length + 1) (rowVs gs xss ++ [.slice (some ⟨g, 0, none⟩) zs.length zs.length])) (hgrow : (w1.alloc (.cells #[.slice (some ⟨g, 0, none⟩) zs.length zs.length] 22)).grownBy w7 v.ownBlock) : OwnR B w7 v' (gs ++ [g]) (xss ++ [zs]) := by
  have hk : ∀ (k : Nat) (cs : Array Value), w1.heap[k]? = some (.cells cs 2 (0, 0)) → w7.heap[k]? = some (.cells cs 2 (0, 0)) := fun k cs hc => by
    have hl := block_lt hc
    exact (hgrow.block k (by simp; omega) (fun e => row_not_box' h.own hc nums_not_rows e.symm)).trans ((Below.heap_alloc _ _ _ hl).trans hc)
  refine ⟨by simp [h.len], by rw [rowVs_snoc h.len]; simpa using hown, fun i x ys hi hz => ?_, ?_⟩
  · by_cases e : i < gs.length
    · rw [List.getElem?_append_left e] at hi
      rw [List.getElem?_append_left (by rw [← h.len]; exact e)] at hz
      exact ⟨(h.rows i x ys hi hz).1, hk _ _ (h.rows i x ys hi hz).2⟩
    · rw [List.getElem?_append_right (by omega)] at hi
      rw [List.getElem?_append_right (by rw [← h.len]; omega)] at hz
      have hi0 : i - gs.length = 0 := by
        have := (List.getElem?_eq_some_iff.1 hi).1
        simp at this
        omega
      rw [hi0] at hi
      rw [← h.len, hi0] at hz
      simp at hi hz
      subst hi hz
      exact ⟨hB, hk _ _ hrow⟩
  · exact List.pairwise_append.2 ⟨h.nod, by simp, fun x hx y hy => by simp at hy; subst hy; exact hnew x hx⟩

theorem total_lfs {m : Nat} : ∀ (gs : List Nat) (xss : List (List Int)), (∀ zs ∈ xss, zs.length ≤ m) → total (lfs gs xss) ≤ m * xss.length
  | [], xss, _ => by simp [lfs, total]
  | _ :: _, [], _ => by simp [lfs, total]
  | g :: gs, zs :: xss, h => by
    have ih := total_lfs gs xss (fun y hy => h y (by simp [hy]))
    have h1 := h zs (by simp)
    show zs.length + total (lfs gs xss) ≤ _
    rw [List.length_cons, Nat.mul_add, Nat.mul_one]
    omega
theorem lfs_get {gs : List Nat} {xss : List (List Int)} {i : Nat} {l : Lf} (h : (lfs gs xss)[i]? = some l) : ∃ g zs, gs[i]? = some g ∧ xss[i]? = some zs ∧ l = ⟨some ⟨g, 0, none⟩, zs.length⟩ := by
  unfold lfs at h
  rw [List.getElem?_map] at h
  cases hz : (gs.zip xss)[i]? with
  | none => rw [hz] at h; simp at h
  | some p =>
    rw [hz] at h
    simp at h
    rw [List.getElem?_zip_eq_some] at hz
    exact ⟨p.1, p.2, hz.1, hz.2, h.symm⟩
/-- A list of rows that is handed back, told by leaves. -/
theorem OwnR.leaves {B m : Nat} {w : World} {a : Option Addr} {c : Nat} {gs : List Nat} {xss : List (List Int)} (h : OwnR B w (.slice a xss.length c) gs xss) (hm : ∀ zs ∈ xss, zs.length ≤ m) (ht : m * xss.length ≤ 1048576) : GameLeaves w B a xss (lfs gs xss) := by
  refine ⟨lfs_len h.len, fun hne => ?_, fun b off ha => ?_, fun i l hi => ?_, ?_, Nat.le_trans (total_lfs gs xss hm) ht⟩
  · have hx : xss ≠ [] := by
      intro e
      exact hne (List.eq_nil_of_length_eq_zero (by rw [lfs_len h.len, e]; rfl))
    rcases h.own.2 with ⟨_, h0⟩ | ⟨g, cap, cur, hv, _⟩
    · exact absurd (List.eq_nil_of_length_eq_zero h0) hx
    · simp only [Value.slice.injEq, true_and] at hv
      refine ⟨g, 0, hv.1, fun i l hi => ?_⟩
      obtain ⟨x, zs, h1, h2, rfl⟩ := lfs_get hi
      have hlt := (List.getElem?_eq_some_iff.1 h2).1
      have hown := h.own
      rw [hv.1] at hown
      have := hown.cellAt i (by omega)
      refine ⟨zs.length, ?_⟩
      rw [Nat.zero_add, this]
      unfold rowVs
      rw [List.getElem?_map]
      have hz : (gs.zip xss)[i]? = some (x, zs) := by rw [List.getElem?_zip_eq_some]; exact ⟨h1, h2⟩
      rw [hz]
      rfl
  · rcases h.own.2 with ⟨hv, _⟩ | ⟨g, cap, cur, hv, hg, hh, _⟩
    · simp only [Value.slice.injEq] at hv; rw [hv.1] at ha; cases ha
    · simp only [Value.slice.injEq] at hv
      rw [hv.1] at ha
      simp at ha
      obtain ⟨rfl, rfl⟩ := ha
      exact ⟨hg, cur, hh⟩
  · obtain ⟨x, zs, h1, h2, rfl⟩ := lfs_get hi
    obtain ⟨h3, h4⟩ := h.rows i x zs h1 h2
    refine ⟨zs, h2, rfl, fun _ => ⟨x, 0, rfl, fun j hj => ?_⟩, .inr ⟨x, 0, _, rfl, h4, by simp⟩, fun _ => ⟨x, 0, rfl, h3⟩⟩
    rw [Nat.zero_add, cell_of_row _ _ j _ _ (0, 0) h4]
    simp
  · have hp : (gs.zip xss).Pairwise fun p q => p.1 ≠ q.1 := by
      have : ((gs.zip xss).map (·.1)).Pairwise fun x y => x ≠ y := by
        rw [List.map_fst_zip (by rw [h.len]; exact Nat.le_refl _)]
        exact h.nod
      exact List.pairwise_map.1 this
    refine List.pairwise_map.2 (hp.imp (fun {p q} hne => fun b o h1 h2 => ?_))
    obtain ⟨o1, e1, _⟩ := h1
    obtain ⟨o2, e2, _⟩ := h2
    simp at e1 e2
    exact hne (e1.1.trans e2.1.symm)
end Go.Proofs.Ytbfpbkbhikogiab
