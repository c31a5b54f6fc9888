/-
  Lists of rows of one's own.
-/
import Derived.Test.YtkekanllfpdeaabOw
import Derived.Test.YtkekanllfpdeaabCo
import Derived.Test.YtkekanllfpdeaabEnds0
namespace Go.Proofs.Ytkekanllfpdeaab
open Go.RowKit
set_option linter.unusedVariables false

theorem nums_not_rows : (2 : TypeId) ≠ 22 := by decide
theorem row_not_box' {w : World} {base B n : Nat} {e t : TypeId} {size : Nat} {v : Value} {xs : List Value} {cs : Array Value} {fr : Nat × Nat} (h : w.ownsRow base e size v n xs) (hb : w.heap[B]? = some (.cells cs t fr)) (hte : t ≠ e) : v.ownBlock ≠ some B := by
  rcases h.2 with ⟨rfl, _⟩ | ⟨g, cap, cur, rfl, _, hg, _⟩
  · simp [Value.ownBlock]
  · simp only [Value.ownBlock, ne_eq, Option.some.injEq]
    rintro rfl
    rw [hg] at hb
    simp at hb
    exact hte hb.2.1.symm
theorem rowI_by {B : Nat} {w w' : World} {u : Value} {n : Nat} {xs : List Value} (h : w.ownsRow B 2 1 u n xs) (hk : ∀ (k : Nat) (cs : Array Value), w.heap[k]? = some (.cells cs 2 (0, 0)) → w'.heap[k]? = some (.cells cs 2 (0, 0))) : w'.ownsRow B 2 1 u n xs := by
  refine ⟨h.1, ?_⟩
  rcases h.2 with h2 | ⟨g, cap, cur, hv, hg, hh, r⟩
  · exact .inl h2
  · exact .inr ⟨g, cap, cur, hv, hg, hk _ _ hh, r⟩
/-- A list whose slots lie from A on, its rows from B on. -/
structure ListO (A B : Nat) (w : World) (v : Value) (vs : List Value) (xss : List (List Int)) : Prop where
  len : vs.length = xss.length
  own : w.ownsRow A 22 1 v xss.length vs
  rows : ∀ (i : Nat) (u : Value) (zs : List Int), vs[i]? = some u → xss[i]? = some zs → w.ownsRow B 2 1 u zs.length (zs.map intV)
theorem ListO.nil (A B : Nat) (w : World) : ListO A B w (.slice none 0 0) [] [] := ⟨rfl, World.ownsRow_nil _ _ _ _, fun i u zs h _ => by simp at h⟩
theorem ListO.empty {A : Nat} (B : Nat) {w : World} {b : Nat} (hb : w.heap[b]? = some (.cells #[] 22 (0, 0))) (hB : A ≤ b) : ListO A B w (.slice (some ⟨b, 0, none⟩) 0 0) [] [] :=
  ⟨rfl, ⟨rfl, .inr ⟨b, 0, #[], rfl, hB, hb, Nat.le_refl _, by decide, rfl, rfl⟩⟩, fun i u zs h _ => by simp at h⟩
theorem ListO.one {A B : Nat} {w : World} {b : Nat} {u : Value} {zs : List Int} (hb : w.heap[b]? = some (.cells #[u] 22 (0, 0))) (hB : A ≤ b) (hu : w.ownsRow B 2 1 u zs.length (zs.map intV)) : ListO A B w (.slice (some ⟨b, 0, none⟩) 1 1) [u] [zs] :=
  ⟨rfl, ⟨rfl, .inr ⟨b, 1, #[u], rfl, hB, hb, Nat.le_refl _, by decide, rfl, rfl⟩⟩, fun i u' zs' h h' => by
    match i, h, h' with
    | 0, h, h' =>
      simp at h h'
      subst h h'
      exact hu
    | i + 1, h, h' => simp at h⟩
theorem ListO.keep {A B : Nat} {w w' : World} {v : Value} {vs : List Value} {xss : List (List Int)} (h : ListO A B w v vs xss) (hb : Below w.heap.size w w') : ListO A B w' v vs xss :=
  ⟨h.len, ownsRow_keep h.own hb, fun i u zs hi hz => ownsRow_keep (h.rows i u zs hi hz) hb⟩
theorem ListO.base {A A' B B' : Nat} {w : World} {v : Value} {vs : List Value} {xss : List (List Int)} (h : ListO A B w v vs xss) (hA : A' ≤ A) (hB : B' ≤ B) : ListO A' B' w v vs xss :=
  ⟨h.len, ownsRow_base h.own hA, fun i u zs hi hz => ownsRow_base (h.rows i u zs hi hz) hB⟩
theorem ints_by_grown {A : Nat} {w w7 : World} {v : Value} {n : Nat} {vs : List Value} (h : w.ownsRow A 22 1 v n vs) (hg : w.grownBy w7 v.ownBlock) : ∀ (k : Nat) (cs : Array Value), w.heap[k]? = some (.cells cs 2 (0, 0)) → w7.heap[k]? = some (.cells cs 2 (0, 0)) :=
  fun k cs hc => (hg.block k (block_lt hc) (fun e => row_not_box' h hc nums_not_rows e.symm)).trans hc
/-- Behind an append of another list. -/
theorem ListO.app {A A2 B : Nat} {w w7 : World} {v v2 v' : Value} {vs vs2 : List Value} {xss yss : List (List Int)} (h : ListO A B w v vs xss) (h2 : ListO A2 B w v2 vs2 yss) (hown : w7.ownsRow A 22 1 v' (xss.length + yss.length) (vs ++ vs2)) (hg : w.grownBy w7 v.ownBlock) : ListO A B w7 v' (vs ++ vs2) (xss ++ yss) := by
  have hk := ints_by_grown h.own hg
  refine ⟨by simp [h.len, h2.len], by simpa using hown, fun i u zs hi hz => ?_⟩
  by_cases e : i < vs.length
  · rw [List.getElem?_append_left e] at hi
    rw [List.getElem?_append_left (by rw [← h.len]; exact e)] at hz
    exact rowI_by (h.rows i u zs hi hz) hk
  · rw [List.getElem?_append_right (by omega)] at hi
    rw [List.getElem?_append_right (by rw [← h.len]; omega), ← h.len] at hz
    exact rowI_by (h2.rows _ u zs hi hz) hk
/-- Behind an append of one row. -/
theorem ListO.snoc {A B : Nat} {w w7 : World} {v v' u : Value} {vs : List Value} {xss : List (List Int)} {zs : List Int} (h : ListO A B w v vs xss) (hu : w.ownsRow B 2 1 u zs.length (zs.map intV))
    (hown : w7.ownsRow A 22 1 v' (xss.length + 1) (vs ++ [u])) (hg : (w.alloc (.cells #[u] 22)).grownBy w7 v.ownBlock) : ListO A B w7 v' (vs ++ [u]) (xss ++ [zs]) := by
  have ha := below_alloc w (.cells #[u] 22)
  have h1 := h.keep ha
  have h2 : ListO w.heap.size B (w.alloc (.cells #[u] 22)) (.slice (some ⟨w.heap.size, 0, none⟩) 1 1) [u] [zs] := ListO.one (heap_alloc_new w _) (Nat.le_refl _) (ownsRow_keep hu ha)
  exact h1.app h2 (by simpa using hown) hg

/-- Rows of one's own in blocks of their own. -/
structure RowsO (B : Nat) (w : World) (v : Value) (vs : List Value) (xss : List (List Int)) : Prop where
  l : ListO B B w v vs xss
  nod : vs.Pairwise fun x y => ∀ g, x.ownBlock = some g → y.ownBlock ≠ some g
theorem RowsO.nil (B : Nat) (w : World) : RowsO B w (.slice none 0 0) [] [] := ⟨ListO.nil _ _ _, List.Pairwise.nil⟩
theorem RowsO.keep {B : Nat} {w w' : World} {v : Value} {vs : List Value} {xss : List (List Int)} (h : RowsO B w v vs xss) (hb : Below w.heap.size w w') : RowsO B w' v vs xss := ⟨h.l.keep hb, h.nod⟩
theorem RowsO.base {B B' : Nat} {w : World} {v : Value} {vs : List Value} {xss : List (List Int)} (h : RowsO B w v vs xss) (hB : B' ≤ B) : RowsO B' w v vs xss := ⟨h.l.base hB hB, h.nod⟩
theorem RowsO.lt {B : Nat} {w : World} {v : Value} {vs : List Value} {xss : List (List Int)} (h : RowsO B w v vs xss) : ∀ x ∈ vs, ∀ g, x.ownBlock = some g → g < w.heap.size := by
  intro x hx g hg
  obtain ⟨i, hi⟩ := List.mem_iff_getElem?.1 hx
  have hl := (List.getElem?_eq_some_iff.1 hi).1
  have hz : xss[i]? = some (xss[i]'(by rw [← h.l.len]; exact hl)) := List.getElem?_eq_getElem _
  exact ((h.l.rows i x _ hi hz).lt g hg).2
theorem RowsO.snoc {B : Nat} {w w7 : World} {v v' u : Value} {vs : List Value} {xss : List (List Int)} {zs : List Int} (h : RowsO B w v vs xss) (hu : w.ownsRow B 2 1 u zs.length (zs.map intV))
    (hnew : ∀ x ∈ vs, ∀ g, x.ownBlock = some g → u.ownBlock ≠ some g) (hown : w7.ownsRow B 22 1 v' (xss.length + 1) (vs ++ [u])) (hg : (w.alloc (.cells #[u] 22)).grownBy w7 v.ownBlock) : RowsO B w7 v' (vs ++ [u]) (xss ++ [zs]) :=
  ⟨h.l.snoc hu hown hg, List.pairwise_append.2 ⟨h.nod, by simp, fun x hx y hy g h9 => by simp at hy; subst hy; exact hnew x hx g h9⟩⟩
/-- What FindPairing hands back. -/
def NewRows (r : List (List Int) × Int) (W : World) (e : Ending) (W' : World) : Prop :=
  ∃ a c vs, e = .returned (.tuple #[.slice a r.1.length c, .int .i64 r.2]) ∧ RowsO W.heap.size W' (.slice a r.1.length c) vs r.1 ∧ Below W.heap.size W W'
theorem infoRow : (Try.prog.info? 22).map (fun i => (i.zero, i.size, i.bytes)) = some (some (.slice none 0 0), 1, 24) := by kernel_rfl
/-- A row of two numbers, just made. -/
theorem own_two {B : Nat} (V : World) (x y : Int) (hB : B ≤ V.heap.size) : (V.alloc (.cells #[.int .i64 x, .int .i64 y] 2)).ownsRow B 2 1 (.slice (some ⟨V.heap.size, 0, none⟩) 2 2) 2 ([x, y].map intV) :=
  ⟨rfl, .inr ⟨V.heap.size, 2, _, rfl, hB, heap_alloc_new V _, Nat.le_refl _, by decide, rfl, rfl⟩⟩
/-- What a call hands back that has made rows of its own. -/
def NewRowsS (r : List (List Int)) (W : World) (e : Ending) (W' : World) : Prop :=
  ∃ a c vs, e = .returned (.slice a r.length c) ∧ RowsO W.heap.size W' (.slice a r.length c) vs r ∧ Below W.heap.size W W'
def two (p : Int × Int) : List Int := [p.1, p.2]
end Go.Proofs.Ytkekanllfpdeaab
