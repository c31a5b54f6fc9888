/-
  Boards of hexagons: the need, the program's text: a queue that is cut at its head and appended to; the closure that reaches a cell.
-/
import Derived.Test.YtogfoahejgmfgaaNp
import Derived.Test.YtogfoahejgmfgaaJs
import Derived.ArgAppend
namespace Go.Proofs.Ytogfoahejgmfgaa
open Go.RowKit
set_option linter.unusedVariables false

/-! ### a queue -/
/-- A slice of the call's own that begins somewhere in its row. -/
def QAt (w : World) (B : Nat) (v : Value) (zs : List Int) : Prop :=
  ∃ a c, v = .slice a zs.length c ∧ zs.length ≤ c ∧ c ≤ maxLen ∧ (c = 0 ∨ ∃ g off cur, a = some ⟨g, off, none⟩ ∧ B ≤ g ∧ w.heap[g]? = some (.cells cur 2 (0, 0)) ∧ off + c ≤ cur.size ∧ ∀ i z, zs[i]? = some z → cur[off + i]? = some (.int .i64 z))
theorem QAt.nil (w : World) (B : Nat) : QAt w B (.slice none 0 0) [] := ⟨none, 0, rfl, Nat.le_refl _, by simp [maxLen], .inl rfl⟩
theorem QAt.block {w w' : World} {B : Nat} {v : Value} {zs : List Int} (h : QAt w B v zs) (hb : ∀ g, v.ownBlock = some g → w'.heap[g]? = w.heap[g]?) : QAt w' B v zs := by
  obtain ⟨a, c, rfl, h1, h2, h3⟩ := h
  refine ⟨a, c, rfl, h1, h2, ?_⟩
  rcases h3 with h3 | ⟨g, off, cur, rfl, h4, h5, h6, h7⟩
  · exact .inl h3
  · exact .inr ⟨g, off, cur, rfl, h4, (hb g rfl).trans h5, h6, h7⟩
theorem QAt.of_owns {w : World} {B : Nat} {v : Value} {zs : List Int} (h : w.ownsRow B 2 1 v zs.length (zs.map intV)) : QAt w B v zs := by
  rcases h.2 with ⟨rfl, h0⟩ | ⟨g, cap, cur, rfl, hg, hh, h1, h2, h3, h4⟩
  · have : zs = [] := List.eq_nil_of_length_eq_zero h0
    subst this
    exact QAt.nil w B
  · refine ⟨_, cap, rfl, h1, h2, .inr ⟨g, 0, cur, rfl, hg, hh, by omega, fun i z hz => ?_⟩⟩
    rw [Nat.zero_add]
    have hi : i < zs.length := by
      by_cases e : i < zs.length
      · exact e
      · rw [List.getElem?_eq_none (by omega)] at hz; cases hz
    have h5 : (cur.toList.take (zs.length * 1))[i]? = some (.int .i64 z) := by rw [h4, List.getElem?_map, hz]; rfl
    rw [List.getElem?_take_of_lt (by omega)] at h5
    simpa using h5
theorem QAt.lt {w : World} {B : Nat} {v : Value} {zs : List Int} (h : QAt w B v zs) (hne : zs ≠ []) : ∃ g off c, v = .slice (some ⟨g, off, none⟩) zs.length c ∧ zs.length ≤ c ∧ B ≤ g ∧ g < w.heap.size ∧ ∀ i z, zs[i]? = some z → w.cell? ⟨g, off + i, none⟩ = some (.int .i64 z) := by
  obtain ⟨a, c, rfl, h1, h2, h3⟩ := h
  have : zs.length ≠ 0 := fun e => hne (List.eq_nil_of_length_eq_zero e)
  rcases h3 with h3 | ⟨g, off, cur, rfl, h4, h5, h6, h7⟩
  · omega
  · exact ⟨g, off, c, rfl, h1, h4, block_lt h5, fun i z hz => (cell_of_row _ _ _ _ _ (0, 0) h5).trans (h7 i z hz)⟩
theorem QAt.row {w : World} {B : Nat} {v : Value} {zs : List Int} (h : QAt w B v zs) (hne : zs ≠ []) : ∀ k, v.ownBlock = some k → ∃ cur, w.heap[k]? = some (.cells cur 2 (0, 0)) := by
  obtain ⟨a, c, rfl, h1, h2, h3⟩ := h
  have : zs.length ≠ 0 := fun e => hne (List.eq_nil_of_length_eq_zero e)
  rcases h3 with h3 | ⟨g, off, cur, rfl, h4, h5, h6, h7⟩
  · omega
  · intro k hk
    simp [Value.ownBlock] at hk
    subst hk
    exact ⟨cur, h5⟩
/-- The queue without its head, as the slice [1:] is spelled. -/
theorem QAt.tail {w : World} {B g off c : Nat} {z : Int} {r : List Int} (h : QAt w B (.slice (some ⟨g, off, none⟩) (z :: r).length c) (z :: r)) : QAt w B (.slice (some ⟨g, off + 1, none⟩) r.length (c - 1)) r ∧ (c = 1 → QAt w B (.slice (some ⟨g, off, none⟩) r.length 0) r) := by
  obtain ⟨a, c', he, h1, h2, h3⟩ := h
  cases he
  simp only [List.length_cons] at h1
  rcases h3 with h3 | ⟨g', off', cur, he, h4, h5, h6, h7⟩
  · omega
  · cases he
    refine ⟨⟨_, c - 1, rfl, by omega, by omega, .inr ⟨g, off + 1, cur, rfl, h4, h5, by omega, fun i y hy => ?_⟩⟩, fun e => ⟨_, 0, rfl, by omega, by simp [maxLen], .inl rfl⟩⟩
    rw [show off + 1 + i = off + (i + 1) by omega]
    exact h7 (i + 1) y (by simpa using hy)
/-- All that was there is as it was, but for some blocks. -/
structure FarB (S : Nat → Prop) (w w' : World) : Prop where
  os : w'.os = w.os
  tape : w'.tape = w.tape
  output : w'.output = w.output
  size : w.heap.size ≤ w'.heap.size
  block : ∀ k, k < w.heap.size → ¬ S k → w'.heap[k]? = w.heap[k]?
theorem FarB.refl (S : Nat → Prop) (w : World) : FarB S w w := ⟨rfl, rfl, rfl, Nat.le_refl _, fun _ _ _ => rfl⟩
theorem FarB.trans {S T : Nat → Prop} {a b c : World} (h : FarB S a b) (k : FarB T b c) (hT : ∀ j, T j → j < a.heap.size → S j) : FarB S a c :=
  ⟨k.os.trans h.os, k.tape.trans h.tape, k.output.trans h.output, Nat.le_trans h.size k.size, fun j hj hS => (k.block j (by have := h.size; omega) (fun e => hS (hT j e hj))).trans (h.block j hj hS)⟩
theorem FarB.weaken {S T : Nat → Prop} {a b : World} (h : FarB S a b) (hT : ∀ j, S j → T j) : FarB T a b := ⟨h.os, h.tape, h.output, h.size, fun j hj hS => h.block j hj (fun e => hS (hT j e))⟩
theorem FarB.of_below {S : Nat → Prop} {a b : World} (h : Below a.heap.size a b) : FarB S a b := ⟨h.os, h.tape, h.output, h.size, fun k hk _ => h.block k hk⟩
theorem FarB.below {S : Nat → Prop} {a b : World} {B : Nat} (h : FarB S a b) (hB : B ≤ a.heap.size) (hS : ∀ k, S k → B ≤ k) : Below B a b := ⟨h.os, h.tape, h.output, h.size, fun k hk => h.block k (by omega) (fun e => by have := hS k e; omega)⟩
theorem FarB.set {S : Nat → Prop} {a b : World} (h : FarB S a b) {m o : Nat} (hm : S m) (u : Value) : FarB S a (b.setCell ⟨m, o, none⟩ u) :=
  ⟨h.os, h.tape, h.output, by have := h.size; simpa [World.setCell] using this, fun k hk hS => (heap_setCell_other b ⟨m, o, none⟩ k u (fun e => hS (by have e' : k = m := e; rw [e']; exact hm))).trans (h.block k hk hS)⟩
theorem FarB.row {S : Nat → Prop} {w w' : World} {k : Nat} {o : Obj} (h : FarB S w w') (hc : w.heap[k]? = some o) (hn : ¬ S k) : w'.heap[k]? = some o := (h.block k (block_lt hc) hn).trans hc

set_option maxRecDepth 100000 in
/-- One number appended to a queue. -/
theorem wpList_append_q {w : World} {ops : Array Oper} {rest : List Oper} {o : Oper} {a : Act} {Q : Exit → Act → World → Prop} (hgd : o.guard = none) (s x : Operand)
    (hop : o.op = Op.call { callee := Callee.builtin Builtin.append, args := #[s, x], argTypes := #[22, 22] }) (B : Nat) (v : Value) (zs : List Int) (z : Int) (hs : a.eval s = v) (hq : QAt w B v zs) (hlen : zs.length ≤ 1000000) (hB : B ≤ w.heap.size)
    (b : Nat) (hx : a.eval x = .slice (some ⟨b, 0, none⟩) 1 1) (hc : w.cell? ⟨b, 0, none⟩ = some (.int .i64 z))
    (h : ∀ v' w', QAt w' B v' (zs ++ [z]) → FarB (fun k => v.ownBlock = some k) w w' → (v'.ownBlock = v.ownBlock ∨ ∀ k, v'.ownBlock = some k → w.heap.size ≤ k) → wpList Try.prog ops Q rest (a.put o.dst v') w') :
    wpList Try.prog ops Q (o :: rest) a w := by
  obtain ⟨i0, hi0, hz0, hz1, hz2⟩ := info_parts Try.info2
  obtain ⟨ad, c, rfl, h1, h2, h3⟩ := hq
  have hcn : ∀ j u, ([.int .i64 z] : List Value)[j]? = some u → w.cell? ((⟨b, 0, none⟩ : Addr).add j) = some u := fun j u hj => by
    cases j with
    | zero => simp at hj; subst hj; simpa [Addr.add] using hc
    | succ j => simp at hj
  have grow : ∀ v' w', w'.ownsRow w.heap.size 2 1 v' (zs.length + 1) (zs.map intV ++ [.int .i64 z]) → w.grownBy w' none → wpList Try.prog ops Q rest (a.put o.dst v') w' := by
    intro v' w' ho hg
    have hq' : QAt w' w.heap.size v' (zs ++ [z]) := QAt.of_owns (by rw [List.length_append, List.map_append]; exact ho)
    refine h v' w' ?_ ⟨hg.os, hg.tape, hg.output, hg.size, fun k hk _ => hg.block k hk (by simp)⟩ (.inr (fun k hk => (ho.lt k hk).1))
    obtain ⟨a', c', e, k1, k2, k3⟩ := hq'
    refine ⟨a', c', e, k1, k2, ?_⟩
    rcases k3 with k3 | ⟨g, off, cur, e1, e2, e3⟩
    · exact .inl k3
    · exact .inr ⟨g, off, cur, e1, by omega, e3⟩
  rcases h3 with h3 | ⟨g, off, cur, rfl, h4, h5, h6, h7⟩
  · subst h3
    have hz : zs = [] := List.eq_nil_of_length_eq_zero (by omega)
    subst hz
    refine wpList_append_grows w hgd s x 22 hop 2 i0 (.int .i64 0) 1 8 Try.underlying22 hi0 hz0 hz1 hz2 rfl (by decide) ad 0 0 [] hs (fun _ => ⟨rfl, rfl⟩) rfl (fun _ _ j u hj => by simp at hj) ⟨b, 0, none⟩ 1 1 [.int .i64 z] hx rfl hcn (by simp [Value.oneCell']) (by omega) (by simp [maxLen]) (by omega) ?_
    intro v' w' ho hg
    exact grow v' w' (by simpa using ho) hg
  · refine wpList_append_arg w hgd s x 22 hop 2 i0 (.int .i64 0) 1 8 Try.underlying22 hi0 hz0 hz1 hz2 rfl (by decide) g off zs.length c (zs.map intV) hs (by simp) (fun j u hj => ?_) ⟨b, 0, none⟩ 1 1 [.int .i64 z] hx rfl hcn (by simp [Value.oneCell']) (fun hr j hj => ?_) (by simp [maxLen]; omega) (by omega) (fun hr => ?_) (fun _ v' w' ho hg => grow v' w' ho hg)
    · rw [List.getElem?_map] at hj
      cases hzj : zs[j]? with
      | none => rw [hzj] at hj; cases hj
      | some y =>
        rw [hzj] at hj
        cases hj
        exact (cell_of_row _ _ _ _ _ (0, 0) h5).trans (h7 j y hzj)
    · have hj0 : j = 0 := by simpa using hj
      subst hj0
      refine ⟨?_, frozen_of_row _ _ _ _ _ h5⟩
      rw [cell_of_row _ _ _ _ _ (0, 0) h5]
      have : off + zs.length * 1 + 0 < cur.size := by omega
      rw [Array.getElem?_eq_getElem this]
      rfl
    · have hw : w.setCells g (off + zs.length * 1) [.int .i64 z] = w.setCell ⟨g, off + zs.length, none⟩ (.int .i64 z) := by simp [World.setCells]
      rw [hw]
      refine h _ _ ⟨_, c, by rw [List.length_append]; rfl, by rw [List.length_append]; simpa using hr, h2, .inr ⟨g, off, cur.setIfInBounds (off + zs.length) (.int .i64 z), rfl, h4, heap_setCell_same _ g _ _ _ _ h5, by simpa using h6, fun i y hy => ?_⟩⟩ ((FarB.refl (fun k => (Value.slice (some ⟨g, off, none⟩) zs.length c).ownBlock = some k) w).set (m := g) rfl _) (.inl rfl)
      by_cases e : i = zs.length
      · subst e
        have : y = z := by simpa using hy.symm
        subst this
        rw [Array.getElem?_setIfInBounds_self_of_lt (by omega)]
      · have hi : i < zs.length := by
          have hl : i < (zs ++ [z]).length := by
            by_cases e2 : i < (zs ++ [z]).length
            · exact e2
            · rw [List.getElem?_eq_none (by omega)] at hy; cases hy
          simp at hl
          omega
        rw [List.getElem?_append_left hi] at hy
        rw [Array.getElem?_setIfInBounds_ne (by omega)]
        exact h7 i y hy

/-! ### the state of the search -/
def nedV (t : Tb) (i : Nat) : Value := .int .i64 (encI (tbAt t (i : Int)))
/-- Where the boxes of the search lie. -/
structure NPl (m0 bx bn bo g : Nat) : Prop where
  x0 : m0 ≤ bx
  n0 : m0 ≤ bn
  o0 : m0 ≤ bo
  g0 : m0 ≤ g
  gx : g ≠ bx
  gn : g ≠ bn
  go : g ≠ bo
  ox : bo ≠ bx
  on : bo ≠ bn
structure NS (m0 bx bn bo g L : Nat) (N : Nat) (b off c : Nat) (cs : List Int) (t : Tb) (Q : List Int) (v : Value) (W : World) : Prop where
  hx : W.heap[bx]? = some (.cells #[.int .i64 N, .slice (some ⟨b, off, none⟩) L c] 28 (0, 0))
  hc : ∀ i, i < L → W.cell? ⟨b, off + i, none⟩ = some (.int .i64 (hexAt cs (i : Int)))
  hn : W.heap[bn]? = some (.cells #[.slice (some ⟨g, 0, none⟩) L L] 22 (0, 0))
  hg : W.rowIs g 2 L (nedV t)
  ho : W.heap[bo]? = some (.cells #[v] 22 (0, 0))
  q : QAt W m0 v Q
  far : ∀ k, v.ownBlock = some k → k ≠ g ∧ k ≠ bx ∧ k ≠ bn ∧ k ≠ bo ∧ m0 ≤ k
  own : ∀ k, v.ownBlock = some k → ∃ cur, W.heap[k]? = some (.cells cur 2 (0, 0))
theorem NS.lt {m0 bx bn bo g L N b off c : Nat} {cs : List Int} {t : Tb} {Q : List Int} {v : Value} {W : World} (h : NS m0 bx bn bo g L N b off c cs t Q v W) {k : Nat} (hk : v.ownBlock = some k) : k < W.heap.size := by
  obtain ⟨cur, hc⟩ := h.own k hk
  exact block_lt hc
theorem NS.farB {m0 bx bn bo g L N b off c : Nat} {cs : List Int} {t : Tb} {Q : List Int} {v : Value} {S : Nat → Prop} {W W' : World} (h : NS m0 bx bn bo g L N b off c cs t Q v W) (hb : b < m0) (hm : m0 ≤ W.heap.size) (hS : ∀ k, S k → m0 ≤ k ∧ k ≠ bx ∧ k ≠ bn ∧ k ≠ bo ∧ k ≠ g ∧ v.ownBlock ≠ some k) (hf : FarB S W W') : NS m0 bx bn bo g L N b off c cs t Q v W' :=
  ⟨hf.row h.hx (fun e => (hS _ e).2.1 rfl), fun i hi => (World.cell?_of_block (hf.block b (by omega) (fun e => by have := (hS _ e).1; omega))).trans (h.hc i hi), hf.row h.hn (fun e => (hS _ e).2.2.1 rfl), rowIs_block h.hg (hf.block g (rowIs_lt h.hg) (fun e => (hS _ e).2.2.2.2.1 rfl)), hf.row h.ho (fun e => (hS _ e).2.2.2.1 rfl),
    h.q.block (fun k hk => hf.block k (h.lt hk) (fun e => (hS _ e).2.2.2.2.2 hk)), h.far, fun k hk => by
      obtain ⟨cur, hc⟩ := h.own k hk
      exact ⟨cur, hf.row hc (fun e => (hS _ e).2.2.2.2.2 hk)⟩⟩
theorem NS.keep {m0 bx bn bo g L N b off c : Nat} {cs : List Int} {t : Tb} {Q : List Int} {v : Value} {W W' : World} (h : NS m0 bx bn bo g L N b off c cs t Q v W) (hb : b < m0) (hm : m0 ≤ W.heap.size) (hf : Below W.heap.size W W') : NS m0 bx bn bo g L N b off c cs t Q v W' :=
  h.farB hb hm (S := fun _ => False) (fun _ e => e.elim) (FarB.of_below hf)
end Go.Proofs.Ytogfoahejgmfgaa
