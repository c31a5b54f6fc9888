/-
  Boards of hexagons: the need, the program's text: what stands between two steps of the search; marks of loops over functions.
-/
import Derived.Test.YtogfoahejgmfgaaNr
import Derived.RangeFuncKeeps
namespace Go.Proofs.Ytogfoahejgmfgaa
open Go.RowKit
set_option linter.unusedVariables false

/-- What stands between two steps: the search's boxes; the blocks of X are let alone. -/
structure SS (m0 bx bn bo g L N b off c : Nat) (X : Nat → Prop) (cs : List Int) (t : Tb) (Q : List Int) (v : Value) (W0 W : World) : Prop where
  ns : NS m0 bx bn bo g L N b off c cs t Q v W
  old : Below m0 W0 W
  ne : ∀ k, v.ownBlock = some k → ¬ X k
  xg : ∀ k, X k → k ≠ g ∧ k ≠ bo ∧ k < W.heap.size
  sz : m0 ≤ W.heap.size
theorem NS.others {m0 bx bn bo g L N b off c : Nat} {cs : List Int} {t : Tb} {Q : List Int} {v : Value} {W W' : World} (h : NS m0 bx bn bo g L N b off c cs t Q v W) (hF : FarB (fun k => k = g ∨ k = bo ∨ v.ownBlock = some k) W W') : KeepsOthers W W' := by
  refine ⟨hF.size, fun k o ho hc => hF.row ho ?_⟩
  rintro (e | e | e)
  · subst e
    obtain ⟨cc, hg, _⟩ := h.hg
    rw [ho] at hg; cases hg; cases hc
  · subst e
    have := h.ho
    rw [ho] at this; cases this; cases hc
  · obtain ⟨cur, hcur⟩ := h.own k e
    rw [ho] at hcur; cases hcur; cases hc
theorem SS.reach {m0 bx bn bo g L N b off c : Nat} {X : Nat → Prop} {cs : List Int} {t : Tb} {Q : List Int} {v : Value} {W0 W W' : World} {x k : Nat} (hp : NPl m0 bx bn bo g) (h : SS m0 bx bn bo g L N b off c X cs t Q v W0 W) (hr : ReachP m0 bx bn bo g L N b off c cs t Q v x k W W') :
    ∃ v', SS m0 bx bn bo g L N b off c X cs (rchT cs t x k) (rchQ cs t Q x k) v' W0 W' ∧ FarB (fun j => ¬ X j ∧ m0 ≤ j) W W' ∧ KeepsOthers W W' := by
  obtain ⟨v', h1, h2, h3⟩ := hr
  have hS : ∀ j, (j = g ∨ j = bo ∨ v.ownBlock = some j) → ¬ X j ∧ m0 ≤ j := by
    rintro j (e | e | e)
    · subst e; exact ⟨fun hx => (h.xg j hx).1 rfl, hp.g0⟩
    · subst e; exact ⟨fun hx => (h.xg j hx).2.1 rfl, hp.o0⟩
    · exact ⟨h.ne j e, (h.ns.far j e).2.2.2.2⟩
  have hF := h2.weaken hS
  refine ⟨v', ⟨h1, h.old.trans (hF.below h.sz (fun k hk => hk.2)), fun j hj hx => ?_, fun j hj => ?_, Nat.le_trans h.sz h2.size⟩, hF, h.ns.others h2⟩
  · rcases h3 with e | e
    · exact h.ne j (e ▸ hj) hx
    · have := e j hj
      have := (h.xg j hx).2.2
      omega
  · obtain ⟨a1, a2, a3⟩ := h.xg j hj
    exact ⟨a1, a2, Nat.lt_of_lt_of_le a3 h2.size⟩
theorem SS.keep {m0 bx bn bo g L N b off c : Nat} {X : Nat → Prop} {cs : List Int} {t : Tb} {Q : List Int} {v : Value} {W0 W W' : World} (hb : b < m0) (h : SS m0 bx bn bo g L N b off c X cs t Q v W0 W) (hf : Below W.heap.size W W') :
    SS m0 bx bn bo g L N b off c (fun k => X k ∨ (W.heap.size ≤ k ∧ k < W'.heap.size)) cs t Q v W0 W' := by
  refine ⟨h.ns.keep hb h.sz hf, h.old.trans (hf.mono h.sz), fun k hk hx => ?_, fun k hx => ?_, Nat.le_trans h.sz hf.size⟩
  · rcases hx with hx | hx
    · exact h.ne k hk hx
    · have := h.ns.lt hk; omega
  · have l3 := block_lt h.ns.ho
    have l4 := rowIs_lt h.ns.hg
    rcases hx with hx | hx
    · obtain ⟨a1, a2, a3⟩ := h.xg k hx
      exact ⟨a1, a2, Nat.lt_of_lt_of_le a3 hf.size⟩
    · exact ⟨by omega, by omega, hx.2⟩
theorem SS.weaken {m0 bx bn bo g L N b off c : Nat} {X Y : Nat → Prop} {cs : List Int} {t : Tb} {Q : List Int} {v : Value} {W0 W : World} (h : SS m0 bx bn bo g L N b off c X cs t Q v W0 W) (hY : ∀ k, Y k → X k) : SS m0 bx bn bo g L N b off c Y cs t Q v W0 W :=
  ⟨h.ns, h.old, fun k hk hy => h.ne k hk (hY k hy), fun k hy => h.xg k (hY k hy), h.sz⟩
/-- A block that holds no cells is let alone, too. -/
theorem SS.mark {m0 bx bn bo g L N b off c : Nat} {X : Nat → Prop} {cs : List Int} {t : Tb} {Q : List Int} {v : Value} {W0 W : World} (h : SS m0 bx bn bo g L N b off c X cs t Q v W0 W) {D : Nat} {o : Obj} (ho : W.heap[D]? = some o) (hc : o.isCells = false) : SS m0 bx bn bo g L N b off c (fun k => X k ∨ k = D) cs t Q v W0 W := by
  refine ⟨h.ns, h.old, fun k hk hx => ?_, fun k hx => ?_, h.sz⟩
  · rcases hx with hx | hx
    · exact h.ne k hk hx
    · subst hx
      obtain ⟨cur, hcur⟩ := h.ns.own k hk
      rw [hcur] at ho; cases ho; cases hc
  · rcases hx with hx | hx
    · exact h.xg k hx
    · subst hx
      refine ⟨fun e => ?_, fun e => ?_, block_lt ho⟩
      · obtain ⟨cc, hg, _⟩ := h.ns.hg
        rw [← e, ho] at hg; cases hg; cases hc
      · have := h.ns.ho
        rw [← e, ho] at this; cases this; cases hc
/-- A loop over a function keeps what it must. -/
theorem SS.grown {m0 bx bn bo g L N b off c B : Nat} {X : Nat → Prop} {cs : List Int} {t : Tb} {Q : List Int} {v : Value} {W0 W W' : World} {row : Option Nat} (hp : NPl m0 bx bn bo g) (hb : b < m0) (h : SS m0 bx bn bo g L N b off c X cs t Q v W0 W) (hB : bx < B ∧ bn < B ∧ bo < B ∧ g < B ∧ m0 ≤ B) (hX : ∀ k, X k → k < B)
    (hg : W.grownBy W' row) (hr : ∀ r, row = some r → B ≤ r ∧ ∃ o : Obj, W.heap[r]? = some o ∧ o.isCells = false) : SS m0 bx bn bo g L N b off c X cs t Q v W0 W' := by
  have hF : FarB (fun k => row = some k) W W' := ⟨hg.os, hg.tape, hg.output, hg.size, fun k hk hS => hg.block k hk (fun e => hS e.symm)⟩
  obtain ⟨b1, b2, b3, b4, b5⟩ := hB
  refine ⟨h.ns.farB hb h.sz (fun k hk => ?_) hF, h.old.trans (hF.below h.sz (fun k hk => by have := (hr k hk).1; omega)), h.ne, fun k hk => ?_, Nat.le_trans h.sz hg.size⟩
  · obtain ⟨h1, o, ho, hc⟩ := hr k hk
    refine ⟨by omega, by omega, by omega, by omega, by omega, fun e => ?_⟩
    obtain ⟨cur, hcur⟩ := h.ns.own k e
    rw [hcur] at ho; cases ho; cases hc
  · obtain ⟨a1, a2, a3⟩ := h.xg k hk
    exact ⟨a1, a2, Nat.lt_of_lt_of_le a3 hg.size⟩

/-- The head of the queue is taken off. -/
theorem SS.pop {m0 bx bn bo g L N b off c : Nat} {X : Nat → Prop} {cs : List Int} {t : Tb} {y : Int} {r : List Int} {gq offq n cq : Nat} {v2 : Value} {W0 W : World} (hp : NPl m0 bx bn bo g) (hb : b < m0) (h : SS m0 bx bn bo g L N b off c X cs t (y :: r) (.slice (some ⟨gq, offq, none⟩) n cq) W0 W)
    (hX : ¬ X bo) (hq : QAt W m0 v2 r) (hv : v2.ownBlock = some gq) : SS m0 bx bn bo g L N b off c X cs t r v2 W0 (W.setCell ⟨bo, 0, none⟩ v2) := by
  obtain ⟨a1, a2, a3, a4, a5⟩ := h.ns.far gq rfl
  have hF : FarB (fun k => k = bo) W (W.setCell ⟨bo, 0, none⟩ v2) := (FarB.refl (fun k => k = bo) W).set (m := bo) rfl v2
  refine ⟨⟨hF.row h.ns.hx (fun e => hp.ox e.symm), fun i hi => (World.cell?_of_block (hF.block b (by have := h.sz; omega) (fun e => by have := hp.o0; omega))).trans (h.ns.hc i hi), hF.row h.ns.hn (fun e => hp.on e.symm), rowIs_block h.ns.hg (hF.block g (rowIs_lt h.ns.hg) hp.go), box_set1 _ h.ns.ho, hq.block (fun k hk => ?_), fun k hk => ?_, fun k hk => ?_⟩, h.old.trans (hF.below h.sz (fun k hk => by subst hk; exact hp.o0)), fun k hk => ?_, fun k hx => ?_, Nat.le_trans h.sz hF.size⟩
  · rw [hv] at hk; cases hk
    exact hF.block gq (h.ns.lt rfl) a4
  · rw [hv] at hk; cases hk
    exact ⟨a1, a2, a3, a4, a5⟩
  · rw [hv] at hk; cases hk
    obtain ⟨cur, hc⟩ := h.ns.own gq rfl
    exact ⟨cur, hF.row hc a4⟩
  · rw [hv] at hk; cases hk
    exact h.ne gq rfl
  · obtain ⟨x1, x2, x3⟩ := h.xg k hx
    exact ⟨x1, x2, Nat.lt_of_lt_of_le x3 hF.size⟩
/-! ### marks -/
def mkD (D : Nat) : Deferred := { target := .collected D, args := #[] }
/-- A frame that leaves with marks alone. -/
theorem leaves_marks {fn : Func} {tmps : Array Value} {R : Ending → World → Prop} {n m : Nat} : ∀ (ds : List Nat) (W w : World), ds.Nodup → (∀ D ∈ ds, m ≤ D ∧ w.heap[D]? = some (.deferred (some []))) → Below m W w → (∀ w', Below m W w' → LeavesIn Fence.wide n Try.prog fn tmps R [] .returning w') → LeavesInM Fence.wide n Try.prog fn tmps R (ds.map mkD) .returning w
  | [], W, w, _, _, hb, h => h w hb
  | D :: ds, W, w, hn, hd, hb, h => by
    obtain ⟨h1, h2⟩ := hd D List.mem_cons_self
    rw [List.nodup_cons] at hn
    refine ⟨by simp, .inl ⟨D, _, rfl, run_takeDeferred h2, ?_⟩⟩
    refine leaves_marks ds W _ hn.2 (fun E hE => ?_) ?_ h
    · obtain ⟨e1, e2⟩ := hd E (List.mem_cons_of_mem _ hE)
      exact ⟨e1, (World.putObj_heap_other (fun e : E = D => hn.1 (e ▸ hE))).trans e2⟩
    · refine hb.trans ?_
      exact (Below.refl m w).grown (grownBy_putObj' w D (.deferred none)) (by have := block_lt h2; omega) (fun k e => by cases e; omega)
end Go.Proofs.Ytogfoahejgmfgaa
