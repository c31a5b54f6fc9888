/-
  Boards of hexagons: the need, the program's text: the closure that reaches a cell.
-/
import Derived.Test.YtogfoahejgmfgaaNq
import Derived.Test.YtogfoahejgmfgaaHq
namespace Go.Proofs.Ytogfoahejgmfgaa
open Go.RowKit
set_option linter.unusedVariables false

theorem nedV_set {t : Tb} {x k : Nat} (hx : x < t.length) (i : Nat) : nedV (t.set (x : Int).toNat (some k)) i = if i = x then .int .i64 (k : Int) else nedV t i := by
  unfold nedV
  rw [tbAt_set (by omega) (by omega) (i : Int) (by omega)]
  by_cases e : i = x
  · subst e; rw [if_pos rfl, if_pos rfl]; rfl
  · rw [if_neg (by omega), if_neg e]
/-- What a call of the closure leaves. -/
def ReachP (m0 bx bn bo g L N b off c : Nat) (cs : List Int) (t : Tb) (Q : List Int) (v : Value) (x k : Nat) (W : World) (W' : World) : Prop :=
  ∃ v', NS m0 bx bn bo g L N b off c cs (rchT cs t x k) (rchQ cs t Q x k) v' W' ∧ FarB (fun k => k = g ∨ k = bo ∨ v.ownBlock = some k) W W' ∧ (v'.ownBlock = v.ownBlock ∨ ∀ k, v'.ownBlock = some k → W.heap.size ≤ k)
theorem ReachP.no {m0 bx bn bo g L N b off c : Nat} {cs : List Int} {t : Tb} {Q : List Int} {v : Value} {x k : Nat} {W : World} (h : NS m0 bx bn bo g L N b off c cs t Q v W) (hb : rchB cs t x k = false) : ReachP m0 bx bn bo g L N b off c cs t Q v x k W W := by
  refine ⟨v, ?_, FarB.refl _ _, .inl rfl⟩
  unfold rchT rchQ
  rw [hb]
  exact h
theorem ReachP.yes {m0 bx bn bo g L N b off c : Nat} {cs : List Int} {t : Tb} {Q : List Int} {v v' : Value} {x k : Nat} {kI : Int} (hkI : kI = (k : Int)) {W w5 : World} (hp : NPl m0 bx bn bo g) (hb0 : b < m0) (hm : m0 ≤ W.heap.size) (htl : t.length = L) (hx : x < L)
    (h : NS m0 bx bn bo g L N b off c cs t Q v W) (hb : rchB cs t x k = true) (hq : QAt w5 m0 v' (Q ++ [(x : Int)])) (hf : FarB (fun k => v.ownBlock = some k) ((W.setCell ⟨g, x, none⟩ (.int .i64 kI)).alloc (.cells #[.int .i64 (x : Int)] 2)) w5)
    (hat : v'.ownBlock = v.ownBlock ∨ ∀ k, v'.ownBlock = some k → W.heap.size + 1 ≤ k) : ReachP m0 bx bn bo g L N b off c cs t Q v x k W (w5.setCell ⟨bo, 0, none⟩ v') := by
  subst hkI
  obtain ⟨p1, p2, p3, p4, p5, p6, p7, p8, p9⟩ := hp
  have hs1 : ((W.setCell ⟨g, x, none⟩ (.int .i64 (k : Int))).alloc (.cells #[.int .i64 (x : Int)] 2)).heap.size = W.heap.size + 1 := by simp [World.setCell]
  have hF1 : FarB (fun j => v.ownBlock = some j ∨ j = bo) ((W.setCell ⟨g, x, none⟩ (.int .i64 (k : Int))).alloc (.cells #[.int .i64 (x : Int)] 2)) (w5.setCell ⟨bo, 0, none⟩ v') := (hf.weaken (fun j e => .inl e)).set (.inr rfl) _
  have hF0 : FarB (fun j => j = g ∨ j = bo ∨ v.ownBlock = some j) W ((W.setCell ⟨g, x, none⟩ (.int .i64 (k : Int))).alloc (.cells #[.int .i64 (x : Int)] 2)) :=
    ((FarB.refl (fun j => j = g ∨ j = bo ∨ v.ownBlock = some j) W).set (m := g) (.inl rfl) _).trans (FarB.of_below (S := fun _ => False) (below_alloc _ _)) (fun j e => e.elim)
  have hF : FarB (fun j => j = g ∨ j = bo ∨ v.ownBlock = some j) W (w5.setCell ⟨bo, 0, none⟩ v') := hF0.trans hF1 (fun j e _ => by rcases e with e | e; exact .inr (.inr e); exact .inr (.inl e))
  have hvb : ∀ j, v'.ownBlock = some j → j ≠ g ∧ j ≠ bx ∧ j ≠ bn ∧ j ≠ bo ∧ m0 ≤ j := by
    intro j hj
    rcases hat with e | e
    · obtain ⟨a1, a2, a3, a4, a5⟩ := h.far j (e ▸ hj)
      exact ⟨a1, a2, a3, a4, a5⟩
    · have := e j hj
      have l1 := block_lt h.hx
      have l2 := block_lt h.hn
      have l3 := block_lt h.ho
      have l4 := rowIs_lt h.hg
      exact ⟨by omega, by omega, by omega, by omega, by omega⟩
  have nS : ∀ j, j ≠ g → j ≠ bo → (∀ i, v.ownBlock = some i → i ≠ j) → ¬ (j = g ∨ j = bo ∨ v.ownBlock = some j) := by
    rintro j h1 h2 h3 (e | e | e)
    · exact h1 e
    · exact h2 e
    · exact h3 j e rfl
  have hbo5 : w5.heap[bo]? = some (.cells #[v] 22 (0, 0)) := by
    refine hf.row ?_ (fun e => (h.far bo e).2.2.2.1 rfl)
    rw [Below.heap_alloc _ _ _ (by simpa [World.setCell] using block_lt h.ho), heap_setCell_other _ _ _ _ (show bo ≠ g from fun e => p7 e.symm)]
    exact h.ho
  refine ⟨v', ?_, hF, ?_⟩
  · unfold rchT rchQ
    rw [hb, if_pos rfl, if_pos rfl]
    refine ⟨hF.row h.hx (nS bx (fun e => p5 e.symm) (fun e => p8 e.symm) (fun i hi => (h.far i hi).2.1)), fun i hi => (World.cell?_of_block (hF.block b (by omega) (nS b (by omega) (by omega) (fun i hi => by have := (h.far i hi).2.2.2.2; omega)))).trans (h.hc i hi), hF.row h.hn (nS bn (fun e => p6 e.symm) (fun e => p9 e.symm) (fun i hi => (h.far i hi).2.2.1)), ?_, box_set1 _ hbo5, ?_, ?_, ?_⟩
    · have h1 := h.hg.set x (.int .i64 (k : Int))
      have h2 : ((W.setCell ⟨g, x, none⟩ (.int .i64 (k : Int))).alloc (.cells #[.int .i64 (x : Int)] 2)).rowIs g 2 L (nedV (t.set (x : Int).toNat (some k))) := by
        refine (rowIs_block h1 (Below.heap_alloc _ _ _ (by simpa [World.setCell] using rowIs_lt h.hg))).congr (fun i _ => ?_)
        rw [nedV_set (by omega)]
      refine rowIs_block h2 (hF1.block g (by rw [hs1]; have := rowIs_lt h.hg; omega) ?_)
      rintro (e | e)
      · exact (h.far g e).1 rfl
      · exact p7 e
    · exact hq.block (fun j hj => heap_setCell_other _ _ _ _ (show j ≠ bo from (hvb j hj).2.2.2.1))
    · exact hvb
    · intro j hj
      obtain ⟨cur, hc⟩ := hq.row (by simp) j hj
      exact ⟨cur, (heap_setCell_other _ _ _ _ (show j ≠ bo from (hvb j hj).2.2.2.1)).trans hc⟩
  · rcases hat with e | e
    · exact .inl e
    · exact .inr (fun j hj => by have := e j hj; omega)

set_option maxRecDepth 100000 in
set_option maxHeartbeats 4000000 in
theorem reach_any {m0 bx bn bo g L N b off c : Nat} {cs : List Int} {t : Tb} {Q : List Int} {v : Value} (hp : NPl m0 bx bn bo g) (hb0 : b < m0) (x k0 : Nat) (hxL : x < L) (hL : L ≤ 64) (hk : k0 ≤ 1000) (hz0 : 0 ≤ hexAt cs (x : Int)) (hz2 : hexAt cs (x : Int) ≤ 2) (hQ : Q.length ≤ 100000) (htl : t.length = L) (W : World) (hm : m0 ≤ W.heap.size)
    (h : NS m0 bx bn bo g L N b off c cs t Q v W) : Calls Try.prog 108 #[.int .i64 x, .int .i64 k0, .pointer (some ⟨bx, 0, none⟩), .pointer (some ⟨bn, 0, none⟩), .pointer (some ⟨bo, 0, none⟩)] W fun e W' => e = .returned (.tuple #[]) ∧ ReachP m0 bx bn bo g L N b off c cs t Q v x (k0 + costH cs (x : Int)) W W' := by
  obtain ⟨c0, c1, _, _⟩ := row2' h.hx
  have cx := h.hc x hxL
  obtain ⟨cn, _⟩ := row1 h.hn
  obtain ⟨cg, fg⟩ := rowIs_cell h.hg hxL
  obtain ⟨co, fo⟩ := row1 h.ho
  unfold nedV at cg
  obtain ⟨E, hE⟩ : ∃ E, E = encI (tbAt t (x : Int)) := ⟨_, rfl⟩
  rw [← hE] at cg
  obtain ⟨z, hz⟩ : ∃ z, z = hexAt cs (x : Int) := ⟨_, rfl⟩
  rw [← hz] at cx hz0 hz2
  obtain ⟨k, hkk⟩ : ∃ k, k = k0 + costH cs (x : Int) := ⟨_, rfl⟩
  rw [← hkk]
  have hk1 : k = if z = 0 then k0 + 1 else k0 := by rw [hkk, hz]; unfold costH; split <;> omega
  have hrb : rchB cs t (x : Int) k = (decide (z ≠ 2) && decide ((k : Int) < E)) := by rw [hz, hE]; rfl
  have HRB := hide hrb
  have HP := hide hp
  have HNS := hide h
  have HTL := hide htl
  clear hE hz hkk hrb hp h htl
  rcases (by omega : z = 2 ∨ z = 1 ∨ z = 0) with rfl | rfl | rfl
  · have hfin := hide (ReachP.no (k := k) (x := x) HNS.out (by rw [HRB.out]; simp))
    clear hk1
    go_enter Try.func108, Try.ntmps108
    go_wp2_with fail
    go_end0
    exact ⟨rfl, hfin.out⟩
  · replace hk1 : k = k0 := hk1
    have hkI : Hid ((k0 : Int) = (k : Int)) := hide (by rw [hk1])
    by_cases hlt : (k0 : Int) < E
    · have hyes : Hid (rchB cs t (x : Int) k = true) := hide (by rw [HRB.out, ← hkI.out]; simp [hlt])
      have hq1 : Hid (QAt ((W.setCell ⟨g, x, none⟩ (.int .i64 (k0 : Int))).alloc (.cells #[.int .i64 (x : Int)] 2)) m0 v Q) := hide (HNS.out.q.block (fun j hj => by
        obtain ⟨a1, a2, a3, a4, a5⟩ := HNS.out.far j hj
        have a6 := HNS.out.lt hj
        rw [Below.heap_alloc _ _ _ (by simpa [World.setCell] using a6), heap_setCell_other _ _ _ _ (show j ≠ g from a1)]))
      have hcn : Hid (((W.setCell ⟨g, x, none⟩ (.int .i64 (k0 : Int))).alloc (.cells #[.int .i64 (x : Int)] 2)).cell? ⟨W.heap.size, 0, none⟩ = some (.int .i64 (x : Int))) := hide (by
        have := cell_one_set W ⟨g, x, none⟩ (.int .i64 (k0 : Int)) (.int .i64 (x : Int)) 2 0 _ rfl
        simpa [Addr.add] using this)
      have HSZ : Hid (m0 ≤ ((W.setCell ⟨g, x, none⟩ (.int .i64 (k0 : Int))).alloc (.cells #[.int .i64 (x : Int)] 2)).heap.size) := hide (by simp [World.setCell]; omega)
      have hco2 : (W.setCell ⟨g, x, none⟩ (.int .i64 (k0 : Int))).cell? ⟨bo, 0, none⟩ = some v := (cell_set_far W (fun e => HP.out.go e) _).trans co
      clear hk1
      go_enter Try.func108, Try.ntmps108
      go_wp2_with (at_builtin; refine wpList_append_q rfl _ _ rfl m0 v Q (x : Int) rfl hq1.out (by omega) HSZ.out W.heap.size rfl hcn.out ?_)
      intro v' w5 hq5 hf5 hat5
      have hbo5 : w5.heap[bo]? = some (.cells #[v] 22 (0, 0)) := by
        refine hf5.row ?_ (fun e => (HNS.out.far bo e).2.2.2.1 rfl)
        rw [Below.heap_alloc _ _ _ (by simpa [World.setCell] using block_lt HNS.out.ho), heap_setCell_other _ _ _ _ (show bo ≠ g from fun e => HP.out.go e.symm)]
        exact HNS.out.ho
      obtain ⟨co5, fo5⟩ := row1 hbo5
      have hfin : Hid (ReachP m0 bx bn bo g L N b off c cs t Q v x k W (w5.setCell ⟨bo, 0, none⟩ v')) := hide (ReachP.yes hkI.out HP.out hb0 hm HTL.out hxL HNS.out hyes.out hq5 hf5 (by
        rcases hat5 with e | e
        · exact .inl e
        · exact .inr (fun j hj => by have := e j hj; simpa [World.setCell] using this)))
      obtain ⟨a5, c5, rfl⟩ : ∃ a5 c5, v' = .slice a5 (Q ++ [(x : Int)]).length c5 := by
        obtain ⟨a5, c5, e, _⟩ := hq5
        exact ⟨a5, c5, e⟩
      clear hq5 hf5 hat5 hbo5 hco2
      go_wp2_with fail
      go_end0
      exact ⟨rfl, by have h := hfin.out; rw [List.length_append] at h; exact h⟩
    · have hfin := hide (ReachP.no (k := k) (x := x) HNS.out (by rw [HRB.out, ← hkI.out]; simp [hlt]))
      clear hk1
      go_enter Try.func108, Try.ntmps108
      go_wp2_with fail
      go_end0
      exact ⟨rfl, hfin.out⟩
  · replace hk1 : k = k0 + 1 := hk1
    have hkI : Hid (((k0 : Int) + 1) = (k : Int)) := hide (by rw [hk1]; push_cast; rfl)
    by_cases hlt : ((k0 : Int) + 1) < E
    · have hyes : Hid (rchB cs t (x : Int) k = true) := hide (by rw [HRB.out, ← hkI.out]; simp [hlt])
      have hq1 : Hid (QAt ((W.setCell ⟨g, x, none⟩ (.int .i64 ((k0 : Int) + 1))).alloc (.cells #[.int .i64 (x : Int)] 2)) m0 v Q) := hide (HNS.out.q.block (fun j hj => by
        obtain ⟨a1, a2, a3, a4, a5⟩ := HNS.out.far j hj
        have a6 := HNS.out.lt hj
        rw [Below.heap_alloc _ _ _ (by simpa [World.setCell] using a6), heap_setCell_other _ _ _ _ (show j ≠ g from a1)]))
      have hcn : Hid (((W.setCell ⟨g, x, none⟩ (.int .i64 ((k0 : Int) + 1))).alloc (.cells #[.int .i64 (x : Int)] 2)).cell? ⟨W.heap.size, 0, none⟩ = some (.int .i64 (x : Int))) := hide (by
        have := cell_one_set W ⟨g, x, none⟩ (.int .i64 ((k0 : Int) + 1)) (.int .i64 (x : Int)) 2 0 _ rfl
        simpa [Addr.add] using this)
      have HSZ : Hid (m0 ≤ ((W.setCell ⟨g, x, none⟩ (.int .i64 ((k0 : Int) + 1))).alloc (.cells #[.int .i64 (x : Int)] 2)).heap.size) := hide (by simp [World.setCell]; omega)
      have hco2 : (W.setCell ⟨g, x, none⟩ (.int .i64 ((k0 : Int) + 1))).cell? ⟨bo, 0, none⟩ = some v := (cell_set_far W (fun e => HP.out.go e) _).trans co
      clear hk1
      go_enter Try.func108, Try.ntmps108
      go_wp2_with (at_builtin; refine wpList_append_q rfl _ _ rfl m0 v Q (x : Int) rfl hq1.out (by omega) HSZ.out W.heap.size rfl hcn.out ?_)
      intro v' w5 hq5 hf5 hat5
      have hbo5 : w5.heap[bo]? = some (.cells #[v] 22 (0, 0)) := by
        refine hf5.row ?_ (fun e => (HNS.out.far bo e).2.2.2.1 rfl)
        rw [Below.heap_alloc _ _ _ (by simpa [World.setCell] using block_lt HNS.out.ho), heap_setCell_other _ _ _ _ (show bo ≠ g from fun e => HP.out.go e.symm)]
        exact HNS.out.ho
      obtain ⟨co5, fo5⟩ := row1 hbo5
      have hfin : Hid (ReachP m0 bx bn bo g L N b off c cs t Q v x k W (w5.setCell ⟨bo, 0, none⟩ v')) := hide (ReachP.yes hkI.out HP.out hb0 hm HTL.out hxL HNS.out hyes.out hq5 hf5 (by
        rcases hat5 with e | e
        · exact .inl e
        · exact .inr (fun j hj => by have := e j hj; simpa [World.setCell] using this)))
      obtain ⟨a5, c5, rfl⟩ : ∃ a5 c5, v' = .slice a5 (Q ++ [(x : Int)]).length c5 := by
        obtain ⟨a5, c5, e, _⟩ := hq5
        exact ⟨a5, c5, e⟩
      clear hq5 hf5 hat5 hbo5 hco2
      go_wp2_with fail
      go_end0
      exact ⟨rfl, by have h := hfin.out; rw [List.length_append] at h; exact h⟩
    · have hfin := hide (ReachP.no (k := k) (x := x) HNS.out (by rw [HRB.out, ← hkI.out]; simp [hlt]))
      clear hk1
      go_enter Try.func108, Try.ntmps108
      go_wp2_with fail
      go_end0
      exact ⟨rfl, hfin.out⟩
end Go.Proofs.Ytogfoahejgmfgaa
