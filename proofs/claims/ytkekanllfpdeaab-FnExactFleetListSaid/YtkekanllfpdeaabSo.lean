/-
  Lines of a grid: slices.AppendSeq, Collect, Sorted over them; the placements, the program's text.
-/
import Derived.Test.YtkekanllfpdeaabLn
import Derived.Test.YtkekanllfpdeaabOw
import Derived.Test.YtkekanllfpdeaabSh
namespace Go.Proofs.Ytkekanllfpdeaab
open Go.RowKit Go.Shelf
attribute [local go_sem] Oper.semAt_some
set_option linter.unusedVariables false

theorem lin_stops (m : Nat) (hm : 1 ≤ m) (Bs Bg Bk G n : Nat) (W H : Int) (w0 : 1 ≤ W) (w1 : W ≤ 5) (h0 : 1 ≤ H) (h1 : H ≤ 5) (hn : n ≤ 5) (V V1 : World) (hf : LinF V Bs Bg Bk G W H n) (hb : Below V.heap.size V V1) :
    SeqStopsK Fence.wide m Try.prog 73 #[.pointer (some ⟨Bs, 0, none⟩), .pointer (some ⟨Bg, 0, none⟩), .pointer (some ⟨Bk, 0, none⟩)] (fun z : Int => #[Value.int .i64 z]) (KeepY V.heap.size)
      (fun ys => ys = linesL W H n) (fun _ => True) 50 V1 := fun l J Jx V' hW hJ _ hY h0' =>
  lin_in m hm l V.heap.size Bs Bg Bk G n W H w0 w1 h0 h1 hn J Jx (fun s A C hs hb => hJ s A C none hs (below_grownBy hb) (fun r e => by cases e)) hY V V' (Nat.le_refl _) (Below.trans' hb hW) hf (Below.trans' hb hW).size h0'

theorem own_type {w : World} {base n : Nat} {v : Value} {xs : List Value} (h : w.ownsRow base 2 1 v n xs) : ∀ (j : Nat) (o : Obj), v.ownBlock = some j → w.heap[j]? = some o → ∃ cur, o = .cells cur 2 (0, 0) := by
  intro j o hj ho
  rcases h.2 with ⟨hv, _⟩ | ⟨g, cap, cur, hv, _, hh, _⟩
  · rw [hv] at hj; simp [Value.ownBlock] at hj
  · rw [hv] at hj
    simp [Value.ownBlock] at hj
    subst hj
    rw [hh] at ho
    cases ho
    exact ⟨_, rfl⟩
theorem box_set1 {w : World} {b : Nat} {x : Value} (y : Value) {t : TypeId} (h : w.heap[b]? = some (.cells #[x] t (0, 0))) : (w.setCell ⟨b, 0, none⟩ y).heap[b]? = some (.cells #[y] t (0, 0)) := heap_setCell_same _ b 0 _ t y h

/-- Between two rounds of AppendSeq's loop: the box of the list, the list; all that was there as it was. -/
def MidA (zs : List Int) (N : Nat) (W0 W : World) : Prop :=
  ∃ v, W.heap[N]? = some (.cells #[v] 22 (0, 0)) ∧ W.ownsRow (N + 1) 2 1 v zs.length (zs.map intV) ∧ N + 1 ≤ W.heap.size ∧ Below N W0 W
theorem own_cells {w : World} {base n : Nat} {e : TypeId} {v : Value} {xs : List Value} (h : w.ownsRow base e 1 v n xs) : ∀ (j : Nat) (o : Obj), v.ownBlock = some j → w.heap[j]? = some o → o.isCells = true := by
  intro j o hj ho
  rcases h.2 with ⟨hv, _⟩ | ⟨g, cap, cur, hv, _, hh, _⟩
  · rw [hv] at hj; simp [Value.ownBlock] at hj
  · rw [hv] at hj
    simp [Value.ownBlock] at hj
    subst hj
    rw [hh] at ho
    cases ho
    rfl
theorem MidA.grown {zs : List Int} {N B : Nat} {W0 W W' : World} {row : Option Nat} (h : MidA zs N W0 W) (hB : N < B) (hg : W.grownBy W' row) (hr : ∀ r, row = some r → B ≤ r ∧ ∃ o : Obj, W.heap[r]? = some o ∧ o.isCells = false) : MidA zs N W0 W' := by
  obtain ⟨v, h1, h2, h3, h4⟩ := h
  refine ⟨v, (hg.block N (by omega) (fun e => by have := (hr N e.symm).1; omega)).trans h1, h2.kept hg ?_, by have := hg.size; omega, h4.trans ⟨hg.os, hg.tape, hg.output, hg.size, fun k hk => hg.block k (by omega) (fun e => by have := (hr k e.symm).1; omega)⟩⟩
  cases hv : v.ownBlock with
  | none => simp
  | some j =>
    refine .inr (fun e => ?_)
    obtain ⟨_, o, ho, hc⟩ := hr j e.symm
    rw [own_cells h2 j o hv ho] at hc
    cases hc

set_option maxRecDepth 100000 in
set_option maxHeartbeats 4000000 in
theorem appendSeq_any (Bs Bg Bk G n : Nat) (Wd H : Int) (w0 : 1 ≤ Wd) (w1 : Wd ≤ 5) (h0 : 1 ≤ H) (h1 : H ≤ 5) (hn : n ≤ 5) (W : World) (hf : LinF W Bs Bg Bk G Wd H n) :
    Calls Try.prog 97 #[.slice none 0 0, .func (.func 73) #[] #[.pointer (some ⟨Bs, 0, none⟩), .pointer (some ⟨Bg, 0, none⟩), .pointer (some ⟨Bk, 0, none⟩)]] W (NewL (linesL Wd H n) W) := by
  obtain ⟨i0, hi0, hz0, hz1, hz2⟩ := info_parts Try.info2
  refine (callsIn_wide (n := 6)).1 ?_
  refine callsIn_of_wp_marks Try.func97 rfl trivial ?_ rfl
  simp only [Try.ntmps97, List.size_toArray, List.length_cons, List.length_nil, Nat.reduceAdd, Nat.reduceSub, Array.replicate_succ, Array.replicate_zero, List.push_toArray, List.append_toArray, List.nil_append, List.cons_append]
  gi_wp2
  obtain ⟨W0, hW0⟩ : ∃ W0, W0 = W.alloc (.cells #[.slice none 0 0] 22) := ⟨_, rfl⟩
  have hs0 : W0.heap.size = W.heap.size + 1 := by rw [hW0]; simp
  have hB0 : Hid (Below W.heap.size W W0) := by rw [hW0]; exact hide (below_alloc _ _)
  have hr0 : W0.heap[W.heap.size]? = some (.cells #[.slice none 0 0] 22 (0, 0)) := by rw [hW0]; exact alloc_row _ _ _
  have hM0 : MidA [] W.heap.size W W0 := ⟨_, hr0, World.ownsRow_nil _ _ _ _, by omega, hB0.out⟩
  rw [← hW0]
  clear hW0 hr0
  refine wpIn_rangeFunc_ownF (F := Fence.wide) rfl (by omega) (gf := 73) (lb := #[.pointer (some ⟨Bs, 0, none⟩), .pointer (some ⟨Bg, 0, none⟩), .pointer (some ⟨Bk, 0, none⟩)]) rfl trivial (enters_of Try.func73 (by kernel_rfl) rfl)
    (lin_stops 5 (by omega) Bs Bg Bk G n Wd H w0 w1 h0 h1 hn W W0 hf hB0.out) KeepY.trans (keepY_b (by omega)) (Below.refl _ _) (fun _ => rfl)
    (fun pre V => MidA pre W.heap.size W V)
    (fun _ _ _ => False)
    (fun s V V' row hs hg hr => MidA.grown (zs := s) hs (B := W0.heap.size) (by omega) hg hr)
    (fun _ _ _ _ _ hs _ _ => hs)
    hM0
    (fun x => { tmps := #[.slice none 0 0, .func (.func 73) #[] #[.pointer (some ⟨Bs, 0, none⟩), .pointer (some ⟨Bg, 0, none⟩), .pointer (some ⟨Bk, 0, none⟩)], .pointer (some ⟨W.heap.size, 0, none⟩), undef, .slice none 0 0, .int .i64 x, .func (.func 73) #[] #[.pointer (some ⟨Bs, 0, none⟩), .pointer (some ⟨Bg, 0, none⟩), .pointer (some ⟨Bk, 0, none⟩)], .int .i64 x, undef, undef, undef, undef, undef], defers := [] }) ?assign ?body ?done ?stop
  case assign =>
    intro l x V K hK
    gi_wp2
    exact hK
  case body =>
    rintro l pre x V hM hlt
    obtain ⟨v, m1, m2, m3, m4⟩ := hM
    have hM1 := hide m1
    have hM4 := hide m4
    have hown := m2
    have hM2 := hide m2
    obtain ⟨c0, f0⟩ := row1 m1
    have hl6 : pre.length ≤ 50 := by omega
    clear m1 m2 m4
    gi_wp2_with (first | (with_reducible refine leadAny _ ?_) | (refine wpListIn_append_own _ rfl _ _ 22 rfl (W.heap.size + 1) 2 i0 (.int .i64 0) 1 8 Try.underlying22 hi0 hz0 hz1 hz2 rfl (by decide) _ _ _ rfl (hown.alloc _) ⟨V.heap.size, 0, none⟩ 1 1 [.int .i64 x] rfl rfl (cell_one_new _ _ _) (by simp [Value.oneCell']) (by unfold maxLen; omega) (by omega) (by simp; omega) ?_))
    intro v'0 w5 hown' hgrow _
    obtain ⟨av', cv', rfl⟩ := own_form hown'
    obtain ⟨v', hv'⟩ : ∃ v', v' = Value.slice av' (pre.length + 1) cv' := ⟨_, rfl⟩
    have hne : v.ownBlock ≠ some W.heap.size := fun e => by have := (hM2.out.lt _ e).1; omega
    have hbox5 : w5.heap[W.heap.size]? = some (.cells #[v] 22 (0, 0)) := (hgrow.block W.heap.size (by simp; omega) (Ne.symm hne)).trans ((Below.heap_alloc _ _ _ (by omega)).trans hM1.out)
    have HO5 : Hid (w5.ownsRow (W.heap.size + 1) 2 1 v' (pre.length + 1) (pre.map intV ++ [.int .i64 x]))   := hide (by rw [hv']; simpa using hown')
    have HG := hide hgrow
    obtain ⟨c5, f5⟩ := row1 hbox5
    have HBX := hide hbox5
    clear hown' hgrow hbox5 c0 f0 hown
    gi_wp2_with (with_reducible refine leadAny _ ?_)
    rw [← hv']
    have hb1 : Below W.heap.size V w5 := (below_alloc V (.cells #[.int .i64 x] 2)).mono (by omega) |>.trans ⟨HG.out.os, HG.out.tape, HG.out.output, HG.out.size, fun k hk => HG.out.block k (by simp; omega) (fun e => by have := (hM2.out.lt _ e.symm).1; omega)⟩
    have hb2 : Below W.heap.size V (w5.setCell ⟨W.heap.size, 0, none⟩ v') := hb1.setCell (p := ⟨W.heap.size, 0, none⟩) (Nat.le_refl _) _
    have hko : KeepsOthers V (w5.setCell ⟨W.heap.size, 0, none⟩ v') := ((KeepsOthers.alloc V (.cells #[.int .i64 x] 2)).trans (KeepsOthers.of_grownBy HG.out (own_cells (hM2.out.alloc _)))).trans (KeepsOthers.setCell _ _ _)
    have hty : ∀ (b : Nat) (cs : Array Value), V.heap[b]? = some (.cells cs 80 (0, 0)) → (w5.setCell ⟨W.heap.size, 0, none⟩ v').heap[b]? = some (.cells cs 80 (0, 0)) := fun b cs hb => by
      have n1 : b ≠ W.heap.size := fun e => by rw [e, hM1.out] at hb; cases hb
      have n2 : some b ≠ v.ownBlock := fun e => by obtain ⟨cur, hc⟩ := own_type hM2.out b _ e.symm hb; cases hc
      rw [Below.heap_setCell _ _ _ _ n1]
      exact (HG.out.block b (by have := block_lt hb; simp; omega) n2).trans ((Below.heap_alloc _ _ _ (block_lt hb)).trans hb)
    refine ⟨hko, ⟨hb2, hko.size, hty⟩, ?_⟩
    show MidA _ W.heap.size W _
    refine ⟨v', box_set1 _ HBX.out, ?_, by have := hko.size; omega, hM4.out.trans hb2⟩
    have := ownsRow_setCell_below HO5.out (a := ⟨W.heap.size, 0, none⟩) (show W.heap.size < W.heap.size + 1 by omega) v'
    simpa [intV] using this
  case done =>
    rintro D ys V hD hys hM hK
    obtain ⟨v, m1, m2, m3, m4⟩ := hM
    have hlt : W.heap.size < D := by omega
    have hK2 : V.heap[D]? = some (.deferred (some [])) := hK
    have hys' : ys = linesL Wd H n := hys
    rw [hys'] at m2
    obtain ⟨av, cv, rfl⟩ := own_form m2
    have hp : (V.putObj D (.deferred none)).heap[W.heap.size]? = some (.cells #[.slice av (linesL Wd H n).length cv] 22 (0, 0)) := (World.putObj_heap_other (by omega)).trans m1
    have HB : Hid (Below W.heap.size W (V.putObj D (.deferred none))) := hide (m4.trans (belowK_b (w := W0) (by omega) V D _ _ hD hK2 rfl rfl))
    have HOW : Hid ((V.putObj D (.deferred none)).ownsRow (W.heap.size + 1) 2 1 (.slice av (linesL Wd H n).length cv) (linesL Wd H n).length ((linesL Wd H n).map intV)) := hide (by
      refine ⟨m2.1, ?_⟩
      rcases m2.2 with h2 | ⟨g, cap, cur, hv, hg, hh, r⟩
      · exact .inl h2
      · refine .inr ⟨g, cap, cur, hv, hg, (World.putObj_heap_other (fun e => ?_)).trans hh, r⟩
        rw [e, hK2] at hh
        cases hh)
    obtain ⟨c5, f5⟩ := row1 hp
    obtain ⟨c6, f6⟩ := row1 m1
    clear m2 m4 hys hys'
    gi_wp2
    refine ⟨by simp, .inl ⟨_, _, rfl, run_takeDeferred hK2, ?_⟩⟩
    refine ⟨.slice av (linesL Wd H n).length cv, by simp [results, Try.results97, go_sem], ?_⟩
    exact ⟨av, cv, rfl, ownsRow_base HOW.out (by omega), HB.out⟩
  case stop =>
    rintro D c pre V hD _ h hK
    exact h.elim

set_option maxRecDepth 100000 in
set_option maxHeartbeats 1000000 in
theorem collect_any (Bs Bg Bk G n : Nat) (Wd H : Int) (w0 : 1 ≤ Wd) (w1 : Wd ≤ 5) (h0 : 1 ≤ H) (h1 : H ≤ 5) (hn : n ≤ 5) (W : World) (hf : LinF W Bs Bg Bk G Wd H n) :
    Calls Try.prog 75 #[.func (.func 73) #[] #[.pointer (some ⟨Bs, 0, none⟩), .pointer (some ⟨Bg, 0, none⟩), .pointer (some ⟨Bk, 0, none⟩)]] W (NewL (linesL Wd H n) W) := by
  have HC := hide (appendSeq_any Bs Bg Bk G n Wd H w0 w1 h0 h1 hn W hf)
  clear hf
  go_enter Try.func75, Try.ntmps75
  go_wp2_with fail
  refine (HC.out).mono ?_
  rintro e w1 ⟨a1, c1, rfl, ho, hb⟩
  have hfin : Hid (NewL (linesL Wd H n) W (.returned (.slice a1 (linesL Wd H n).length c1)) w1) := hide ⟨a1, c1, rfl, ho, hb⟩
  clear ho hb
  go_wp2_with fail
  go_ret
  exact hfin.out
end Go.Proofs.Ytkekanllfpdeaab
