/-
  Boards of hexagons: slices.AppendSeq and slices.Collect over the neighbours of a cell; HexNeighbours.
-/
import Derived.Test.YtogfoahejgmfgaaHo
import Derived.Test.YtogfoahejgmfgaaOw
namespace Go.Proofs.Ytogfoahejgmfgaa
open Go.RowKit Go.Shelf
attribute [local go_sem] Oper.semAt_some
set_option linter.unusedVariables false

theorem hexN_stops (m : Nat) (hm : 1 ≤ m) (Bn Bc n₀ : Nat) (n a : Int) (hn : 1 ≤ n) (hn8 : n ≤ 8) (h0 : 0 ≤ a) (h1 : a < n * n) (w : World) (hBn : w.heap[Bn]? = some (.cells #[.int .i64 n] 2 (0, 0))) (hBc : w.heap[Bc]? = some (.cells #[.int .i64 a] 2 (0, 0))) (hn₀ : n₀ ≤ w.heap.size) :
    SeqStopsK Fence.wide m Try.prog 111 #[.pointer (some ⟨Bc, 0, none⟩), .pointer (some ⟨Bn, 0, none⟩)] (fun x : Nc n a => #[Value.int .i64 x.1]) (KeepB n₀ Bn Bc)
      (fun ys => ys.map (·.1) = near n a) (fun _ => True) 6 w := fun l J Jx W hW hJ _ hY h0' =>
  hexN_in m hm l Bn Bc n₀ n a hn hn8 h0 h1 J Jx (fun s A C hs hb => hJ s A C none hs (below_grownBy hb) (fun r e => by cases e)) hY W (box_keep hBn hW) (box_keep hBc hW) (by have := hW.size; omega) h0'

theorem box_set1 {w : World} {b : Nat} {x : Value} (y : Value) {t : TypeId} (h : w.heap[b]? = some (.cells #[x] t (0, 0))) : (w.setCell ⟨b, 0, none⟩ y).heap[b]? = some (.cells #[y] t (0, 0)) := heap_setCell_same _ b 0 _ t y h

def vals {n a : Int} (l : List (Nc n a)) : List Int := l.map (fun x => x.1)
theorem vals_snoc {n a : Int} (l : List (Nc n a)) (x : Nc n a) : vals (l ++ [x]) = vals l ++ [x.1] := by simp [vals]
theorem vals_len {n a : Int} (l : List (Nc n a)) : (vals l).length = l.length := by simp [vals]
/-- Between two rounds of AppendSeq's loop: the box of the list, the list; all that was there as it was. -/
def MidA (zs : List Int) (N : Nat) (W0 W : World) : Prop :=
  ∃ v, W.heap[N]? = some (.cells #[v] 22 (0, 0)) ∧ W.ownsRow (N + 1) 2 1 v zs.length (zs.map intV) ∧ N + 1 ≤ W.heap.size ∧ Below N W0 W
theorem own_cells {w : World} {base n : Nat} {e : TypeId} {v : Value} {xs : List Value} (h : w.ownsRow base e 1 v n xs) : ∀ (j : Nat) (o : Obj), v.ownBlock = some j → w.heap[j]? = some o → o.isCells = true := by
  intro j o hj ho
  rcases h.2 with ⟨hv, _⟩ | ⟨g, cap, cur, hv, _, hh, _⟩
  · rw [hv] at hj; simp [Value.ownBlock] at hj
  · rw [hv] at hj
    simp [Value.ownBlock] at hj
    subst hj
    rw [hh] at ho
    cases ho
    rfl
theorem MidA.grown {zs : List Int} {N B : Nat} {W0 W W' : World} {row : Option Nat} (h : MidA zs N W0 W) (hB : N < B) (hg : W.grownBy W' row) (hr : ∀ r, row = some r → B ≤ r ∧ ∃ o : Obj, W.heap[r]? = some o ∧ o.isCells = false) : MidA zs N W0 W' := by
  obtain ⟨v, h1, h2, h3, h4⟩ := h
  refine ⟨v, (hg.block N (by omega) (fun e => by have := (hr N e.symm).1; omega)).trans h1, h2.kept hg ?_, by have := hg.size; omega, h4.trans ⟨hg.os, hg.tape, hg.output, hg.size, fun k hk => hg.block k (by omega) (fun e => by have := (hr k e.symm).1; omega)⟩⟩
  cases hv : v.ownBlock with
  | none => simp
  | some j =>
    refine .inr (fun e => ?_)
    obtain ⟨_, o, ho, hc⟩ := hr j e.symm
    rw [own_cells h2 j o hv ho] at hc
    cases hc

set_option maxRecDepth 100000 in
set_option maxHeartbeats 4000000 in
theorem appendSeq_any (n a : Int) (hn : 1 ≤ n) (hn8 : n ≤ 8) (h0 : 0 ≤ a) (h1 : a < n * n) (Bn Bc : Nat) (W : World) (hBn : W.heap[Bn]? = some (.cells #[.int .i64 n] 2 (0, 0))) (hBc : W.heap[Bc]? = some (.cells #[.int .i64 a] 2 (0, 0))) :
    Calls Try.prog 110 #[.slice none 0 0, .func (.func 111) #[] #[.pointer (some ⟨Bc, 0, none⟩), .pointer (some ⟨Bn, 0, none⟩)]] W (NewL (near n a) W) := by
  obtain ⟨i0, hi0, hz0, hz1, hz2⟩ := info_parts Try.info2
  refine (callsIn_wide (n := 6)).1 ?_
  refine callsIn_of_wp_marks Try.func110 rfl trivial ?_ rfl
  simp only [Try.ntmps110, List.size_toArray, List.length_cons, List.length_nil, Nat.reduceAdd, Nat.reduceSub, Array.replicate_succ, Array.replicate_zero, List.push_toArray, List.append_toArray, List.nil_append, List.cons_append]
  gi_wp2
  obtain ⟨W0, hW0⟩ : ∃ W0, W0 = W.alloc (.cells #[.slice none 0 0] 22) := ⟨_, rfl⟩
  have hs0 : W0.heap.size = W.heap.size + 1 := by rw [hW0]; simp
  have hB0 : Hid (Below W.heap.size W W0) := by rw [hW0]; exact hide (below_alloc _ _)
  have hr0 : W0.heap[W.heap.size]? = some (.cells #[.slice none 0 0] 22 (0, 0)) := by rw [hW0]; exact alloc_row _ _ _
  have hM0 : MidA [] W.heap.size W W0 := ⟨_, hr0, World.ownsRow_nil _ _ _ _, by omega, hB0.out⟩
  have hBn0 := box_keep hBn hB0.out
  have hBc0 := box_keep hBc hB0.out
  have hnl := hide (block_lt hBn)
  have hcl := hide (block_lt hBc)
  rw [← hW0]
  clear hW0 hr0 hBn hBc
  refine wpIn_rangeFunc_ownF (F := Fence.wide) rfl (by omega) (gf := 111) (lb := #[.pointer (some ⟨Bc, 0, none⟩), .pointer (some ⟨Bn, 0, none⟩)]) rfl trivial (enters_of Try.func111 (by kernel_rfl) rfl)
    (hexN_stops 5 (by omega) Bn Bc W.heap.size n a hn hn8 h0 h1 W0 hBn0 hBc0 (by omega)) KeepB.trans (keepB_b (by omega) (by have := hnl.out; omega) (by have := hcl.out; omega)) (Below.refl _ _) (fun _ => rfl)
    (fun pre V => MidA (vals pre) W.heap.size W V)
    (fun _ _ _ => False)
    (fun s V V' row hs hg hr => MidA.grown (zs := vals s) hs (B := W0.heap.size) (by omega) hg hr)
    (fun _ _ _ _ _ hs _ _ => hs)
    hM0
    (fun x => { tmps := #[.slice none 0 0, .func (.func 111) #[] #[.pointer (some ⟨Bc, 0, none⟩), .pointer (some ⟨Bn, 0, none⟩)], .pointer (some ⟨W.heap.size, 0, none⟩), undef, .slice none 0 0, .int .i64 x.1, .func (.func 111) #[] #[.pointer (some ⟨Bc, 0, none⟩), .pointer (some ⟨Bn, 0, none⟩)], .int .i64 x.1, undef, undef, undef, undef, undef], defers := [] }) ?assign ?body ?done ?stop
  case assign =>
    intro l x V K hK
    gi_wp2
    exact hK
  case body =>
    rintro l pre x V hM hlt
    obtain ⟨v, m1, m2, m3, m4⟩ := hM
    have hM1 := hide m1
    have hM4 := hide m4
    have hown := m2
    have hM2 := hide m2
    obtain ⟨c0, f0⟩ := row1 m1
    have hl6 : (vals pre).length ≤ 6 := by rw [vals_len]; omega
    have HV := hide (vals_snoc pre x)
    obtain ⟨zs, hzs⟩ : ∃ zs, zs = vals pre := ⟨_, rfl⟩
    rw [← hzs] at hl6 hown hM2 HV
    obtain ⟨z, hz⟩ : ∃ z, z = x.1 := ⟨_, rfl⟩
    rw [← hz] at HV ⊢
    clear m1 m2 m4 hz hzs
    gi_wp2_with (first | (with_reducible refine leadAny _ ?_) | (refine wpListIn_append_own _ rfl _ _ 22 rfl (W.heap.size + 1) 2 i0 (.int .i64 0) 1 8 Try.underlying22 hi0 hz0 hz1 hz2 rfl (by decide) _ _ _ rfl (hown.alloc _) ⟨V.heap.size, 0, none⟩ 1 1 [.int .i64 z] rfl rfl (cell_one_new _ _ _) (by simp [Value.oneCell']) (by unfold maxLen; omega) (by omega) (by simp; omega) ?_))
    intro v'0 w5 hown' hgrow _
    obtain ⟨av', cv', rfl⟩ := own_form hown'
    obtain ⟨v', hv'⟩ : ∃ v', v' = Value.slice av' (zs.length + 1) cv' := ⟨_, rfl⟩
    have hne : v.ownBlock ≠ some W.heap.size := fun e => by have := (hM2.out.lt _ e).1; omega
    have hbox5 : w5.heap[W.heap.size]? = some (.cells #[v] 22 (0, 0)) := (hgrow.block W.heap.size (by simp; omega) (Ne.symm hne)).trans ((Below.heap_alloc _ _ _ (by omega)).trans hM1.out)
    have HO5 : Hid (w5.ownsRow (W.heap.size + 1) 2 1 v' (zs.length + 1) (zs.map intV ++ [.int .i64 z]))   := hide (by rw [hv']; simpa using hown')
    have HG := hide hgrow
    obtain ⟨c5, f5⟩ := row1 hbox5
    have HBX := hide hbox5
    clear hown' hgrow hbox5 c0 f0 hown
    gi_wp2_with (with_reducible refine leadAny _ ?_)
    rw [← hv']
    have hb1 : Below W.heap.size V w5 := (below_alloc V (.cells #[.int .i64 z] 2)).mono (by omega) |>.trans ⟨HG.out.os, HG.out.tape, HG.out.output, HG.out.size, fun k hk => HG.out.block k (by simp; omega) (fun e => by have := (hM2.out.lt _ e.symm).1; omega)⟩
    have hb2 : Below W.heap.size V (w5.setCell ⟨W.heap.size, 0, none⟩ v') := hb1.setCell (p := ⟨W.heap.size, 0, none⟩) (Nat.le_refl _) _
    have hko : KeepsOthers V (w5.setCell ⟨W.heap.size, 0, none⟩ v') := ((KeepsOthers.alloc V (.cells #[.int .i64 z] 2)).trans (KeepsOthers.of_grownBy HG.out (own_cells (hM2.out.alloc _)))).trans (KeepsOthers.setCell _ _ _)
    refine ⟨hko, ⟨hb2, hb2.block _ hnl.out, hb2.block _ hcl.out⟩, ?_⟩
    show MidA _ W.heap.size W _
    rw [HV.out]
    refine ⟨v', box_set1 _ HBX.out, ?_, by have := hko.size; omega, hM4.out.trans hb2⟩
    have := ownsRow_setCell_below HO5.out (a := ⟨W.heap.size, 0, none⟩) (show W.heap.size < W.heap.size + 1 by omega) v'
    simpa [intV] using this
  case done =>
    rintro D ys V hD hys hM hK
    obtain ⟨v, m1, m2, m3, m4⟩ := hM
    have hlt : W.heap.size < D := by omega
    have hK2 : V.heap[D]? = some (.deferred (some [])) := hK
    have hys' : vals ys = near n a := hys
    rw [hys'] at m2
    obtain ⟨av, cv, rfl⟩ := own_form m2
    have hp : (V.putObj D (.deferred none)).heap[W.heap.size]? = some (.cells #[.slice av (near n a).length cv] 22 (0, 0)) := (World.putObj_heap_other (by omega)).trans m1
    have HB : Hid (Below W.heap.size W (V.putObj D (.deferred none))) := hide (m4.trans (belowK_b (w := W0) (by omega) V D _ _ hD hK2 rfl rfl))
    have HOW : Hid ((V.putObj D (.deferred none)).ownsRow (W.heap.size + 1) 2 1 (.slice av (near n a).length cv) (near n a).length ((near n a).map intV)) := hide (by
      refine ⟨m2.1, ?_⟩
      rcases m2.2 with h2 | ⟨g, cap, cur, hv, hg, hh, r⟩
      · exact .inl h2
      · refine .inr ⟨g, cap, cur, hv, hg, (World.putObj_heap_other (fun e => ?_)).trans hh, r⟩
        rw [e, hK2] at hh
        cases hh)
    obtain ⟨c5, f5⟩ := row1 hp
    obtain ⟨c6, f6⟩ := row1 m1
    clear m2 m4 hys hys'
    gi_wp2
    refine ⟨by simp, .inl ⟨_, _, rfl, run_takeDeferred hK2, ?_⟩⟩
    refine ⟨.slice av (near n a).length cv, by simp [results, Try.results110, go_sem], ?_⟩
    exact ⟨av, cv, rfl, ownsRow_base HOW.out (by omega), HB.out⟩
  case stop =>
    rintro D c pre V hD _ h hK
    exact h.elim

set_option maxRecDepth 100000 in
set_option maxHeartbeats 1000000 in
theorem collect_any (n a : Int) (hn : 1 ≤ n) (hn8 : n ≤ 8) (h0 : 0 ≤ a) (h1 : a < n * n) (Bn Bc : Nat) (W : World) (hBn : W.heap[Bn]? = some (.cells #[.int .i64 n] 2 (0, 0))) (hBc : W.heap[Bc]? = some (.cells #[.int .i64 a] 2 (0, 0))) :
    Calls Try.prog 88 #[.func (.func 111) #[] #[.pointer (some ⟨Bc, 0, none⟩), .pointer (some ⟨Bn, 0, none⟩)]] W (NewL (near n a) W) := by
  have HC := hide (appendSeq_any n a hn hn8 h0 h1 Bn Bc W hBn hBc)
  clear hBn hBc
  go_enter Try.func88, Try.ntmps88
  go_wp2_with fail
  refine (HC.out).mono ?_
  rintro e w1 ⟨a1, c1, rfl, ho, hb⟩
  have hfin : Hid (NewL (near n a) W (.returned (.slice a1 (near n a).length c1)) w1) := hide ⟨a1, c1, rfl, ho, hb⟩
  clear ho hb
  go_wp2_with fail
  go_ret
  exact hfin.out
/-- The two boxes that hexNeighbours lays. -/
theorem hexN_boxes (n a : Int) (W : World) : ((W.alloc (.cells #[.int .i64 n] 2)).alloc (.cells #[.int .i64 a] 2)).heap[W.heap.size]? = some (.cells #[.int .i64 n] 2 (0, 0)) ∧ ((W.alloc (.cells #[.int .i64 n] 2)).alloc (.cells #[.int .i64 a] 2)).heap[W.heap.size + 1]? = some (.cells #[.int .i64 a] 2 (0, 0)) ∧ Below W.heap.size W ((W.alloc (.cells #[.int .i64 n] 2)).alloc (.cells #[.int .i64 a] 2)) := by
  refine ⟨?_, ?_, (below_alloc _ _).alloc (by simp) _⟩
  · rw [Below.heap_alloc _ _ _ (by simp)]; exact alloc_row _ _ _
  · have := alloc_row (W.alloc (.cells #[.int .i64 n] 2)) #[.int .i64 a] 2
    simpa using this

/-! ### HexNeighbours -/
def hxn (n a : Int) : List Int × Int := if inn n 1 8 && inn a 0 (n * n - 1) then (near n a, 0) else ([], 2)
theorem hxn_le (n a : Int) : (hxn n a).1.length ≤ 1048576 := by
  unfold hxn
  split
  · have := near_len n a; show (near n a).length ≤ _; omega
  · simp
end Go.Proofs.Ytogfoahejgmfgaa
