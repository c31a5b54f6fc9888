/-
  Boards of hexagons: the need, the program's text.
-/
import Derived.Test.YtogfoahejgmfgaaNs
import Derived.Test.YtogfoahejgmfgaaMx
import Derived.Test.YtogfoahejgmfgaaRe
import Derived.Laws.EntriesVeiled
import Derived.RangeFuncLeaves
import Derived.Deep.RegionWith
namespace Go.Proofs.Ytogfoahejgmfgaa
open Go.RowKit Go.Shelf
attribute [local go_sem] Oper.semAt_some
set_option linter.unusedVariables false

theorem mass_rep (k : Nat) : mass (List.replicate k none) = 100 * k := by
  induction k with
  | zero => rfl
  | succ k ih => rw [List.replicate_succ, mass, ih]; omega
theorem tb_rep (k : Nat) (c : Int) : tbAt (List.replicate k none) c = none := by
  unfold tbAt
  rw [List.getD_eq_getElem?_getD, List.getElem?_replicate]
  split <;> rfl
theorem costH_le (cs : List Int) (c : Int) : costH cs c ≤ 1 := by unfold costH; split <;> omega
theorem wp_nothrow {P : Program} {c : Code} {K : Act → World → Prop} {Q : Exit → Act → World → Prop} {a : Act} {w : World} (h : c.wp P (Exit.then K (fun _ _ _ => False)) a w) : c.wp P (Exit.then K Q) a w :=
  wp_mono h (fun e a w q => by cases e <;> first | exact q | exact q.elim)
theorem rows_last {N g : Nat} {M : Nat} (hM : M + 1 = N) {W : World} {e : Ending} {W' : World} (h : NewRows g 0 N W e W') : ∃ gr cr, e = .returned (.slice (some ⟨gr, 0, none⟩) N cr) ∧ W'.cell? ⟨gr, M, none⟩ = some (.slice (some ⟨g, N * M, none⟩) N N) ∧ Below W.heap.size W W' := by
  obtain ⟨a, c, rfl, ho, hb⟩ := h
  rcases ho.2 with ⟨_, h0⟩ | ⟨gr, cap, cur, hv, _, hh, h1, h2, h3, h4⟩
  · omega
  · obtain ⟨ha, hc⟩ : a = some ⟨gr, 0, none⟩ ∧ c = cap := by simpa using hv
    subst ha
    refine ⟨gr, c, rfl, ?_, hb⟩
    rw [cell_of_row _ _ M _ _ (0, 0) hh]
    have h5 : (cur.toList.take (N * 1))[M]? = some (.slice (some ⟨g, 0 + N * M, none⟩) N N) := by rw [h4]; exact rowsOf_get (by omega)
    rw [List.getElem?_take_of_lt (by omega), Nat.zero_add] at h5
    simpa using h5
/-- What the first loop has done. -/
def Beg (N : Nat) (cs : List Int) (t : Tb) (k : Nat) : Prop := ∀ j : Nat, j < k → hexAt cs (j : Int) ≠ 2 → ∃ x, tbAt t (j : Int) = some x ∧ x ≤ costH cs (j : Int)
set_option maxRecDepth 100000 in
set_option maxHeartbeats 4000000 in
theorem needOne_any (N : Nat) (b off c : Nat) (cs : List Int) (hN1 : 1 ≤ N) (hN8 : N ≤ 8) (hlen : cs.length = N * N) (hz : ∀ z ∈ cs, 0 ≤ z ∧ z ≤ 2) (W : World) (ha : IntsAt W (some ⟨b, off, none⟩) cs) :
    Calls Try.prog 84 #[.agg #[.int .i64 N, .slice (some ⟨b, off, none⟩) cs.length c]] W (RetB (.int .i64 (encI (needO N cs 1))) W) := by
  have hsq := sqN8 hN8
  obtain ⟨L, hL⟩ : ∃ L, L = cs.length := ⟨_, rfl⟩
  rw [← hL] at hlen ⊢
  have hL64 : L ≤ 64 := by omega
  have hL1 : 1 ≤ L := by rw [hlen]; exact Nat.mul_le_mul hN1 hN1
  have hmul : (N : Int) * (N : Int) = (L : Int) := by rw [hlen]; push_cast; rfl
  have HMUL := hide hmul
  have HLN := hide hlen
  have HLC := hide hL
  have hn1 : (1 : Int) ≤ (N : Int) := by omega
  have HN1 := hide hn1
  obtain ⟨rb, hrb⟩ : ∃ rb, rb = encI (needO N cs 1) := ⟨_, rfl⟩
  rw [← hrb]
  have HRB := hide hrb
  have HA := hide ha
  have hbW : Hid (b < W.heap.size) := hide (by
    obtain ⟨b', o', he, hlt⟩ := CellsAt.lt ha (by
      intro e
      have h2 := congrArg List.length e
      simp at h2
      rw [hL, h2] at hL1
      simp at hL1)
    cases he
    exact hlt)
  have HCS : Hid (∀ V : World, Below W.heap.size W V → ∀ i, i < L → V.cell? ⟨b, off + i, none⟩ = some (.int .i64 (hexAt cs (i : Int)))) := hide (fun V hV i hi => by
    obtain ⟨b', off', he, hcc⟩ := HA.out.at (by rw [← HLC.out]; omega)
    cases he
    exact (hV.cell (p := ⟨b, off + i, none⟩) hbW.out).trans (hcc i (by rw [← HLC.out]; exact hi)))
  have HZ : Hid (∀ i : Nat, i < L → 0 ≤ hexAt cs (i : Int) ∧ hexAt cs (i : Int) ≤ 2) := hide (fun i hi => hz _ (hexAt_mem (by simpa [← hL] using hi)))
  obtain ⟨W0, hW0⟩ : ∃ W0, W0 = (W.alloc (.cells #[.int .i64 N, .slice (some ⟨b, off, none⟩) L c] 28)).alloc (.cells #[.int .i64 9223372036854775807] 2) := ⟨_, rfl⟩
  have hB0 : Hid (Below W.heap.size W W0) := by rw [hW0]; exact hide ((below_alloc _ _).alloc (by simp) _)
  have hx0 : W0.heap[W.heap.size]? = some (.cells #[.int .i64 N, .slice (some ⟨b, off, none⟩) L c] 28 (0, 0)) := by rw [hW0, Below.heap_alloc _ _ _ (by simp)]; exact alloc_row _ _ _
  have hy0 : W0.cell? ⟨W.heap.size + 1, 0, none⟩ = some (.int .i64 9223372036854775807) := by
    have := alloc_row (W.alloc (.cells #[.int .i64 N, .slice (some ⟨b, off, none⟩) L c] 28)) #[.int .i64 9223372036854775807] 2
    rw [hW0]
    exact (row1 (by simpa using this)).1
  have hs0 : Hid (W0.heap.size = W.heap.size + 2) := by rw [hW0]; exact hide (by simp)
  have HX0 := hide hx0
  have HY0 := hide hy0
  have cx0 : (W.alloc (.cells #[.int .i64 N, .slice (some ⟨b, off, none⟩) L c] 28)).cell? ⟨W.heap.size, 1, none⟩ = some (.slice (some ⟨b, off, none⟩) L c) := (row2' (alloc_row _ _ _)).2.1
  obtain ⟨c0, c1, _, _⟩ := row2' hx0
  clear hsq hlen hL hrb ha hz hn1 hx0 hy0
  refine (callsIn_wide (n := 6)).1 ?_
  refine callsIn_of_wp_marks Try.func84 rfl trivial (wpIn_wide.2 ?_) rfl
  simp only [Try.ntmps84, List.size_toArray, List.length_cons, List.length_nil, Nat.reduceAdd, Nat.reduceSub, Array.replicate_succ, Array.replicate_zero, List.push_toArray, List.append_toArray, List.nil_append, List.cons_append]
  go_wp2_with fail
  rw [← hW0]
  clear hW0
  (try go_wp2_with fail)
  refine (repeat_any (W.heap.size + 1) L hL1 hL64 _ HY0.out).mono ?_
  rintro e w1 ⟨g, rfl, hg0, hg, hb1⟩
  obtain ⟨W1, hW1⟩ : ∃ W1, W1 = ((w1.alloc (.cells #[.slice (some ⟨g, 0, none⟩) L L] 22)).alloc (.cells #[.slice none 0 0] 22)).alloc (.cells #[.func (.func 108) #[] #[.pointer (some ⟨W.heap.size, 0, none⟩), .pointer (some ⟨w1.heap.size, 0, none⟩), .pointer (some ⟨w1.heap.size + 1, 0, none⟩)]] 87) := ⟨_, rfl⟩
  have hB1 : Hid (Below w1.heap.size w1 W1) := by rw [hW1]; exact hide (((below_alloc _ _).alloc (by simp) _).alloc (by simp; omega) _)
  have hg1 : Hid (g < w1.heap.size) := hide (rowIs_lt hg)
  have hs1 : W0.heap.size ≤ w1.heap.size := hb1.size
  have hBW1 : Hid (Below W.heap.size W W1) := hide (Below.trans' hB0.out (Below.trans' hb1 hB1.out))
  have hx1 : Hid (W1.heap[W.heap.size]? = some (.cells #[.int .i64 N, .slice (some ⟨b, off, none⟩) L c] 28 (0, 0))) := hide (box_keep (box_keep HX0.out hb1) hB1.out)
  have hn1' : Hid (W1.heap[w1.heap.size]? = some (.cells #[.slice (some ⟨g, 0, none⟩) L L] 22 (0, 0))) := by
    rw [hW1, Below.heap_alloc _ _ _ (by simp; omega), Below.heap_alloc _ _ _ (by simp)]
    exact hide (alloc_row _ _ _)
  have ho1 : Hid (W1.heap[w1.heap.size + 1]? = some (.cells #[.slice none 0 0] 22 (0, 0))) := by
    rw [hW1, Below.heap_alloc _ _ _ (by simp)]
    have := alloc_row (w1.alloc (.cells #[.slice (some ⟨g, 0, none⟩) L L] 22)) #[.slice none 0 0] 22
    exact hide (by simpa using this)
  have hf1 : Hid (W1.heap[w1.heap.size + 1 + 1]? = some (.cells #[.func (.func 108) #[] #[.pointer (some ⟨W.heap.size, 0, none⟩), .pointer (some ⟨w1.heap.size, 0, none⟩), .pointer (some ⟨w1.heap.size + 1, 0, none⟩)]] 87 (0, 0))) := by
    have := alloc_row ((w1.alloc (.cells #[.slice (some ⟨g, 0, none⟩) L L] 22)).alloc (.cells #[.slice none 0 0] 22)) #[.func (.func 108) #[] #[.pointer (some ⟨W.heap.size, 0, none⟩), .pointer (some ⟨w1.heap.size, 0, none⟩), .pointer (some ⟨w1.heap.size + 1, 0, none⟩)]] 87
    rw [hW1]
    exact hide (by simpa using this)
  have hgr : Hid (W1.rowIs g 2 L (nedV (List.replicate L none))) := hide ((rowIs_keep hg hB1.out).congr (fun i _ => by unfold nedV; rw [tb_rep]; rfl))
  have hsW : Hid (W1.heap.size = w1.heap.size + 3) := by rw [hW1]; exact hide (by simp)
  have e0 : W1.cell? ⟨W.heap.size, 0, none⟩ = some (.int .i64 N) := (row2' hx1.out).1
  rw [hW1] at e0
  have hs0' := hs0.out
  go_wp2_with fail
  rw [← hW1]
  obtain ⟨bf, hbf⟩ : ∃ bf, bf = w1.heap.size + 1 + 1 := ⟨_, rfl⟩
  rw [← hbf] at hf1 ⊢
  obtain ⟨bo, hbo⟩ : ∃ bo, bo = w1.heap.size + 1 := ⟨_, rfl⟩
  rw [← hbo] at hf1 ho1 ⊢
  obtain ⟨bn, hbn⟩ : ∃ bn, bn = w1.heap.size := ⟨_, rfl⟩
  rw [← hbn] at hf1 hn1' ⊢
  obtain ⟨bx, hbx⟩ : ∃ bx, bx = W.heap.size := ⟨_, rfl⟩
  have hpl : Hid (NPl W.heap.size bx bn bo g) := hide (by have := hg1.out; exact ⟨by omega, by omega, by omega, by omega, by omega, by omega, by omega, by omega, by omega⟩)
  have hSS : Hid (SS W.heap.size bx bn bo g L N b off c (fun k => k = bf) cs (List.replicate L none) [] (.slice none 0 0) W W1) := hide ⟨⟨by rw [hbx]; exact hx1.out, HCS.out _ hBW1.out, hn1'.out, hgr.out, ho1.out, QAt.nil _ _, fun k hk => by simp [Value.ownBlock] at hk, fun k hk => by simp [Value.ownBlock] at hk⟩, hBW1.out, fun k hk => by simp [Value.ownBlock] at hk, fun k hk => by have := hg1.out; have := hsW.out; subst hk; exact ⟨by omega, by omega, by omega⟩, hBW1.out.size⟩
  have hord : Hid (bx < bf ∧ bn < bf ∧ bo < bf ∧ g < bf ∧ bf + 1 = W1.heap.size) := hide (by have := hg1.out; have := hsW.out; omega)
  obtain ⟨fv, hfv⟩ : ∃ fv : Value, fv = .func (.func 108) #[] #[.pointer (some ⟨bx, 0, none⟩), .pointer (some ⟨bn, 0, none⟩), .pointer (some ⟨bo, 0, none⟩)] := ⟨_, rfl⟩
  rw [← hbx, ← hfv] at hf1
  rw [← hbx]
  have hRq : Hid (Rq N cs (List.replicate L none) []) := hide ⟨Tab.nil HMUL.out.symm, fun c hc => by simp at hc⟩
  have hFr : Hid (Fresh (List.replicate L none) []) := hide (fun b _ _ => tb_rep _ _)
  have hBg : Hid (Beg N cs (List.replicate L none) 0) := hide (fun j hj => by omega)
  have hm00 : W.heap.size ≤ bx := by omega
  have HM00 := hide hm00
  have HBXE := hide hbx
  have hbm : b < W.heap.size := hbW.out
  have hord1 : Hid (bf + 1 ≤ W1.heap.size) := hide (by have := hord.out; omega)
  clear hbx hm00 hW1 hB1 hg1 hs1 hBW1 hx1 hn1' ho1 hgr hsW e0 hs0' hbf hbo hbn hg hg0 hb1 c0 c1 cx0 HX0 HY0 hs0 hB0
  go_loopw [17] (fun i wr => ∃ (k : Nat) (t : Tb) (Q : List Int) (v : Value), k ≤ N ∧ i = .int .i64 k ∧ Hid (SS W.heap.size bx bn bo g L N b off c (fun k => k = bf) cs t Q v W wr ∧ wr.heap[bf]? = some (.cells #[fv] 87 (0, 0))) ∧ Hid (Rq N cs t Q ∧ Fresh t Q ∧ Beg N cs t k ∧ mass t * 2 + Q.length ≤ 20000)) (fun i _ => N - (intOf i).toNat)
  case atStart => exact ⟨0, _, _, _, Nat.zero_le _, rfl, hide ⟨hSS.out, hf1.out⟩, hide ⟨hRq.out, hFr.out, hBg.out, by rw [mass_rep]; simp; omega⟩⟩
  case round =>
    clear hSS hf1 hRq hFr hBg
    obtain ⟨k, t, Q, v, hk, rfl, hS, hR⟩ := hrel
    by_cases hlt : k < N
    · have hkL : k < L := by rw [HLN.out]; exact Nat.lt_of_lt_of_le hlt (Nat.le_mul_of_pos_right N hN1)
      have hkn : (k : Int) < (N : Int) * N := by rw [HMUL.out]; omega
      obtain ⟨cf, _⟩ := row1 hS.out.2
      rw [hfv] at cf
      have hq2 : Q.length ≤ 100000 := by have := hR.out.2.2.2; omega
      have htl : t.length = L := by have := hR.out.1.tab.len; rw [HMUL.out] at this; omega
      have hreach := reach_any hpl.out hbm k 0 hkL hL64 (by omega) (HZ.out k hkL).1 (HZ.out k hkL).2 hq2 htl wr hS.out.1.sz hS.out.1.ns
      rw [Nat.zero_add] at hreach
      have HRE := hide hreach
      have hfH : fH cs 1 (k : Int) = if hexAt cs (k : Int) = 2 then none else some (costH cs (k : Int)) := fH_one (HZ.out k hkL).1 (HZ.out k hkL).2
      have hst := rch_step (n := (N : Int)) (k := costH cs (k : Int)) HN1.out (by omega) hR.out.1 (c := (k : Int)) (by omega) hkn (HZ.out k hkL).1 (HZ.out k hkL).2 (fun h2 => .beg (by omega) hkn ((beg_row HN1.out (by omega) hkn).2 (by omega)) (by rw [hfH, if_neg h2])) (Nat.le_trans (costH_le cs (k : Int)) (by omega))
      have HST := hide hst
      clear hreach hst hfH htl hq2
      go_wp2_with fail
      refine (HRE.out).mono ?_
      rintro e w2 ⟨rfl, hre⟩
      obtain ⟨v', hS', hF', _⟩ := hS.out.1.reach hpl.out hre
      have hS2 := hide (And.intro hS' (hF'.row hS.out.2 (fun h => h.1 rfl)))
      have hR2 : Hid (Rq N cs (rchT cs t (k : Int) (costH cs (k : Int))) (rchQ cs t Q (k : Int) (costH cs (k : Int))) ∧ Fresh (rchT cs t (k : Int) (costH cs (k : Int))) (rchQ cs t Q (k : Int) (costH cs (k : Int))) ∧ Beg N cs (rchT cs t (k : Int) (costH cs (k : Int))) (k + 1) ∧ mass (rchT cs t (k : Int) (costH cs (k : Int))) * 2 + (rchQ cs t Q (k : Int) (costH cs (k : Int))).length ≤ 20000) := hide (by
        obtain ⟨s1, s2, s3, s4, s5⟩ := HST.out
        refine ⟨s1, hR.out.2.1.step s5, fun j hj h2 => ?_, by have := hR.out.2.2.2; omega⟩
        by_cases e : j = k
        · subst e; exact s4 h2
        · obtain ⟨x, hx, hxl⟩ := hR.out.2.2.1 j (by omega) h2
          obtain ⟨y, hy, hyl⟩ := s2 _ x (by omega) hx
          exact ⟨y, hy, by omega⟩)
      clear hS' hF' hre HRE HST cf hS hR
      go_wp2_with fail
      go_roundw
      case rel => exact ⟨k + 1, _, _, _, by omega, by go_num, hS2, hR2⟩
      case measure => simp [intOf]; omega
    · obtain rfl : N = k := by omega
      have hm2 : Hid (mass t * 2 + Q.length ≤ 20000) := hide hR.out.2.2.2
      have hclo : Hid (ClO N cs t Q) := hide hR.out.2.1.clo
      have hSSx : Hid (SS W.heap.size bx bn bo g L N b off c (fun k => k = bf ∨ k ∈ ([] : List Nat)) cs t Q v W wr ∧ wr.heap[bf]? = some (.cells #[fv] 87 (0, 0))) := hide ⟨hS.out.1.weaken (fun k hk => by simpa using hk), hS.out.2⟩
      have hRx : Hid (Rq N cs t Q ∧ Beg N cs t N) := hide ⟨hR.out.1, hR.out.2.2.1⟩
      clear hS hR
      go_wp2_with fail
      refine wp_loop_ghost_k (fun gk a w => ∃ (u7 u8 u24 u25 u26 u27 u28 u29 u30 u31 u32 u33 u34 u35 u36 u37 u38 u39 u40 u41 u42 u43 : Value) (ds : List Nat) (t : Tb) (Q : List Int) (v : Value), a = { tmps := #[.agg #[.int .i64 N, .slice (some ⟨b, off, none⟩) L c], .pointer (some ⟨bx, 0, none⟩), .int .i64 0, .pointer (some ⟨bn, 0, none⟩), .pointer (some ⟨bo, 0, none⟩), .pointer (some ⟨bf, 0, none⟩), u6, u7, u8, .slice (some ⟨bx + 1, 0, none⟩) 1 1, .pointer (some ⟨bx, 1, none⟩), .slice (some ⟨b, off, none⟩) L c, .int .i64 L, .slice (some ⟨g, 0, none⟩) L L, .func (.func 108) #[] #[.pointer (some ⟨bx, 0, none⟩), .pointer (some ⟨bn, 0, none⟩), .pointer (some ⟨bo, 0, none⟩)], .pointer (some ⟨bx, 0, none⟩), .int .i64 N, .int .i64 N, .bool false, u19, u20, u21, u22, u23, u24, u25, u26, u27, u28, u29, u30, u31, u32, u33, u34, u35, u36, u37, u38, u39, u40, u41, u42, u43, undef, undef, undef, undef, undef, undef, undef, undef, undef, undef], defers := ds.map mkD } ∧ Hid (SS W.heap.size bx bn bo g L N b off c (fun k => k = bf ∨ k ∈ ds) cs t Q v W w ∧ w.heap[bf]? = some (.cells #[fv] 87 (0, 0))) ∧ Hid (ds.Nodup ∧ ∀ D ∈ ds, W.heap.size ≤ D ∧ w.heap[D]? = some (.deferred (some []))) ∧ Hid (Rq N cs t Q ∧ Beg N cs t N) ∧ Hid (ClO N cs t Q) ∧ mass t * 2 + Q.length ≤ gk ∧ gk ≤ 20000) 20000 ?_ ?_
      · exact ⟨_, _, _, _, _, _, _, _, _, _, _, _, _, _, _, _, _, _, _, _, _, _, [], _, _, _, rfl, hSSx, hide ⟨List.nodup_nil, fun D hD => by simp at hD⟩, hRx, hclo, hm2.out, Nat.le_refl _⟩
      clear hm2 hclo hSSx hRx
      rintro gk a wr ⟨u7, u8, u24, u25, u26, u27, u28, u29, u30, u31, u32, u33, u34, u35, u36, u37, u38, u39, u40, u41, u42, u43, ds, t, Q, v, rfl, hS, hD, hR, hC, hG, hG2⟩ J K hJ hK
      have hG20 := hide hG2
      clear hG2
      have hK' := hide (And.intro hJ hK)
      obtain ⟨co, fo⟩ := row1 hS.out.1.ns.ho
      cases Q with
      | nil =>
        obtain ⟨aq, cq, hvq, hq1, hq2, _⟩ := hS.out.1.ns.q
        subst hvq
        obtain ⟨M, hMN⟩ : ∃ M, M + 1 = N := ⟨N - 1, by omega⟩
        have HMN := hide hMN
        have hM1 : (N : Int) - 1 = (M : Int) := by omega
        have hMlt : M < N := by omega
        have hMlt2 : (M : Int) < (N : Int) := by omega
        have hwM : IntKind.i64.wrap (M : Int) = (M : Int) := by rw [IntKind.wrap_i64]; omega
        have c0 : wr.cell? ⟨bx, 0, none⟩ = some (.int .i64 N) := (row2' hS.out.1.ns.hx).1
        have cn : wr.cell? ⟨bn, 0, none⟩ = some (.slice (some ⟨g, 0, none⟩) L L) := (row1 hS.out.1.ns.hn).1
        have HR1 : Hid (∀ V : World, Below wr.heap.size wr V → Calls Try.prog 105 #[.int .i64 N, .slice (some ⟨g, 0, none⟩) L L] V (fun e W' => ∃ gr cr, e = .returned (.slice (some ⟨gr, 0, none⟩) N cr) ∧ W'.cell? ⟨gr, M, none⟩ = some (.slice (some ⟨g, N * M, none⟩) N N) ∧ Below V.heap.size V W')) := hide (fun V _ => (hexRows_any N g 0 L L hN1 hN8 HLN.out (Nat.le_refl _) V).mono (fun e W' h => rows_last HMN.out h))
        have hlast : Hid (IntsAt wr (some ⟨g, N * M, none⟩) ((lastR N N).map fun c => encI (tbAt t c))) := hide (fun hne => ⟨g, N * M, rfl, fun i hi => by
          have hi' : i < N := by simpa [lastR] using hi
          have hiL : N * M + i < L := by
            have e1 : N * (M + 1) = N * M + N := Nat.mul_succ N M
            rw [HMN.out] at e1
            rw [HLN.out]; omega
          rw [(rowIs_cell hS.out.1.ns.hg hiL).1]
          have e2 : ((N * M + i : Nat) : Int) = (N : Int) * ((N : Int) - 1) + (i : Int) := by rw [hM1]; push_cast; rfl
          simp only [nedV, lastR, List.map_map, List.getElem?_map, List.getElem?_range hi', Option.map_some, Function.comp_apply, intV]
          rw [e2]⟩)
        have hll : ((lastR N N).map fun c => encI (tbAt t c)).length = N := by simp [lastR]
        have hval : Hid (mnL ((lastR N N).map fun c => encI (tbAt t c)) = rb) := hide (by
          rw [HRB.out]
          refine need_enc hN1 hN8 hR.out.1.tab (still_of hC.out (fun c i c0 c1 hb hf => ?_))
          have hcn : c < N := (beg_row HN1.out c0 c1).1 hb
          obtain ⟨x, rfl⟩ := Int.eq_ofNat_of_zero_le c0
          have hxL : x < L := by rw [HMUL.out] at c1; omega
          rw [fH_one (HZ.out x hxL).1 (HZ.out x hxL).2] at hf
          split at hf
          · cases hf
          · rename_i h2
            cases hf
            exact hR.out.2 x (by omega) h2)
        have HR2 : Hid (∀ (V : World), Below wr.heap.size wr V → Calls Try.prog 109 #[.slice (some ⟨g, N * M, none⟩) N N] V (RetB (.int .i64 rb) V)) := hide (fun V hV => by
          have h := min_any (some ⟨g, N * M, none⟩) N ((lastR N N).map fun c => encI (tbAt t c)) V (hlast.out.keep hV) (by rw [hll]; omega) (by rw [hll]; omega)
          rw [hll, hval.out] at h
          exact h)
        have hbel : Below wr.heap.size wr wr := Below.refl _ _
        have HOLD := hide hS.out.1.old
        have HSZ := hide hS.out.1.sz
        clear hJ hK hlast hll hval hR hC hMN hq1 hq2
        go_wp2_with fail
        refine wp_nothrow ?_
        go_region_with (first | (go_at_call 105; (with_reducible refine (HR1.out _ (by (with_reducible (repeat (first | exact hbel | refine Below.drew ?_))))).mono ?_); rintro e w2 ⟨gr, cr, rfl, hcr, hb2⟩; (have hbn2 : Below wr.heap.size wr w2 := by (refine Below.trans' ?_ hb2; (with_reducible (repeat (first | exact hbel | refine Below.drew ?_))))); (have c0' := cell_keep hbn2 c0)) | (go_at_call 109; (with_reducible refine (HR2.out _ (by (with_reducible (repeat (first | exact hbn2 | refine Below.drew ?_))))).mono ?_); rintro e w3 ⟨rfl, hb3⟩; (have hbn3 := Below.trans' hbn2 hb3)))
        all_goals
          go_wp2_with fail
          refine leaves_marks (m := W.heap.size) ds _ _ hD.out.1 (fun D hDD => ⟨(hD.out.2 D hDD).1, box_keep (hD.out.2 D hDD).2 (by (with_reducible (repeat (first | exact hbn3 | refine Below.drew ?_))))⟩) (Below.refl _ _) (fun w' hb' => ⟨.int .i64 rb, by simp [results, Try.results84, go_sem], rfl, ?_⟩)
          exact HOLD.out.trans (Below.trans (Below.mono (by (with_reducible (repeat (first | exact hbn3 | refine Below.drew ?_)))) HSZ.out) hb')
      | cons y r =>
        obtain ⟨gq, offq, cq, hvq, hql, hqb, hqlt, hqc⟩ := hS.out.1.ns.q.lt (by simp)
        obtain ⟨n, hn⟩ : ∃ n, n = r.length := ⟨_, rfl⟩
        have hlen : (y :: r).length = n + 1 := by simp [hn]
        rw [hlen] at hvq hql
        subst hvq
        obtain ⟨y0, y1, hyk⟩ := hR.out.1.q y List.mem_cons_self
        obtain ⟨Y, rfl⟩ := Int.eq_ofNat_of_zero_le y0
        have hYL : Y < L := by rw [HMUL.out] at y1; omega
        have cy := hqc 0 _ rfl
        rw [Nat.add_zero] at cy
        have hba : Below wr.heap.size wr (wr.alloc (.cells #[.int .i64 (Y : Int)] 2)) := below_alloc _ _
        have hoa := box_keep hS.out.1.ns.ho hba
        obtain ⟨coa, foa⟩ := row1 hoa
        have HN := hide hn
        clear hJ hK y0 hn hlen hqc hqb
        by_cases hc1 : cq = 1
        · subst hc1
          obtain rfl : n = 0 := by omega
          have hQ2 : Hid (QAt (wr.alloc (.cells #[.int .i64 (Y : Int)] 2)) W.heap.size (.slice (some ⟨gq, offq, none⟩) 0 0) r) := hide (by
            have h := hS.out.1.ns.q.block (w' := wr.alloc (.cells #[.int .i64 (Y : Int)] 2)) (fun k hk => Below.heap_alloc _ _ _ (hS.out.1.ns.lt hk))
            have h2 := QAt.tail (by rw [show (((Y : Int) :: r).length) = 1 from by simp [← HN.out]]; exact h)
            rw [← HN.out] at h2; exact h2.2 rfl)
          have hSa := hS.out.1.keep hbm hba
          have hSb := hSa.pop hpl.out hbm (by
            have h1 := block_lt hS.out.1.ns.ho
            have h2 := hord.out
            rintro ((h | h) | h)
            · omega
            · have := (hD.out.2 bo h).2; rw [hS.out.1.ns.ho] at this; cases this
            · omega) hQ2.out rfl
          obtain ⟨wb, hwb⟩ : ∃ wb, wb = (wr.alloc (.cells #[.int .i64 (Y : Int)] 2)).setCell ⟨bo, 0, none⟩ (.slice (some ⟨gq, offq, none⟩) 0 0) := ⟨_, rfl⟩
          rw [← hwb] at hSb
          have hsb : Hid (wb.heap.size = wr.heap.size + 1) := by rw [hwb]; exact hide (by simp [World.setCell])
          have h7 : Hid (wb.heap[wr.heap.size]? = some (.cells #[.int .i64 (Y : Int)] 2 (0, 0))) := by
            rw [hwb, heap_setCell_other _ _ _ _ (show wr.heap.size ≠ bo from by have := block_lt hS.out.1.ns.ho; omega)]
            exact hide (alloc_row _ _ _)
          have hold : Hid (∀ k, k < wr.heap.size → k ≠ bo → wb.heap[k]? = wr.heap[k]?) := hide (fun k hk hkb => by
            rw [hwb, heap_setCell_other _ _ _ _ (show k ≠ bo from hkb), Below.heap_alloc _ _ _ hk])
          have cxb : wb.cell? ⟨bx, 0, none⟩ = some (.int .i64 N) := (row2' hSb.ns.hx).1
          have c7b : wb.cell? ⟨wr.heap.size, 0, none⟩ = some (.int .i64 (Y : Int)) := (row1 h7.out).1
          have HSB := hide hSb
          have HWB := hide hwb
          rw [hwb] at cxb c7b
          clear hSa hSb hQ2 hba hoa
          go_wp2_with fail
          rw [← HWB.out]
          refine (hexN_any N Y _).mono ?_
          rintro e w2 ⟨rfl, hw2⟩
          obtain ⟨hBn, hBc, hb2⟩ := hexN_boxes (N : Int) (Y : Int) wb
          have hs2 : Hid (w2.heap.size = wr.heap.size + 3) := by rw [← hw2]; exact hide (by simp [hsb.out])
          rw [hw2, hsb.out] at hBn hBc
          rw [hw2] at hb2
          rw [hsb.out]
          obtain ⟨b7, hb7⟩ : ∃ b7, b7 = wr.heap.size := ⟨_, rfl⟩
          rw [← hb7] at hBn hBc ⊢
          have hB7 := hide hb7
          have h72 : Hid (w2.heap[b7]? = some (.cells #[.int .i64 (Y : Int)] 2 (0, 0))) := hide (by rw [hb7]; exact box_keep h7.out hb2)
          have hlts : Hid (bx < b7 ∧ bn < b7 ∧ bo < b7 ∧ g < b7 ∧ bf < b7 ∧ ∀ D ∈ ds, D < b7) := hide (by
            have h1 := block_lt hS.out.1.ns.ho
            have h2 := block_lt hS.out.1.ns.hx
            have h3 := block_lt hS.out.1.ns.hn
            have h4 := rowIs_lt hS.out.1.ns.hg
            have h5 := block_lt hS.out.2
            exact ⟨by omega, by omega, by omega, by omega, by omega, fun D hDD => by have := block_lt (hD.out.2 D hDD).2; omega⟩)
          have hold2 : Hid (∀ k, k < b7 → k ≠ bo → w2.heap[k]? = wr.heap[k]?) := hide (fun k hk hkb => (hb2.block k (by rw [hsb.out]; omega)).trans (hold.out k (by omega) hkb))
          have hSS2 : Hid (SS W.heap.size bx bn bo g L N b off c (fun k => (k = bf ∨ k ∈ ds) ∨ (b7 ≤ k ∧ k < w2.heap.size)) cs t r (.slice (some ⟨gq, offq, none⟩) 0 0) W w2) := hide ((HSB.out.keep hbm hb2).weaken (fun k hk => by
            rcases hk with hk | hk
            · exact .inl (.inl hk)
            · by_cases e : k < wb.heap.size
              · refine .inl (.inr ⟨by omega, ?_⟩)
                simp; rw [hsb.out] at e; omega
              · exact .inr ⟨by omega, hk.2⟩))
          have hClo : Hid (Clo N cs t r (Y : Int) []) := hide (clo_beg hC.out)
          obtain ⟨jy, hjy⟩ := hyk
          have hRr : Hid (Rq N cs t r) := hide ⟨hR.out.1.tab, fun z hz => hR.out.1.q z (List.mem_cons_of_mem _ hz)⟩
          have hjyy := hide hjy
          have hmeas : Hid (mass t * 2 + r.length + 1 ≤ gk) := hide (by have := hG; simp only [List.length_cons] at this; omega)
          have hml : Hid (W.heap.size ≤ w2.heap.size) := hide hSS2.out.sz
          have hY0 : (0 : Int) ≤ (Y : Int) := by omega
          clear hw2 hwb cxb c7b hjy HSB HWB h7 hold coa foa co fo cy hb7
          (try go_wp2_with fail)
          refine (wpIn_wide (n := 6)).1 ?_
          refine wpIn_rangeFunc_ownF (n := 6) (F := Fence.wide) rfl (by omega) (gf := 111) (lb := #[.pointer (some ⟨b7 + 1 + 1, 0, none⟩), .pointer (some ⟨b7 + 1, 0, none⟩)]) rfl trivial (enters_of Try.func111 (by kernel_rfl) rfl)
            (hexN_stops 5 (by omega) (b7 + 1) (b7 + 1 + 1) W.heap.size N Y HN1.out (by omega) hY0 y1 w2 hBn hBc hml.out) KeepB.trans (keepB_b hml.out (by have := hs2.out; have := hB7.out; omega) (by have := hs2.out; have := hB7.out; omega)) (Below.refl _ _) (fun _ => rfl)
            (fun pre V => ∃ (t : Tb) (Q : List Int) (v : Value), SS W.heap.size bx bn bo g L N b off c (fun k => (k = bf ∨ k ∈ ds) ∨ (b7 ≤ k ∧ k < w2.heap.size)) cs t Q v W V ∧ (∀ k, ((k = bf ∨ k ∈ ds) ∨ (b7 ≤ k ∧ k < w2.heap.size)) → V.heap[k]? = w2.heap[k]?) ∧ Rq N cs t Q ∧ Beg N cs t N ∧ Clo N cs t Q (Y : Int) (vals pre) ∧ mass t * 2 + Q.length + 1 ≤ gk ∧ ∃ j, tbAt t (Y : Int) = some j)
            (fun _ _ _ => False)
            ?grown
            (fun _ _ _ _ _ hs _ _ => hs)
            ⟨t, r, _, hSS2.out, fun _ _ => rfl, hRr.out, hR.out.2, hClo.out, hmeas.out, jy, hjyy.out⟩
            (fun z => { tmps := #[.agg #[.int .i64 N, .slice (some ⟨b, off, none⟩) L c], .pointer (some ⟨bx, 0, none⟩), .int .i64 0, .pointer (some ⟨bn, 0, none⟩), .pointer (some ⟨bo, 0, none⟩), .pointer (some ⟨bf, 0, none⟩), u6, .pointer (some ⟨b7, 0, none⟩), .int .i64 z.1, .slice (some ⟨bx + 1, 0, none⟩) 1 1, .pointer (some ⟨bx, 1, none⟩), .slice (some ⟨b, off, none⟩) L c, .int .i64 L, .slice (some ⟨g, 0, none⟩) L L, .func (.func 108) #[] #[.pointer (some ⟨bx, 0, none⟩), .pointer (some ⟨bn, 0, none⟩), .pointer (some ⟨bo, 0, none⟩)], .pointer (some ⟨bx, 0, none⟩), .int .i64 N, .int .i64 N, .bool false, u19, u20, u21, u22, u23, .slice (some ⟨gq, offq, none⟩) 1 1, .int .i64 1, .bool true, .slice (some ⟨gq, offq, none⟩) 1 1, .pointer (some ⟨gq, offq, none⟩), .int .i64 Y, .slice (some ⟨gq, offq, none⟩) 1 1, (.slice (some ⟨gq, offq, none⟩) 0 0), .pointer (some ⟨bx, 0, none⟩), .int .i64 N, .int .i64 Y, .func (.func 111) #[] #[.pointer (some ⟨b7 + 1 + 1, 0, none⟩), .pointer (some ⟨b7 + 1, 0, none⟩)], .int .i64 z.1, u37, u38, u39, u40, u41, u42, u43, undef, undef, undef, undef, undef, undef, undef, undef, undef, undef], defers := [] }) ?assign ?body ?done ?stop
          case grown =>
            rintro pre V V' row ⟨t, Q, v, k1, k2, k3⟩ hg hr
            have hlt := hlts.out
            have hB := hB7.out
            have hs := hs2.out
            refine ⟨t, Q, v, k1.grown hpl.out hbm ⟨by omega, by omega, by omega, by omega, hml.out⟩ (fun k hk => ?_) hg hr, fun k hk => ?_, k3⟩
            · rcases hk with (hk | hk) | hk
              · omega
              · have := hlt.2.2.2.2.2 k hk; omega
              · exact hk.2
            · have hkl : k < w2.heap.size := by
                rcases hk with (hk | hk) | hk
                · omega
                · have := hlt.2.2.2.2.2 k hk; omega
                · exact hk.2
              exact (hg.block k (k1.xg k hk).2.2 (fun e => by have := (hr k e.symm).1; omega)).trans (k2 k hk)
          case assign =>
            intro l z V K hK
            gi_wp2
            exact hK
          case body =>
            rintro l pre z V ⟨t, Q, v, k1, k2, k3, k4, k5, k6, j, k7⟩ hlt6
            obtain ⟨x, hx⟩ : ∃ x, x = z.1 := ⟨_, rfl⟩
            have hmem : Hid (x ∈ near (N : Int) (Y : Int)) := hide (by rw [hx]; exact z.2)
            have hvs : Hid (vals (pre ++ [z]) = vals pre ++ [x]) := hide (by rw [vals_snoc, hx])
            rw [← hx]
            obtain ⟨x0, x1⟩ := near_in HN1.out hY0 y1 hmem.out
            obtain ⟨X, rfl⟩ := Int.eq_ofNat_of_zero_le x0
            have hXL : X < L := by have := HMUL.out; omega
            have hxx := hide (And.intro x0 x1)
            have hlt := hlts.out
            have hkeep : ∀ k, k < b7 → k ≠ bo → (k = bf ∨ k ∈ ds) → V.heap[k]? = wr.heap[k]? := fun k h1 h2 h3 => (k2 k (.inl h3)).trans (hold2.out k h1 h2)
            have hbfV : V.heap[bf]? = some (.cells #[fv] 87 (0, 0)) := (hkeep bf (by omega) (by have := hord.out; omega) (.inl rfl)).trans hS.out.2
            have h7V : V.heap[b7]? = some (.cells #[.int .i64 (Y : Int)] 2 (0, 0)) := (k2 b7 (.inr ⟨Nat.le_refl _, block_lt h72.out⟩)).trans h72.out
            have htl : t.length = L := by have := k3.tab.len; rw [HMUL.out] at this; omega
            have hj1 := k3.tab.small _ j hY0 k7
            have hkl := known_le t
            have q1 : ∀ p : Past V, p.to.cell? ⟨bf, 0, none⟩ = some fv := fun p => p.cell (row1 hbfV).1
            have q2 : ∀ p : Past V, p.to.cell? ⟨bn, 0, none⟩ = some (.slice (some ⟨g, 0, none⟩) L L) := fun p => p.cell (row1 k1.ns.hn).1
            have q3 : ∀ p : Past V, p.to.cell? ⟨b7, 0, none⟩ = some (.int .i64 (Y : Int)) := fun p => p.cell (row1 h7V).1
            have q4 : ∀ p : Past V, p.to.cell? ⟨g, Y, none⟩ = some (.int .i64 (j : Int)) := fun p => p.cell (by rw [(rowIs_cell k1.ns.hg hYL).1]; unfold nedV; rw [k7]; rfl)
            rw [hfv] at q1
            have HK := hide (And.intro k1 (And.intro k2 (And.intro k3 (And.intro k4 (And.intro k5 (And.intro k6 k7))))))
            have HJ := hide (And.intro hj1 hkl)
            have hql : Q.length ≤ 100000 := by have := hG20.out; omega
            clear hx k1 k2 k3 k4 k5 k6 k7 hkeep hbfV h7V x0 x1 hj1 hkl hlt
            (try gi_wp2)
            refine wpIn_region_pastR_tail 6 (by kernel_rfl) (by kernel_rfl) (by kernel_rfl) ?_
            simp only [List.take_succ_cons, List.take_zero, List.drop_succ_cons, List.drop_zero]
            repeat (first | go_big_quiet_step (fail) | quiet_step (fail))
            refine wpQuiet_nil ?_
            rintro _ ⟨pq, rfl⟩
            obtain ⟨w5, hw5⟩ : ∃ w5, w5 = pq.to := ⟨_, rfl⟩
            have hb5 : Below V.heap.size V w5 := by rw [hw5]; exact pq.old
            rw [← hw5]
            have hSS5 : Hid (SS W.heap.size bx bn bo g L N b off c (fun k => (k = bf ∨ k ∈ ds) ∨ (b7 ≤ k ∧ k < w2.heap.size)) cs t Q v W w5) := hide ((HK.out.1.keep hbm hb5).weaken (fun k hk => .inl hk))
            have HB5 := hide hb5
            clear q1 q2 q3 q4 hw5 hb5
            have hre := reach_any hpl.out hbm X j hXL hL64 (by have := HJ.out; omega) (HZ.out X hXL).1 (HZ.out X hXL).2 hql htl w5 hSS5.out.sz hSS5.out.ns
            have HRE := hide hre
            clear hre
            gi_wp2_with (with_reducible refine leadAny _ ?_)
            refine ⟨trivial, ?_⟩
            refine (CallsIn.inRound l (callsIn_wide.2 HRE.out)).mono ?_
            rintro e w6 ⟨rfl, hre6⟩
            obtain ⟨k1, k2, k3, k4, k5, k6, k7⟩ := HK.out
            obtain ⟨v', hS6, hF6, hKo6⟩ := hSS5.out.reach hpl.out hre6
            have hHS : hexAt cs (X : Int) ≠ 2 → fH cs 1 (X : Int) = some (costH cs (X : Int)) := fun h2 => by rw [fH_one (HZ.out X hXL).1 (HZ.out X hXL).2, if_neg h2]
            have hcl := costH_le cs (X : Int)
            obtain ⟨s1, s2, s3, s4, s5⟩ := rch_step (k := j + costH cs (X : Int)) HN1.out (by omega) k3 hxx.out.1 hxx.out.2 (HZ.out X hXL).1 (HZ.out X hXL).2 (fun h2 => (k3.tab.way _ j hY0 k7).step hmem.out (hHS h2)) (by have := HJ.out; omega)
            have hfin : Hid (KeepsOthers V w6 ∧ KeepB W.heap.size (b7 + 1) (b7 + 1 + 1) V w6 ∧ ∃ (t : Tb) (Q : List Int) (v : Value), SS W.heap.size bx bn bo g L N b off c (fun k => (k = bf ∨ k ∈ ds) ∨ (b7 ≤ k ∧ k < w2.heap.size)) cs t Q v W w6 ∧ (∀ k, ((k = bf ∨ k ∈ ds) ∨ (b7 ≤ k ∧ k < w2.heap.size)) → w6.heap[k]? = w2.heap[k]?) ∧ Rq N cs t Q ∧ Beg N cs t N ∧ Clo N cs t Q (Y : Int) (vals (pre ++ [z])) ∧ mass t * 2 + Q.length + 1 ≤ gk ∧ ∃ j, tbAt t (Y : Int) = some j) := hide (by
              have hX6 : ∀ k, ((k = bf ∨ k ∈ ds) ∨ (b7 ≤ k ∧ k < w2.heap.size)) → w6.heap[k]? = V.heap[k]? := fun k hk => by
                have hkl := (k1.xg k hk).2.2
                exact (hF6.block k (Nat.lt_of_lt_of_le hkl HB5.out.size) (fun h => h.1 hk)).trans (HB5.out.block k hkl)
              have hs2s := hs2.out
              have hb7s := hB7.out
              refine ⟨(keepsOthers_below HB5.out).trans hKo6, ⟨(HB5.out.mono k1.sz).trans (hF6.below (Nat.le_trans k1.sz HB5.out.size) (fun k hk => hk.2)), hX6 _ (.inr ⟨by omega, by omega⟩), hX6 _ (.inr ⟨by omega, by omega⟩)⟩, _, _, v', hS6, fun k hk => (hX6 k hk).trans (k2 k hk), s1, fun i hi h2 => ?_, ?_, by omega, ?_⟩
              · obtain ⟨a, ha, hal⟩ := k4 i hi h2
                obtain ⟨a', ha', hal'⟩ := s2 _ a (by omega) ha
                exact ⟨a', ha', by omega⟩
              · rw [hvs.out]
                exact clo_step hY0 (fun c hc => (near_in HN1.out hY0 y1 (by
                  simp only [vals, List.mem_map] at hc
                  obtain ⟨q, _, rfl⟩ := hc
                  exact q.2)).1) HN1.out k5 s2 s5 k7 (fun i hi => by
                  by_cases h2 : hexAt cs (X : Int) = 2
                  · rw [fH_one (HZ.out X hXL).1 (HZ.out X hXL).2, if_pos h2] at hi; cases hi
                  · rw [hHS h2] at hi; cases hi
                    exact s4 h2)
              · obtain ⟨a, ha, _⟩ := s2 _ j hY0 k7
                exact ⟨a, ha⟩)
            clear hS6 hF6 hKo6 hre6 k1 k2 k3 k4 k5 k6 k7 s1 s2 s3 s4 s5 hHS hcl
            gi_wp2
            exact hfin.out
          case done =>
            rintro D ys V hD2 hys ⟨t, Q, v, k1, k2, k3, k4, k5, k6, k7⟩ hK2
            have hlt := hlts.out
            have hys' : vals ys = near (N : Int) (Y : Int) := hys
            rw [hys'] at k5
            have hK3 : V.heap[D]? = some (.deferred (some [])) := hK2
            have hb7s := hB7.out
            have hs2s := hs2.out
            have hkeep : ∀ k, k < b7 → k ≠ bo → (k = bf ∨ k ∈ ds) → V.heap[k]? = wr.heap[k]? := fun k h1 h2 h3 => (k2 k (.inl h3)).trans (hold2.out k h1 h2)
            refine hK'.out.2 _ _ ⟨gk - 1, by omega, hK'.out.1 _ _ _ ⟨_, _, _, _, _, _, _, _, _, _, _, _, _, _, _, _, _, _, _, _, _, _, D :: ds, t, Q, v, rfl, hide ⟨(k1.mark hK3 rfl).weaken (fun k hk => ?_), (hkeep bf (by omega) (by have := hord.out; omega) (.inl rfl)).trans hS.out.2⟩, hide ⟨?_, fun E hE => ?_⟩, hide ⟨k3, k4⟩, hide (clo_end k5), by omega, by have := hG20.out; omega⟩⟩
            · rcases hk with hk | hk
              · exact .inl (.inl (.inl hk))
              · rcases List.mem_cons.1 hk with hk | hk
                · exact .inr hk
                · exact .inl (.inl (.inr hk))
            · rw [List.nodup_cons]
              exact ⟨fun h => by have := hlt.2.2.2.2.2 D h; omega, hD.out.1⟩
            · rcases List.mem_cons.1 hE with rfl | hE
              · exact ⟨by have := hml.out; omega, hK3⟩
              · obtain ⟨e1, e2⟩ := hD.out.2 E hE
                refine ⟨e1, (hkeep E (hlt.2.2.2.2.2 E hE) (fun e => ?_) (.inr hE)).trans e2⟩
                rw [e, hS.out.1.ns.ho] at e2; cases e2
          case stop =>
            rintro D c pre V hD2 _ h hK2
            exact h.elim
        · skip
          have hQ2 : Hid (QAt (wr.alloc (.cells #[.int .i64 (Y : Int)] 2)) W.heap.size (.slice (some ⟨gq, offq + 1, none⟩) n (cq - 1)) r) := hide (by
            have h := hS.out.1.ns.q.block (w' := wr.alloc (.cells #[.int .i64 (Y : Int)] 2)) (fun k hk => Below.heap_alloc _ _ _ (hS.out.1.ns.lt hk))
            have h2 := QAt.tail (by rw [show (((Y : Int) :: r).length) = (n + 1) from by simp [← HN.out]]; exact h)
            rw [← HN.out] at h2; exact h2.1)
          have hSa := hS.out.1.keep hbm hba
          have hSb := hSa.pop hpl.out hbm (by
            have h1 := block_lt hS.out.1.ns.ho
            have h2 := hord.out
            rintro ((h | h) | h)
            · omega
            · have := (hD.out.2 bo h).2; rw [hS.out.1.ns.ho] at this; cases this
            · omega) hQ2.out rfl
          obtain ⟨wb, hwb⟩ : ∃ wb, wb = (wr.alloc (.cells #[.int .i64 (Y : Int)] 2)).setCell ⟨bo, 0, none⟩ (.slice (some ⟨gq, offq + 1, none⟩) n (cq - 1)) := ⟨_, rfl⟩
          rw [← hwb] at hSb
          have hsb : Hid (wb.heap.size = wr.heap.size + 1) := by rw [hwb]; exact hide (by simp [World.setCell])
          have h7 : Hid (wb.heap[wr.heap.size]? = some (.cells #[.int .i64 (Y : Int)] 2 (0, 0))) := by
            rw [hwb, heap_setCell_other _ _ _ _ (show wr.heap.size ≠ bo from by have := block_lt hS.out.1.ns.ho; omega)]
            exact hide (alloc_row _ _ _)
          have hold : Hid (∀ k, k < wr.heap.size → k ≠ bo → wb.heap[k]? = wr.heap[k]?) := hide (fun k hk hkb => by
            rw [hwb, heap_setCell_other _ _ _ _ (show k ≠ bo from hkb), Below.heap_alloc _ _ _ hk])
          have cxb : wb.cell? ⟨bx, 0, none⟩ = some (.int .i64 N) := (row2' hSb.ns.hx).1
          have c7b : wb.cell? ⟨wr.heap.size, 0, none⟩ = some (.int .i64 (Y : Int)) := (row1 h7.out).1
          have HSB := hide hSb
          have HWB := hide hwb
          rw [hwb] at cxb c7b
          clear hSa hSb hQ2 hba hoa
          go_wp2_with fail
          rw [← HWB.out]
          refine (hexN_any N Y _).mono ?_
          rintro e w2 ⟨rfl, hw2⟩
          obtain ⟨hBn, hBc, hb2⟩ := hexN_boxes (N : Int) (Y : Int) wb
          have hs2 : Hid (w2.heap.size = wr.heap.size + 3) := by rw [← hw2]; exact hide (by simp [hsb.out])
          rw [hw2, hsb.out] at hBn hBc
          rw [hw2] at hb2
          rw [hsb.out]
          obtain ⟨b7, hb7⟩ : ∃ b7, b7 = wr.heap.size := ⟨_, rfl⟩
          rw [← hb7] at hBn hBc ⊢
          have hB7 := hide hb7
          have h72 : Hid (w2.heap[b7]? = some (.cells #[.int .i64 (Y : Int)] 2 (0, 0))) := hide (by rw [hb7]; exact box_keep h7.out hb2)
          have hlts : Hid (bx < b7 ∧ bn < b7 ∧ bo < b7 ∧ g < b7 ∧ bf < b7 ∧ ∀ D ∈ ds, D < b7) := hide (by
            have h1 := block_lt hS.out.1.ns.ho
            have h2 := block_lt hS.out.1.ns.hx
            have h3 := block_lt hS.out.1.ns.hn
            have h4 := rowIs_lt hS.out.1.ns.hg
            have h5 := block_lt hS.out.2
            exact ⟨by omega, by omega, by omega, by omega, by omega, fun D hDD => by have := block_lt (hD.out.2 D hDD).2; omega⟩)
          have hold2 : Hid (∀ k, k < b7 → k ≠ bo → w2.heap[k]? = wr.heap[k]?) := hide (fun k hk hkb => (hb2.block k (by rw [hsb.out]; omega)).trans (hold.out k (by omega) hkb))
          have hSS2 : Hid (SS W.heap.size bx bn bo g L N b off c (fun k => (k = bf ∨ k ∈ ds) ∨ (b7 ≤ k ∧ k < w2.heap.size)) cs t r (.slice (some ⟨gq, offq + 1, none⟩) n (cq - 1)) W w2) := hide ((HSB.out.keep hbm hb2).weaken (fun k hk => by
            rcases hk with hk | hk
            · exact .inl (.inl hk)
            · by_cases e : k < wb.heap.size
              · refine .inl (.inr ⟨by omega, ?_⟩)
                simp; rw [hsb.out] at e; omega
              · exact .inr ⟨by omega, hk.2⟩))
          have hClo : Hid (Clo N cs t r (Y : Int) []) := hide (clo_beg hC.out)
          obtain ⟨jy, hjy⟩ := hyk
          have hRr : Hid (Rq N cs t r) := hide ⟨hR.out.1.tab, fun z hz => hR.out.1.q z (List.mem_cons_of_mem _ hz)⟩
          have hjyy := hide hjy
          have hmeas : Hid (mass t * 2 + r.length + 1 ≤ gk) := hide (by have := hG; simp only [List.length_cons] at this; omega)
          have hml : Hid (W.heap.size ≤ w2.heap.size) := hide hSS2.out.sz
          have hY0 : (0 : Int) ≤ (Y : Int) := by omega
          clear hw2 hwb cxb c7b hjy HSB HWB h7 hold coa foa co fo cy hb7
          (try go_wp2_with fail)
          refine (wpIn_wide (n := 6)).1 ?_
          refine wpIn_rangeFunc_ownF (n := 6) (F := Fence.wide) rfl (by omega) (gf := 111) (lb := #[.pointer (some ⟨b7 + 1 + 1, 0, none⟩), .pointer (some ⟨b7 + 1, 0, none⟩)]) rfl trivial (enters_of Try.func111 (by kernel_rfl) rfl)
            (hexN_stops 5 (by omega) (b7 + 1) (b7 + 1 + 1) W.heap.size N Y HN1.out (by omega) hY0 y1 w2 hBn hBc hml.out) KeepB.trans (keepB_b hml.out (by have := hs2.out; have := hB7.out; omega) (by have := hs2.out; have := hB7.out; omega)) (Below.refl _ _) (fun _ => rfl)
            (fun pre V => ∃ (t : Tb) (Q : List Int) (v : Value), SS W.heap.size bx bn bo g L N b off c (fun k => (k = bf ∨ k ∈ ds) ∨ (b7 ≤ k ∧ k < w2.heap.size)) cs t Q v W V ∧ (∀ k, ((k = bf ∨ k ∈ ds) ∨ (b7 ≤ k ∧ k < w2.heap.size)) → V.heap[k]? = w2.heap[k]?) ∧ Rq N cs t Q ∧ Beg N cs t N ∧ Clo N cs t Q (Y : Int) (vals pre) ∧ mass t * 2 + Q.length + 1 ≤ gk ∧ ∃ j, tbAt t (Y : Int) = some j)
            (fun _ _ _ => False)
            ?grown
            (fun _ _ _ _ _ hs _ _ => hs)
            ⟨t, r, _, hSS2.out, fun _ _ => rfl, hRr.out, hR.out.2, hClo.out, hmeas.out, jy, hjyy.out⟩
            (fun z => { tmps := #[.agg #[.int .i64 N, .slice (some ⟨b, off, none⟩) L c], .pointer (some ⟨bx, 0, none⟩), .int .i64 0, .pointer (some ⟨bn, 0, none⟩), .pointer (some ⟨bo, 0, none⟩), .pointer (some ⟨bf, 0, none⟩), u6, .pointer (some ⟨b7, 0, none⟩), .int .i64 z.1, .slice (some ⟨bx + 1, 0, none⟩) 1 1, .pointer (some ⟨bx, 1, none⟩), .slice (some ⟨b, off, none⟩) L c, .int .i64 L, .slice (some ⟨g, 0, none⟩) L L, .func (.func 108) #[] #[.pointer (some ⟨bx, 0, none⟩), .pointer (some ⟨bn, 0, none⟩), .pointer (some ⟨bo, 0, none⟩)], .pointer (some ⟨bx, 0, none⟩), .int .i64 N, .int .i64 N, .bool false, u19, u20, u21, u22, u23, .slice (some ⟨gq, offq, none⟩) (n + 1) cq, .int .i64 ((n : Int) + 1), .bool true, .slice (some ⟨gq, offq, none⟩) (n + 1) cq, .pointer (some ⟨gq, offq, none⟩), .int .i64 Y, .slice (some ⟨gq, offq, none⟩) (n + 1) cq, (.slice (some ⟨gq, offq + 1, none⟩) n (cq - 1)), .pointer (some ⟨bx, 0, none⟩), .int .i64 N, .int .i64 Y, .func (.func 111) #[] #[.pointer (some ⟨b7 + 1 + 1, 0, none⟩), .pointer (some ⟨b7 + 1, 0, none⟩)], .int .i64 z.1, u37, u38, u39, u40, u41, u42, u43, undef, undef, undef, undef, undef, undef, undef, undef, undef, undef], defers := [] }) ?assign ?body ?done ?stop
          case grown =>
            rintro pre V V' row ⟨t, Q, v, k1, k2, k3⟩ hg hr
            have hlt := hlts.out
            have hB := hB7.out
            have hs := hs2.out
            refine ⟨t, Q, v, k1.grown hpl.out hbm ⟨by omega, by omega, by omega, by omega, hml.out⟩ (fun k hk => ?_) hg hr, fun k hk => ?_, k3⟩
            · rcases hk with (hk | hk) | hk
              · omega
              · have := hlt.2.2.2.2.2 k hk; omega
              · exact hk.2
            · have hkl : k < w2.heap.size := by
                rcases hk with (hk | hk) | hk
                · omega
                · have := hlt.2.2.2.2.2 k hk; omega
                · exact hk.2
              exact (hg.block k (k1.xg k hk).2.2 (fun e => by have := (hr k e.symm).1; omega)).trans (k2 k hk)
          case assign =>
            intro l z V K hK
            gi_wp2
            exact hK
          case body =>
            rintro l pre z V ⟨t, Q, v, k1, k2, k3, k4, k5, k6, j, k7⟩ hlt6
            obtain ⟨x, hx⟩ : ∃ x, x = z.1 := ⟨_, rfl⟩
            have hmem : Hid (x ∈ near (N : Int) (Y : Int)) := hide (by rw [hx]; exact z.2)
            have hvs : Hid (vals (pre ++ [z]) = vals pre ++ [x]) := hide (by rw [vals_snoc, hx])
            rw [← hx]
            obtain ⟨x0, x1⟩ := near_in HN1.out hY0 y1 hmem.out
            obtain ⟨X, rfl⟩ := Int.eq_ofNat_of_zero_le x0
            have hXL : X < L := by have := HMUL.out; omega
            have hxx := hide (And.intro x0 x1)
            have hlt := hlts.out
            have hkeep : ∀ k, k < b7 → k ≠ bo → (k = bf ∨ k ∈ ds) → V.heap[k]? = wr.heap[k]? := fun k h1 h2 h3 => (k2 k (.inl h3)).trans (hold2.out k h1 h2)
            have hbfV : V.heap[bf]? = some (.cells #[fv] 87 (0, 0)) := (hkeep bf (by omega) (by have := hord.out; omega) (.inl rfl)).trans hS.out.2
            have h7V : V.heap[b7]? = some (.cells #[.int .i64 (Y : Int)] 2 (0, 0)) := (k2 b7 (.inr ⟨Nat.le_refl _, block_lt h72.out⟩)).trans h72.out
            have htl : t.length = L := by have := k3.tab.len; rw [HMUL.out] at this; omega
            have hj1 := k3.tab.small _ j hY0 k7
            have hkl := known_le t
            have q1 : ∀ p : Past V, p.to.cell? ⟨bf, 0, none⟩ = some fv := fun p => p.cell (row1 hbfV).1
            have q2 : ∀ p : Past V, p.to.cell? ⟨bn, 0, none⟩ = some (.slice (some ⟨g, 0, none⟩) L L) := fun p => p.cell (row1 k1.ns.hn).1
            have q3 : ∀ p : Past V, p.to.cell? ⟨b7, 0, none⟩ = some (.int .i64 (Y : Int)) := fun p => p.cell (row1 h7V).1
            have q4 : ∀ p : Past V, p.to.cell? ⟨g, Y, none⟩ = some (.int .i64 (j : Int)) := fun p => p.cell (by rw [(rowIs_cell k1.ns.hg hYL).1]; unfold nedV; rw [k7]; rfl)
            rw [hfv] at q1
            have HK := hide (And.intro k1 (And.intro k2 (And.intro k3 (And.intro k4 (And.intro k5 (And.intro k6 k7))))))
            have HJ := hide (And.intro hj1 hkl)
            have hql : Q.length ≤ 100000 := by have := hG20.out; omega
            clear hx k1 k2 k3 k4 k5 k6 k7 hkeep hbfV h7V x0 x1 hj1 hkl hlt
            (try gi_wp2)
            refine wpIn_region_pastR_tail 6 (by kernel_rfl) (by kernel_rfl) (by kernel_rfl) ?_
            simp only [List.take_succ_cons, List.take_zero, List.drop_succ_cons, List.drop_zero]
            repeat (first | go_big_quiet_step (fail) | quiet_step (fail))
            refine wpQuiet_nil ?_
            rintro _ ⟨pq, rfl⟩
            obtain ⟨w5, hw5⟩ : ∃ w5, w5 = pq.to := ⟨_, rfl⟩
            have hb5 : Below V.heap.size V w5 := by rw [hw5]; exact pq.old
            rw [← hw5]
            have hSS5 : Hid (SS W.heap.size bx bn bo g L N b off c (fun k => (k = bf ∨ k ∈ ds) ∨ (b7 ≤ k ∧ k < w2.heap.size)) cs t Q v W w5) := hide ((HK.out.1.keep hbm hb5).weaken (fun k hk => .inl hk))
            have HB5 := hide hb5
            clear q1 q2 q3 q4 hw5 hb5
            have hre := reach_any hpl.out hbm X j hXL hL64 (by have := HJ.out; omega) (HZ.out X hXL).1 (HZ.out X hXL).2 hql htl w5 hSS5.out.sz hSS5.out.ns
            have HRE := hide hre
            clear hre
            gi_wp2_with (with_reducible refine leadAny _ ?_)
            refine ⟨trivial, ?_⟩
            refine (CallsIn.inRound l (callsIn_wide.2 HRE.out)).mono ?_
            rintro e w6 ⟨rfl, hre6⟩
            obtain ⟨k1, k2, k3, k4, k5, k6, k7⟩ := HK.out
            obtain ⟨v', hS6, hF6, hKo6⟩ := hSS5.out.reach hpl.out hre6
            have hHS : hexAt cs (X : Int) ≠ 2 → fH cs 1 (X : Int) = some (costH cs (X : Int)) := fun h2 => by rw [fH_one (HZ.out X hXL).1 (HZ.out X hXL).2, if_neg h2]
            have hcl := costH_le cs (X : Int)
            obtain ⟨s1, s2, s3, s4, s5⟩ := rch_step (k := j + costH cs (X : Int)) HN1.out (by omega) k3 hxx.out.1 hxx.out.2 (HZ.out X hXL).1 (HZ.out X hXL).2 (fun h2 => (k3.tab.way _ j hY0 k7).step hmem.out (hHS h2)) (by have := HJ.out; omega)
            have hfin : Hid (KeepsOthers V w6 ∧ KeepB W.heap.size (b7 + 1) (b7 + 1 + 1) V w6 ∧ ∃ (t : Tb) (Q : List Int) (v : Value), SS W.heap.size bx bn bo g L N b off c (fun k => (k = bf ∨ k ∈ ds) ∨ (b7 ≤ k ∧ k < w2.heap.size)) cs t Q v W w6 ∧ (∀ k, ((k = bf ∨ k ∈ ds) ∨ (b7 ≤ k ∧ k < w2.heap.size)) → w6.heap[k]? = w2.heap[k]?) ∧ Rq N cs t Q ∧ Beg N cs t N ∧ Clo N cs t Q (Y : Int) (vals (pre ++ [z])) ∧ mass t * 2 + Q.length + 1 ≤ gk ∧ ∃ j, tbAt t (Y : Int) = some j) := hide (by
              have hX6 : ∀ k, ((k = bf ∨ k ∈ ds) ∨ (b7 ≤ k ∧ k < w2.heap.size)) → w6.heap[k]? = V.heap[k]? := fun k hk => by
                have hkl := (k1.xg k hk).2.2
                exact (hF6.block k (Nat.lt_of_lt_of_le hkl HB5.out.size) (fun h => h.1 hk)).trans (HB5.out.block k hkl)
              have hs2s := hs2.out
              have hb7s := hB7.out
              refine ⟨(keepsOthers_below HB5.out).trans hKo6, ⟨(HB5.out.mono k1.sz).trans (hF6.below (Nat.le_trans k1.sz HB5.out.size) (fun k hk => hk.2)), hX6 _ (.inr ⟨by omega, by omega⟩), hX6 _ (.inr ⟨by omega, by omega⟩)⟩, _, _, v', hS6, fun k hk => (hX6 k hk).trans (k2 k hk), s1, fun i hi h2 => ?_, ?_, by omega, ?_⟩
              · obtain ⟨a, ha, hal⟩ := k4 i hi h2
                obtain ⟨a', ha', hal'⟩ := s2 _ a (by omega) ha
                exact ⟨a', ha', by omega⟩
              · rw [hvs.out]
                exact clo_step hY0 (fun c hc => (near_in HN1.out hY0 y1 (by
                  simp only [vals, List.mem_map] at hc
                  obtain ⟨q, _, rfl⟩ := hc
                  exact q.2)).1) HN1.out k5 s2 s5 k7 (fun i hi => by
                  by_cases h2 : hexAt cs (X : Int) = 2
                  · rw [fH_one (HZ.out X hXL).1 (HZ.out X hXL).2, if_pos h2] at hi; cases hi
                  · rw [hHS h2] at hi; cases hi
                    exact s4 h2)
              · obtain ⟨a, ha, _⟩ := s2 _ j hY0 k7
                exact ⟨a, ha⟩)
            clear hS6 hF6 hKo6 hre6 k1 k2 k3 k4 k5 k6 k7 s1 s2 s3 s4 s5 hHS hcl
            gi_wp2
            exact hfin.out
          case done =>
            rintro D ys V hD2 hys ⟨t, Q, v, k1, k2, k3, k4, k5, k6, k7⟩ hK2
            have hlt := hlts.out
            have hys' : vals ys = near (N : Int) (Y : Int) := hys
            rw [hys'] at k5
            have hK3 : V.heap[D]? = some (.deferred (some [])) := hK2
            have hb7s := hB7.out
            have hs2s := hs2.out
            have hkeep : ∀ k, k < b7 → k ≠ bo → (k = bf ∨ k ∈ ds) → V.heap[k]? = wr.heap[k]? := fun k h1 h2 h3 => (k2 k (.inl h3)).trans (hold2.out k h1 h2)
            refine hK'.out.2 _ _ ⟨gk - 1, by omega, hK'.out.1 _ _ _ ⟨_, _, _, _, _, _, _, _, _, _, _, _, _, _, _, _, _, _, _, _, _, _, D :: ds, t, Q, v, rfl, hide ⟨(k1.mark hK3 rfl).weaken (fun k hk => ?_), (hkeep bf (by omega) (by have := hord.out; omega) (.inl rfl)).trans hS.out.2⟩, hide ⟨?_, fun E hE => ?_⟩, hide ⟨k3, k4⟩, hide (clo_end k5), by omega, by have := hG20.out; omega⟩⟩
            · rcases hk with hk | hk
              · exact .inl (.inl (.inl hk))
              · rcases List.mem_cons.1 hk with hk | hk
                · exact .inr hk
                · exact .inl (.inl (.inr hk))
            · rw [List.nodup_cons]
              exact ⟨fun h => by have := hlt.2.2.2.2.2 D h; omega, hD.out.1⟩
            · rcases List.mem_cons.1 hE with rfl | hE
              · exact ⟨by have := hml.out; omega, hK3⟩
              · obtain ⟨e1, e2⟩ := hD.out.2 E hE
                refine ⟨e1, (hkeep E (hlt.2.2.2.2.2 E hE) (fun e => ?_) (.inr hE)).trans e2⟩
                rw [e, hS.out.1.ns.ho] at e2; cases e2
          case stop =>
            rintro D c pre V hD2 _ h hK2
            exact h.elim
end Go.Proofs.Ytogfoahejgmfgaa
