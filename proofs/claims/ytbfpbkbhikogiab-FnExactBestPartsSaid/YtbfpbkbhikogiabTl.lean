/-
  Ends of dots and boxes: a new search; the tally of an ending, the program's text.
-/
import Derived.Test.YtbfpbkbhikogiabSw
import Derived.Carry
namespace Go.Proofs.Ytbfpbkbhikogiab
open Go.RowKit Go.Maps
set_option linter.unusedVariables false

theorem search_new (W : World) : Calls Try.prog 12 #[] W fun e W' => ∃ b, e = .returned (.agg #[.map (some b)]) ∧ KnowsT b W' ∧ W.heap.size ≤ b ∧ Below W.heap.size W W' := by
  have hmm := @run_makeMap Try.prog
  go_enter Try.func12, Try.ntmps12
  go_wp2_with fail
  obtain ⟨W1, hW1⟩ : ∃ W1, W1 = W.alloc (.cells #[.map (some (W.heap.size + 1))] 36) := ⟨_, rfl⟩
  have hB1 : Hid (Below W.heap.size W W1) := by rw [hW1]; exact hide (below_alloc _ _)
  have hs1 : W1.heap.size = W.heap.size + 1 := by rw [hW1]; simp
  have hr1 : Hid (W1.heap[W.heap.size]? = some (.cells #[.map (some (W.heap.size + 1))] 36 (0, 0))) := by rw [hW1]; exact hide (heap_alloc_new W _)
  rw [← hW1]
  clear hW1
  obtain ⟨W2, hW2⟩ : ∃ W2, W2 = W1.alloc (.map #[] 0) := ⟨_, rfl⟩
  have hB2 : Hid (Below W1.heap.size W1 W2) := by rw [hW2]; exact hide (below_alloc _ _)
  have hr2 := box_keep hr1.out hB2.out
  have hK2 : Hid (KnowsT (W.heap.size + 1) W2) := by rw [hW2, ← hs1]; exact hide (KnowsT.made W1)
  rw [← hW2]
  clear hW2
  have c0 : W2.cell? ⟨W.heap.size, 0, none⟩ = some (.map (some (W.heap.size + 1))) := (cell_of_row _ _ 0 _ _ (0, 0) hr2).trans rfl
  exact bodyPost_ret (v := .agg #[.map (some (W.heap.size + 1))]) (by simp [results, Try.results12, go_sem, c0]) rfl ⟨_, rfl, hK2.out, by omega, Below.trans' hB1.out hB2.out⟩

/-! ### the tally of a row of strands -/
def ixS (s : Int × Int) : Nat := (31 * s.1 + s.2).toNat
def cntS (ss : List (Int × Int)) : List Nat := (List.range 62).map fun i => ss.countP fun s => decide (ixS s = i)
theorem cntS_len (ss : List (Int × Int)) : (cntS ss).length = 62 := by simp [cntS]
theorem cntS_get (ss : List (Int × Int)) {i : Nat} (h : i < 62) : tg (cntS ss) i = ss.countP fun s => decide (ixS s = i) := by simp [tg, cntS, h]
theorem cntS_nil : cntS [] = zeroT := tally_ext (cntS_len _) zeroT_len (fun i hi => by
  rw [cntS_get _ hi]
  unfold tg zeroT
  rw [List.getElem?_replicate, if_pos hi]
  rfl)
theorem cntS_snoc (ss : List (Int × Int)) (s : Int × Int) (h : ixS s < 62) : cntS (ss ++ [s]) = (cntS ss).set (ixS s) (tg (cntS ss) (ixS s) + 1) := by
  refine tally_ext (cntS_len _) (by rw [List.length_set, cntS_len]) (fun i hi => ?_)
  rw [tg_set (by rw [cntS_len]; exact h), cntS_get _ hi, cntS_get _ h, cntS_get _ hi, List.countP_append]
  by_cases e : i = ixS s
  · subst e
    simp
  · have e' : ¬ ixS s = i := fun x => e x.symm
    simp [e, e']
theorem cntS_le (ss : List (Int × Int)) (i : Nat) (h : i < 62) : tg (cntS ss) i ≤ ss.length := by
  rw [cntS_get _ h]
  exact List.countP_le_length
theorem cntS_strs {cs ls : List Int} (h : okEn cs ls = true) : cntS (strs cs ls) = cntL cs ls := by
  obtain ⟨h1, h2⟩ := okEn_rng h
  refine tally_ext (cntS_len _) (cntL_len _ _) (fun i hi => ?_)
  rw [cntS_get _ hi, cntL_get _ _ hi]
  unfold strs
  rw [List.countP_append, List.countP_map, List.countP_map]
  by_cases h31 : i < 31
  · rw [if_pos h31]
    have hl : ls.countP ((fun s => decide (ixS s = i)) ∘ fun b => ((1 : Int), b)) = 0 := by
      rw [List.countP_eq_zero]
      intro x hx
      have := h2 x hx
      have hn : ¬ ixS (1, x) = i := by unfold ixS; simp only; omega
      simp [hn]
    rw [hl, Nat.add_zero, List.count_eq_countP]
    apply List.countP_congr
    intro x hx
    have := h1 x hx
    have hn : (ixS (0, x) = i) ↔ (x = (i : Int)) := by unfold ixS; simp only; omega
    simp [hn]
  · rw [if_neg h31]
    have hl : cs.countP ((fun s => decide (ixS s = i)) ∘ fun b => ((0 : Int), b)) = 0 := by
      rw [List.countP_eq_zero]
      intro x hx
      have := h1 x hx
      have hn : ¬ ixS (0, x) = i := by unfold ixS; simp only; omega
      simp [hn]
    rw [hl, Nat.zero_add, List.count_eq_countP]
    apply List.countP_congr
    intro x hx
    have := h2 x hx
    have hn : (ixS (1, x) = i) ↔ (x = ((i - 31 : Nat) : Int)) := by unfold ixS; simp only; omega
    simp [hn]

theorem But.far_strs {n : Nat} {a b : World} {g : Nat} {ss : List (Int × Int)} (h : But n a b) (hs : StrsAt a g ss) (hn : g ≠ n) : StrsAt b g ss := fun k s hk => ⟨h.cell (hs k s hk).1 hn, h.cell (hs k s hk).2 hn⟩

set_option maxRecDepth 100000 in
set_option maxHeartbeats 4000000 in
theorem tallyOf_any (a : Option Addr) (c : Nat) (cs : List Int) (a' : Option Addr) (c' : Nat) (ls : List Int) (W : World) (ha : IntsAt W a cs) (ha' : IntsAt W a' ls) (hok : okEn cs ls = true) :
    Calls Try.prog 15 #[.agg #[.slice a cs.length c, .slice a' ls.length c']] W (RetB (.agg (tc (cntL cs ls))) W) := by
  have hcl : Hid (cntS (strs cs ls) = cntL cs ls) := hide (cntS_strs hok)
  have hsm := strs_mem hok
  have h8 := (okEn_parts hok).1
  obtain ⟨ss, hss⟩ : ∃ ss, ss = strs cs ls := ⟨_, rfl⟩
  have hs8 : ss.length ≤ 8 := by rw [hss, strs_len]; exact h8
  rw [← hss] at hsm hcl
  have HSM := hide hsm
  have HSS := hide hss
  obtain ⟨W0, hW0⟩ : ∃ W0, W0 = ((W.alloc (.cells #[.slice a cs.length c, .slice a' ls.length c'] 33)).alloc (.cells #[.int .u8 0, .int .u8 0, .int .u8 0, .int .u8 0, .int .u8 0, .int .u8 0, .int .u8 0, .int .u8 0, .int .u8 0, .int .u8 0, .int .u8 0, .int .u8 0, .int .u8 0, .int .u8 0, .int .u8 0, .int .u8 0, .int .u8 0, .int .u8 0, .int .u8 0, .int .u8 0, .int .u8 0, .int .u8 0, .int .u8 0, .int .u8 0, .int .u8 0, .int .u8 0, .int .u8 0, .int .u8 0, .int .u8 0, .int .u8 0, .int .u8 0, .int .u8 0, .int .u8 0, .int .u8 0, .int .u8 0, .int .u8 0, .int .u8 0, .int .u8 0, .int .u8 0, .int .u8 0, .int .u8 0, .int .u8 0, .int .u8 0, .int .u8 0, .int .u8 0, .int .u8 0, .int .u8 0, .int .u8 0, .int .u8 0, .int .u8 0, .int .u8 0, .int .u8 0, .int .u8 0, .int .u8 0, .int .u8 0, .int .u8 0, .int .u8 0, .int .u8 0, .int .u8 0, .int .u8 0, .int .u8 0, .int .u8 0] 41)).alloc (.cells #[.int .u8 0, .int .u8 0, .int .u8 0, .int .u8 0, .int .u8 0, .int .u8 0, .int .u8 0, .int .u8 0, .int .u8 0, .int .u8 0, .int .u8 0, .int .u8 0, .int .u8 0, .int .u8 0, .int .u8 0, .int .u8 0, .int .u8 0, .int .u8 0, .int .u8 0, .int .u8 0, .int .u8 0, .int .u8 0, .int .u8 0, .int .u8 0, .int .u8 0, .int .u8 0, .int .u8 0, .int .u8 0, .int .u8 0, .int .u8 0, .int .u8 0, .int .u8 0, .int .u8 0, .int .u8 0, .int .u8 0, .int .u8 0, .int .u8 0, .int .u8 0, .int .u8 0, .int .u8 0, .int .u8 0, .int .u8 0, .int .u8 0, .int .u8 0, .int .u8 0, .int .u8 0, .int .u8 0, .int .u8 0, .int .u8 0, .int .u8 0, .int .u8 0, .int .u8 0, .int .u8 0, .int .u8 0, .int .u8 0, .int .u8 0, .int .u8 0, .int .u8 0, .int .u8 0, .int .u8 0, .int .u8 0, .int .u8 0] 41) := ⟨_, rfl⟩
  have hB0 : Hid (Below W.heap.size W W0) := by rw [hW0]; exact hide (((below_alloc _ _).alloc (by simp) _).alloc (by simp; omega) _)
  have hs0 : W0.heap.size = W.heap.size + 3 := by rw [hW0]; simp
  have hX0 : EndIn W0 W.heap.size a cs.length c a' ls.length c' := by
    rw [hW0]
    exact (endIn_new W a cs.length c a' ls.length c' 33).keep (((Below.refl _ _).alloc (Nat.le_refl _) _).alloc (by simp) _)
  have hR0 : Hid (TallyIn W0 (W.heap.size + 1) zeroT) := hide (by
    have := TallyIn.new (W.alloc (.cells #[.slice a cs.length c, .slice a' ls.length c'] 33)) zeroT
    rw [hW0]
    simp only [World.size_alloc] at this
    exact TallyIn.keep this (below_alloc _ _))
  have hT0 : Hid (TallyIn W0 (W.heap.size + 1 + 1) zeroT) := hide (by
    have := TallyIn.new ((W.alloc (.cells #[.slice a cs.length c, .slice a' ls.length c'] 33)).alloc (.cells #[.int .u8 0, .int .u8 0, .int .u8 0, .int .u8 0, .int .u8 0, .int .u8 0, .int .u8 0, .int .u8 0, .int .u8 0, .int .u8 0, .int .u8 0, .int .u8 0, .int .u8 0, .int .u8 0, .int .u8 0, .int .u8 0, .int .u8 0, .int .u8 0, .int .u8 0, .int .u8 0, .int .u8 0, .int .u8 0, .int .u8 0, .int .u8 0, .int .u8 0, .int .u8 0, .int .u8 0, .int .u8 0, .int .u8 0, .int .u8 0, .int .u8 0, .int .u8 0, .int .u8 0, .int .u8 0, .int .u8 0, .int .u8 0, .int .u8 0, .int .u8 0, .int .u8 0, .int .u8 0, .int .u8 0, .int .u8 0, .int .u8 0, .int .u8 0, .int .u8 0, .int .u8 0, .int .u8 0, .int .u8 0, .int .u8 0, .int .u8 0, .int .u8 0, .int .u8 0, .int .u8 0, .int .u8 0, .int .u8 0, .int .u8 0, .int .u8 0, .int .u8 0, .int .u8 0, .int .u8 0, .int .u8 0, .int .u8 0] 41)) zeroT
    rw [hW0]
    simp only [World.size_alloc] at this
    exact this)
  have hA0 := hide (ha.keep hB0.out)
  have hA0' := hide (ha'.keep hB0.out)
  obtain ⟨c0, c1⟩ := hX0
  clear ha ha' hss hsm hok
  go_enter Try.func15, Try.ntmps15
  go_wp2_with fail
  rw [← hW0]
  clear hW0
  (try go_wp2_with fail)
  refine (strandsOf_any _ _ cs _ _ ls _ hA0.out hA0'.out h8).mono ?_
  rw [← HSS.out]
  rintro e w2 ⟨a2, k2, rfl, ho2, hb2⟩
  have hS2 := hide (sliceS_of_own ho2)
  have hfar : Hid (∀ g, a2 = some ⟨g, 0, none⟩ → W.heap.size + 3 ≤ g) := hide (fun g hg => by
    rcases ho2.2 with ⟨hv, _⟩ | ⟨g', cap, cur, hv, hgg, _⟩
    · simp only [Value.slice.injEq] at hv; rw [hv.1] at hg; cases hg
    · simp only [Value.slice.injEq] at hv; rw [hv.1] at hg; simp at hg; omega)
  have hB2 := hide (Below.trans' hB0.out hb2)
  have hR2 := hide (hR0.out.keep hb2)
  have hT2 := hide (hT0.out.keep hb2)
  have hs2 : W.heap.size + 3 ≤ w2.heap.size := by have := hb2.size; omega
  clear hb2 ho2 c0 c1
  obtain ⟨n, hn⟩ : ∃ n, n = ss.length := ⟨_, rfl⟩
  rw [← hn] at hs8 ⊢
  have HN := hide hn
  clear hn
  go_wp2_with fail
  go_loopg [9] n (fun g2 i wr => ∃ j : Nat, j + g2 = n ∧ i = .int .i64 j ∧ TallyIn wr (W.heap.size + 1 + 1) (cntS (ss.take j)) ∧ But (W.heap.size + 1 + 1) w2 wr)
  case atStart => exact ⟨0, by omega, rfl, by rw [List.take_zero, cntS_nil]; exact hT2.out, But.refl _ _⟩
  case round =>
    obtain ⟨j, hj, rfl, hT, hB⟩ := hrel
    have HB := hide hB
    have HT := hide hT
    cases gk with
    | zero =>
      obtain rfl : j = n := by omega
      have hTl : Hid (TallyIn wr (W.heap.size + 1 + 1) (cntL cs ls)) := hide (by rw [← hcl.out]; rw [HN.out, List.take_length] at hT; exact hT)
      have hRr : Hid (TallyIn wr (W.heap.size + 1) zeroT) := hide (hB.row hR2.out (by omega))
      have hsz : Hid (((Try.prog).info? 41).map (·.size) = some (tc (cntL cs ls)).size) := hide (by rw [tc_size, cntL_len]; exact tInfo)
      have hzz : Hid ((tc zeroT).size = (tc (cntL cs ls)).size) := hide (by rw [tc_size, tc_size, cntL_len]; rfl)
      have hfin : Hid (Below W.heap.size W wr) := hide (hB2.out.trans ⟨hB.os, hB.tape, hB.output, hB.size, fun k hk => hB.block k (by omega) (by omega)⟩)
      clear hT hB
      go_wp2_with (first | (refine wpList_load_row rfl 41 (.tmp 3) rfl (W.heap.size + 1 + 1) rfl 41 (tc (cntL cs ls)) (0, 0) _ hTl.out tUnder rfl hsz.out ?_) | (refine wpList_store_row rfl 41 (.tmp 2) (.tmp 24) rfl (W.heap.size + 1) (tc (cntL cs ls)) rfl rfl 41 (tc zeroT) hRr.out hsz.out hzz.out (tc_one _) ?_))
      refine bodyPost_ret ?_ rfl ⟨rfl, below_setRow hfin.out (by omega) _⟩
      exact results_cell_row (fn := Try.f15) Try.results15 _ _ (W.heap.size + 1) 41 _ (0, 0) _ rfl hRr.out.whole tUnder rfl hsz.out
    | succ g2 =>
      have hlt : j < n := by omega
      have hgk : SliceS wr a2 ss := fun hne => by
        obtain ⟨g, hg, hst⟩ := hS2.out hne
        exact ⟨g, hg, hB.far_strs hst (by have := hfar.out g hg; omega)⟩
      obtain ⟨g, x, y, rfl, e0, e1, hz⟩ := hgk.one (k := j) (by rw [← HN.out]; exact hlt)
      have hm := HSM.out _ (List.mem_of_getElem? hz.out)
      have hx0 : 0 ≤ x := by omega
      have hy0 : 0 ≤ y := by omega
      have hidx : Hid (ixS (x, y) = x.toNat * 31 + y.toNat) := hide (by unfold ixS; simp only; omega)
      obtain ⟨k, rfl⟩ := Int.eq_ofNat_of_zero_le hx0
      obtain ⟨b, rfl⟩ := Int.eq_ofNat_of_zero_le hy0
      have hk2 : k < 2 := by omega
      have hb31 : b < 31 := by omega
      simp only [Int.toNat_natCast] at hidx
      obtain ⟨m, hm'⟩ : ∃ m, m = cntS (ss.take j) := ⟨_, rfl⟩
      rw [← hm'] at hT HT
      have hml : m.length = 62 := by rw [hm']; exact cntS_len _
      obtain ⟨v, hv⟩ : ∃ v, v = tg m (k * 31 + b) := ⟨_, rfl⟩
      have hv8 : v ≤ 8 := by rw [hv, hm']; have := cntS_le (ss.take j) (k * 31 + b) (by omega); have := List.length_take_le' j ss; have := HN.out; omega
      have hnew : Hid (cntS (ss.take (j + 1)) = m.set (k * 31 + b) (v + 1)) := hide (by
        rw [List.take_add_one, hz.out]
        show cntS (ss.take j ++ [((k : Int), (b : Int))]) = _
        rw [cntS_snoc _ _ (by rw [hidx.out]; omega), hidx.out, ← hm', hv])
      have hTa : TallyIn (wr.alloc (.cells #[.int .i64 k, .int .i64 b] 55)) (W.heap.size + 1 + 1) m := hT.keep (below_alloc _ _)
      have hcell : (wr.alloc (.cells #[.int .i64 k, .int .i64 b] 55)).cell? ⟨W.heap.size + 1 + 1, k * 31 + b, none⟩ = some (.int .u8 (v : Nat)) := by rw [hv]; exact hTa.cell (by rw [hml]; omega)
      have hfr : (wr.alloc (.cells #[.int .i64 k, .int .i64 b] 55)).frozen? ⟨W.heap.size + 1 + 1, k * 31 + b, none⟩ = false := frozen_of_row _ _ _ _ _ hTa
      have hS0 := heap_alloc_new wr (.cells #[.int .i64 k, .int .i64 b] 55 (0, 0))
      obtain ⟨Wa, hWa⟩ : ∃ Wa, Wa = wr.alloc (.cells #[.int .i64 k, .int .i64 b] 55) := ⟨_, rfl⟩
      rw [← hWa] at hcell hfr hS0 hTa
      obtain ⟨d0, d1, _⟩ := row2' hS0
      have hvm : Value.int .u8 ((v : Int) + 1) = .int .u8 ((v + 1 : Nat) : Int) := by congr 1
      obtain ⟨W1, hW1⟩ : ∃ W1, W1 = (Wa.setCell ⟨W.heap.size + 1 + 1, k * 31 + b, none⟩ (.int .u8 ((v : Int) + 1))).drew := ⟨_, rfl⟩
      have HT1 : Hid (TallyIn W1 (W.heap.size + 1 + 1) (m.set (k * 31 + b) (v + 1))) := hide (by rw [hW1, hvm]; exact (hTa.set (k * 31 + b) (v + 1)).keep (Below.drew (Below.refl _ _)))
      have HB1 : Hid (But (W.heap.size + 1 + 1) w2 W1) := hide (by rw [hW1, hWa]; exact ((HB.out.alloc _).set _ _).drew)
      have hwl : W.heap.size + 1 + 1 < wr.heap.size := block_lt HT.out
      have hne : wr.heap.size ≠ W.heap.size + 1 + 1 := by omega
      clear hT hB hm' hv hS0 hgk hm hTa hvm
      go_wp2_with fail
      rw [← hWa]
      clear hWa
      go_region
      rw [← hW1]
      clear hW1 d0 d1 hcell hfr
      go_wp2_with fail
      go_roundg g2
      case rel => exact ⟨j + 1, by omega, by go_num, by rw [hnew.out]; exact HT1.out, HB1.out⟩
      case measure => omega
end Go.Proofs.Ytbfpbkbhikogiab
