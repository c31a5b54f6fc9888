/-
  Dots and boxes: NetScore, both texts.
-/
import Derived.Test.YtincdnlinepcgabNr
namespace Go.Proofs.Ytincdnlinepcgab
open Go.RowKit Go.Maps
set_option linter.unusedVariables false

def giveC (w h E : Int) : Int := if okBox w h E = true then (if 12 < nfree w h E then 3 else 0) else 1
theorem giveC_ok {w h E : Int} (hg : giveC w h E = 0) : okBox w h E = true ∧ nfree w h E ≤ 12 := by
  unfold giveC at hg
  split at hg
  · rename_i h1
    split at hg
    · omega
    · exact ⟨h1, by omega⟩
  · omega

theorem table_new (w h E0 : Int) (a : Option Addr) (c nf : Nat) (W : World) (hnf : nf = (freeE w h E0).length) (hl : nf ≤ 12) :
    Calls Try.prog 30 #[.slice a nf c] W fun e W' => ∃ bK M, e = .returned (.slice (some ⟨bK, 0, none⟩) M M) ∧ M = 2 ^ nf ∧ Tab w h E0 W' bK ∧ W.heap.size ≤ bK ∧ Below W.heap.size W W' := by
  refine (table_any a c nf W hl).mono ?_
  rintro e W' ⟨rfl, h1, h2⟩
  exact ⟨_, _, rfl, rfl, ⟨_, h1, by rw [← hnf]; simp, Good.start _ _ _ _⟩, Nat.le_refl _, h2⟩
theorem search_new (W : World) : Calls Try.prog 32 #[] W fun e W' => ∃ b, e = .returned (.agg #[.map (some b)]) ∧ Knows W' b 0 ∧ W.heap.size ≤ b ∧ Below W.heap.size W W' := by
  have hmm := @run_makeMap Try.prog
  go_enter Try.func32, Try.ntmps32
  go_wp2_with fail
  obtain ⟨W1, hW1⟩ : ∃ W1, W1 = W.alloc (.cells #[.map (some (W.heap.size + 1))] 57) := ⟨_, rfl⟩
  have hB1 : Hid (Below W.heap.size W W1) := by rw [hW1]; exact hide (below_alloc _ _)
  have hs1 : W1.heap.size = W.heap.size + 1 := by rw [hW1]; simp
  have hr1 : Hid (W1.heap[W.heap.size]? = some (.cells #[.map (some (W.heap.size + 1))] 57 (0, 0))) := by rw [hW1]; exact hide (heap_alloc_new W _)
  rw [← hW1]
  clear hW1
  obtain ⟨W2, hW2⟩ : ∃ W2, W2 = W1.alloc (.map #[] 0) := ⟨_, rfl⟩
  have hB2 : Hid (Below W1.heap.size W1 W2) := by rw [hW2]; exact hide (below_alloc _ _)
  have hr2 := box_keep hr1.out hB2.out
  have hK2 : Hid (Knows W2 (W.heap.size + 1) 0) := by rw [hW2, ← hs1]; exact hide (Knows.made W1)
  rw [← hW2]
  clear hW2
  have c0 : W2.cell? ⟨W.heap.size, 0, none⟩ = some (.map (some (W.heap.size + 1))) := (cell_of_row _ _ 0 _ _ (0, 0) hr2).trans rfl
  exact bodyPost_ret (v := .agg #[.map (some (W.heap.size + 1))]) (by simp [results, Try.results32, go_sem, c0]) rfl ⟨_, rfl, hK2.out, by omega, Below.trans' hB1.out hB2.out⟩

set_option maxRecDepth 100000 in
set_option maxHeartbeats 4000000 in
theorem implGive_any (w h E : Int) (W : World) : Calls Try.prog 31 #[.agg #[.int .i64 w, .int .i64 h, .int .i64 E]] W (RetB (.int .i64 (giveC w h E)) W) := by
  obtain ⟨r, hr⟩ : ∃ r, r = giveC w h E := ⟨_, rfl⟩
  rw [← hr]
  unfold giveC at hr
  have hB0 := hide (below_alloc W (.cells #[.int .i64 w, .int .i64 h, .int .i64 E] 26))
  have hX0 := hide (boxIn_new W w h E 26)
  obtain ⟨W0, hW0⟩ : ∃ W0, W0 = W.alloc (.cells #[.int .i64 w, .int .i64 h, .int .i64 E] 26) := ⟨_, rfl⟩
  rw [← hW0] at hB0 hX0
  obtain ⟨c0, c1, c2⟩ := hX0.out
  cases hb : okBox w h E
  · have HR : Hid (r = 1) := hide (by rw [hr, hb]; rfl)
    have HB := hide hb
    clear hr hb
    go_enter Try.func31, Try.ntmps31
    go_wp2_with fail
    rw [← hW0]
    clear hW0
    go_wp2_with fail
    refine (implIs_any w h E _).mono ?_
    rw [HB.out]
    rintro e w1 ⟨rfl, hb1⟩
    have hB1 := hide (Below.trans' hB0.out hb1)
    clear hb1 c0 c1 c2
    go_wp2_with fail
    go_ret
    exact ⟨ret_int HR.out.symm, hB1.out⟩
  · rw [hb, if_pos rfl] at hr
    have HB := hide hb
    obtain ⟨n, hn⟩ : ∃ n, n = nfree w h E := ⟨_, rfl⟩
    obtain ⟨fr, hfr⟩ : ∃ fr, fr = freeE w h E := ⟨_, rfl⟩
    have hnl : Hid (n = fr.length) := hide (by rw [hn, hfr]; rfl)
    have HFR := hide hfr
    have hn24 : n ≤ 24 := by rw [hn]; exact freeE_le hb
    rw [← hn] at hr
    have HRR := hide hr
    clear hr hb hn hfr
    go_enter Try.func31, Try.ntmps31
    go_wp2_with fail
    rw [← hW0]
    clear hW0
    go_wp2_with fail
    refine (implIs_any w h E _).mono ?_
    rw [HB.out]
    rintro e w1 ⟨rfl, hb1⟩
    have hB1 := hide (Below.trans' hB0.out hb1)
    have hX1 := hide (hX0.out.keep hb1)
    clear hb1 c0 c1 c2
    obtain ⟨c0, c1, c2⟩ := hX1.out
    go_wp2_with fail
    refine (freeEdges_any w h E HB.out _).mono ?_
    rw [← HFR.out]
    rintro e w2 ⟨al, cl, rfl, hol, hb2⟩
    rw [← hnl.out]
    have hB2 := hide (Below.trans' hB1.out hb2)
    clear hb2 hol c0 c1 c2
    by_cases hl : 12 < n
    · have hr3 : Hid (r = 3) := hide (by rw [HRR.out, if_pos hl])
      go_wp2_with fail
      go_ret
      exact ⟨ret_int hr3.out.symm, hB2.out⟩
    · have hr0 : Hid (r = 0) := hide (by rw [HRR.out, if_neg hl])
      go_wp2_with fail
      go_ret
      exact ⟨ret_int hr0.out.symm, hB2.out⟩

set_option maxRecDepth 100000 in
set_option maxHeartbeats 4000000 in
theorem specGive_any (w h E : Int) (W : World) : Calls Try.prog 27 #[.agg #[.int .i64 w, .int .i64 h, .int .i64 E]] W (RetB (.int .i64 (giveC w h E)) W) := by
  obtain ⟨r, hr⟩ : ∃ r, r = giveC w h E := ⟨_, rfl⟩
  rw [← hr]
  unfold giveC at hr
  have hB0 := hide (below_alloc W (.cells #[.int .i64 w, .int .i64 h, .int .i64 E] 26))
  have hX0 := hide (boxIn_new W w h E 26)
  obtain ⟨W0, hW0⟩ : ∃ W0, W0 = W.alloc (.cells #[.int .i64 w, .int .i64 h, .int .i64 E] 26) := ⟨_, rfl⟩
  rw [← hW0] at hB0 hX0
  obtain ⟨c0, c1, c2⟩ := hX0.out
  cases hb : okBox w h E
  · have HR : Hid (r = 1) := hide (by rw [hr, hb]; rfl)
    have HB := hide hb
    clear hr hb
    go_enter Try.func27, Try.ntmps27
    go_wp2_with fail
    rw [← hW0]
    clear hW0
    go_wp2_with fail
    refine (specIs_any w h E _).mono ?_
    rw [HB.out]
    rintro e w1 ⟨rfl, hb1⟩
    have hB1 := hide (Below.trans' hB0.out hb1)
    clear hb1 c0 c1 c2
    go_wp2_with fail
    go_ret
    exact ⟨ret_int HR.out.symm, hB1.out⟩
  · rw [hb, if_pos rfl] at hr
    have HB := hide hb
    obtain ⟨n, hn⟩ : ∃ n, n = nfree w h E := ⟨_, rfl⟩
    obtain ⟨fr, hfr⟩ : ∃ fr, fr = freeE w h E := ⟨_, rfl⟩
    have hnl : Hid (n = fr.length) := hide (by rw [hn, hfr]; rfl)
    have HFR := hide hfr
    have hn24 : n ≤ 24 := by rw [hn]; exact freeE_le hb
    rw [← hn] at hr
    have HRR := hide hr
    clear hr hb hn hfr
    go_enter Try.func27, Try.ntmps27
    go_wp2_with fail
    rw [← hW0]
    clear hW0
    go_wp2_with fail
    refine (specIs_any w h E _).mono ?_
    rw [HB.out]
    rintro e w1 ⟨rfl, hb1⟩
    have hB1 := hide (Below.trans' hB0.out hb1)
    have hX1 := hide (hX0.out.keep hb1)
    clear hb1 c0 c1 c2
    obtain ⟨c0, c1, c2⟩ := hX1.out
    go_wp2_with fail
    refine (specFree_any w h E HB.out _).mono ?_
    rw [← HFR.out]
    rintro e w2 ⟨al, cl, rfl, hol, hb2⟩
    rw [← hnl.out]
    have hB2 := hide (Below.trans' hB1.out hb2)
    clear hb2 hol c0 c1 c2
    by_cases hl : 12 < n
    · have hr3 : Hid (r = 3) := hide (by rw [HRR.out, if_pos hl])
      go_wp2_with fail
      go_ret
      exact ⟨ret_int hr3.out.symm, hB2.out⟩
    · have hr0 : Hid (r = 0) := hide (by rw [HRR.out, if_neg hl])
      go_wp2_with fail
      go_ret
      exact ⟨ret_int hr0.out.symm, hB2.out⟩

theorem own_lt {w : World} {B c : Nat} {a : Option Addr} {k : Nat} {vs : List Value} {e : TypeId} (h : w.ownsRow B e 1 (.slice a k c) k vs) : ∀ g off, a = some ⟨g, off, none⟩ → g < w.heap.size := by
  intro g off ha
  rcases h.2 with ⟨hv, _⟩ | ⟨g', cap, cur, hv, hg, hr, _⟩
  · simp at hv
    rw [hv.1] at ha
    cases ha
  · simp only [Value.slice.injEq] at hv
    rw [hv.1] at ha
    simp at ha
    have := block_lt hr
    omega

def netV (w h E : Int) : Int := if giveC w h E = 0 then net w h E else 0
theorem giveC_cases (w h E : Int) : giveC w h E = 0 ∨ giveC w h E = 1 ∨ giveC w h E = 3 := by
  unfold giveC
  split
  · split <;> simp
  · simp
theorem calls_twelve {n : Nat} (h : n ≤ 12) : calls n ≤ 2000000000 := Nat.le_trans (calls_mono h) calls12

set_option maxRecDepth 100000 in
set_option maxHeartbeats 4000000 in
theorem implNet_any (w h E : Int) (W : World) : Calls Try.prog 9 #[.agg #[.int .i64 w, .int .i64 h, .int .i64 E]] W (RetB (.tuple #[.int .i64 (netV w h E), .int .i64 (giveC w h E)]) W) := by
  obtain ⟨v, hv⟩ : ∃ v, v = netV w h E := ⟨_, rfl⟩
  obtain ⟨c, hc⟩ : ∃ c, c = giveC w h E := ⟨_, rfl⟩
  have hcc := giveC_cases w h E
  rw [← hc] at hcc
  rw [← hv, ← hc]
  unfold netV at hv
  rw [← hc] at hv
  have hrow0 := hide (heap_alloc_new W (.cells #[.int .i64 w, .int .i64 h, .int .i64 E] 26 (0, 0)))
  have hB0 := hide (below_alloc W (.cells #[.int .i64 w, .int .i64 h, .int .i64 E] 26))
  obtain ⟨W0, hW0⟩ : ∃ W0, W0 = W.alloc (.cells #[.int .i64 w, .int .i64 h, .int .i64 E] 26) := ⟨_, rfl⟩
  rw [← hW0] at hB0 hrow0
  have hs0 : Hid (W.heap.size < W0.heap.size) := by rw [hW0]; exact hide (by simp)
  obtain ⟨c0, c1, c2⟩ := boxIn_of_row hrow0.out
  have HC := hide hc
  have HV := hide hv
  clear hc hv
  go_enter Try.func9, Try.ntmps9
  go_wp2_with fail
  rw [← hW0]
  clear hW0
  go_wp2_with fail
  refine (implGive_any w h E _).mono ?_
  rw [← HC.out]
  rintro e w1 ⟨rfl, hb1⟩
  have hB1 := hide (Below.trans' hB0.out hb1)
  have hrow1 := hide (box_keep hrow0.out hb1)
  have hs1 := hide (Nat.lt_of_lt_of_le hs0.out hb1.size)
  clear hb1 c0 c1 c2
  by_cases hc0 : c = 0
  · have hv := HV.out
    rw [if_pos hc0] at hv
    have hgk := giveC_ok (HC.out.symm.trans hc0)
    have HB := hide hgk.1
    have HN := hide hgk.2
    have HVV := hide hv
    subst hc0
    clear hgk hv hcc HV
    have hd6 : Below w1.heap.size w1 w1.drew := Below.drew (Below.refl _ _)
    obtain ⟨c0, c1, c2⟩ := boxIn_of_row (box_keep hrow1.out hd6)
    have hB6 := hide (Below.trans' hB1.out hd6)
    have hs6 : Hid (W.heap.size < w1.drew.heap.size) := hide hs1.out
    clear hd6
    go_wp2_with fail
    go_region_held3 (fun W' => W'.cell? ⟨W.heap.size, 0, none⟩ = some (.int .i64 w) ∧ W'.cell? ⟨W.heap.size, 1, none⟩ = some (.int .i64 h) ∧ W'.cell? ⟨W.heap.size, 2, none⟩ = some (.int .i64 E))
      (first | exact ⟨d0, d1, d2⟩ | exact ⟨a0, a1, a2⟩ | exact ⟨c0, c1, c2⟩)
      (first | (go_at_call 32; refine (search_new _).mono ?_; rintro e1 w3 ⟨b, rfl, hk3, hbb, hb3⟩; have a0 := cell_keep hb3 c0; have a1 := cell_keep hb3 c1; have a2 := cell_keep hb3 c2; have hne : W.heap.size ≠ b := (by have := hs6.out; omega); have HK3 := hide hk3; have HB3 := hide hb3; have HBB := hide hbb; clear hk3 hb3 hbb) | (go_at_call 33; refine (netScore_any (nfree w h E) w h E b 0 _ HB.out (Nat.le_refl _) HK3.out (by have := calls_twelve HN.out; omega)).mono ?_; rw [← HVV.out]; rintro e1 w4 ⟨rfl, hb4, hk4⟩; have d0 := hb4.cell a0 hne; have d1 := hb4.cell a1 hne; have d2 := hb4.cell a2 hne; have HB4 := hide hb4; clear hb4 hk4))
    have hfin : Hid (Below W.heap.size W w4) := hide ((Below.trans' hB6.out HB3.out).trans ((HB4.out.old (Nat.le_of_lt HK3.out.lt)).mono (by have := HBB.out; have := hs6.out; omega)))
    go_wp2_with fail
    go_ret2
    exact ⟨rfl, hfin.out⟩
  · have hv := HV.out
    rw [if_neg hc0] at hv
    subst hv
    go_wp2_with fail
    go_ret2
    exact ⟨rfl, hB1.out⟩

set_option maxRecDepth 100000 in
set_option maxHeartbeats 4000000 in
theorem specNet_any (w h E : Int) (W : World) : Calls Try.prog 7 #[.agg #[.int .i64 w, .int .i64 h, .int .i64 E]] W (RetB (.tuple #[.int .i64 (netV w h E), .int .i64 (giveC w h E)]) W) := by
  obtain ⟨v, hv⟩ : ∃ v, v = netV w h E := ⟨_, rfl⟩
  obtain ⟨c, hc⟩ : ∃ c, c = giveC w h E := ⟨_, rfl⟩
  have hcc := giveC_cases w h E
  rw [← hc] at hcc
  rw [← hv, ← hc]
  unfold netV at hv
  rw [← hc] at hv
  have hrow0 := hide (heap_alloc_new W (.cells #[.int .i64 w, .int .i64 h, .int .i64 E] 26 (0, 0)))
  have hB0 := hide (below_alloc W (.cells #[.int .i64 w, .int .i64 h, .int .i64 E] 26))
  obtain ⟨W0, hW0⟩ : ∃ W0, W0 = W.alloc (.cells #[.int .i64 w, .int .i64 h, .int .i64 E] 26) := ⟨_, rfl⟩
  rw [← hW0] at hB0 hrow0
  have hs0 : Hid (W.heap.size < W0.heap.size) := by rw [hW0]; exact hide (by simp)
  obtain ⟨c0, c1, c2⟩ := boxIn_of_row hrow0.out
  have HC := hide hc
  have HV := hide hv
  clear hc hv
  go_enter Try.func7, Try.ntmps7
  go_wp2_with fail
  rw [← hW0]
  clear hW0
  go_wp2_with fail
  refine (specGive_any w h E _).mono ?_
  rw [← HC.out]
  rintro e w1 ⟨rfl, hb1⟩
  have hB1 := hide (Below.trans' hB0.out hb1)
  have hrow1 := hide (box_keep hrow0.out hb1)
  have hs1 := hide (Nat.lt_of_lt_of_le hs0.out hb1.size)
  clear hb1 c0 c1 c2
  by_cases hc0 : c = 0
  · have hv := HV.out
    rw [if_pos hc0] at hv
    have hgk := giveC_ok (HC.out.symm.trans hc0)
    have HB := hide hgk.1
    have HVV := hide hv
    obtain ⟨n, hn⟩ : ∃ n, n = nfree w h E := ⟨_, rfl⟩
    have hn12 : n ≤ 12 := by rw [hn]; exact hgk.2
    have hnl : Hid (n = (freeE w h E).length) := hide hn
    subst hc0
    clear hgk hv hcc HV hn
    obtain ⟨c0, c1, c2⟩ := boxIn_of_row hrow1.out
    go_wp2_with fail
    refine (specFree_any w h E HB.out _).mono ?_
    rintro e w2 ⟨al, cl, rfl, hol, hb2⟩
    rw [← hnl.out]
    have hl2 := intsAt_of_ownsRow hol
    have hB2 := hide (Below.trans' hB1.out hb2)
    have hrow2 := hide (box_keep hrow1.out hb2)
    have hs2 := hide (Nat.lt_of_lt_of_le hs1.out hb2.size)
    have hd6 : Below w2.heap.size w2 w2.drew := Below.drew (Below.refl _ _)
    have hl6 := hide (hl2.keep hd6)
    have hal : Hid (∀ g off, al = some ⟨g, off, none⟩ → g < w2.drew.heap.size) := hide (own_lt hol)
    clear hb2 hol c0 c1 c2 hl2
    obtain ⟨c0, c1, c2⟩ := boxIn_of_row (box_keep hrow2.out hd6)
    have hB6 := hide (Below.trans' hB2.out hd6)
    have hs6 : Hid (W.heap.size < w2.drew.heap.size) := hide hs2.out
    clear hd6
    go_wp2_with fail
    go_region_held3 (fun W' => W'.cell? ⟨W.heap.size, 0, none⟩ = some (.int .i64 w) ∧ W'.cell? ⟨W.heap.size, 1, none⟩ = some (.int .i64 h) ∧ W'.cell? ⟨W.heap.size, 2, none⟩ = some (.int .i64 E))
      (first | exact ⟨d0, d1, d2⟩ | exact ⟨a0, a1, a2⟩ | exact ⟨c0, c1, c2⟩)
      (first | (go_at_call 30; refine (table_new w h E al cl n _ hnl.out hn12).mono ?_; rintro e1 w3 ⟨bK, M, rfl, hM, hT3, hbb, hb3⟩; have a0 := cell_keep hb3 c0; have a1 := cell_keep hb3 c1; have a2 := cell_keep hb3 c2; have hne : W.heap.size ≠ bK := (by have := hs6.out; omega); have HT3 := hide hT3; have HB3 := hide hb3; have HBB := hide hbb; have HM := hide hM; clear hM hT3 hb3 hbb) | (go_at_call 29; refine (specScore_any w h E al cl n M bK HB.out hnl.out hn12 HM.out (fun g off ha hgb => by have h1 := hal.out g off ha; have h2 := HBB.out; omega) (nfree w h E) E _ HB.out (Ext.refl _) (Nat.le_refl _) (hl6.out.keep HB3.out) HT3.out).mono ?_; rw [← HVV.out]; rintro e1 w4 ⟨rfl, hb4, hk4⟩; have d0 := hb4.cell a0 hne; have d1 := hb4.cell a1 hne; have d2 := hb4.cell a2 hne; have HB4 := hide hb4; clear hb4 hk4))
    have hfin : Hid (Below W.heap.size W w4) := hide ((Below.trans' hB6.out HB3.out).trans ((HB4.out.old (Nat.le_of_lt HT3.out.lt)).mono (by have := HBB.out; have := hs6.out; omega)))
    go_wp2_with fail
    go_ret2
    exact ⟨rfl, hfin.out⟩
  · have hv := HV.out
    rw [if_neg hc0] at hv
    subst hv
    go_wp2_with fail
    go_ret2
    exact ⟨rfl, hB1.out⟩
def netR (w h E : Int) : Int × Int := (netV w h E, giveC w h E)
theorem implNetE_any (w h E : Int) (W : World) : Calls Try.prog 9 #[.agg #[.int .i64 w, .int .i64 h, .int .i64 E]] W (RetB (.tuple #[.int .i64 (netR w h E).1, .int .i64 (netR w h E).2]) W) := implNet_any w h E W
theorem specNetE_any (w h E : Int) (W : World) : Calls Try.prog 7 #[.agg #[.int .i64 w, .int .i64 h, .int .i64 E]] W (RetB (.tuple #[.int .i64 (netR w h E).1, .int .i64 (netR w h E).2]) W) := specNet_any w h E W
end Go.Proofs.Ytincdnlinepcgab
