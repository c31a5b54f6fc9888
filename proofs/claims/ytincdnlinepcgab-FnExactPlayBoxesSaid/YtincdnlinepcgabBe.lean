/-
  Dots and boxes: BestEdges, both texts.
-/
import Derived.Test.YtincdnlinepcgabIb
import Derived.Test.YtincdnlinepcgabSb
namespace Go.Proofs.Ytincdnlinepcgab
open Go.RowKit Go.Maps
set_option linter.unusedVariables false

def bestR (w h E : Int) : List Int × Int := (if giveC w h E = 0 then bestL w h E else [], giveC w h E)
theorem budget {n : Nat} (h : n ≤ 12) : 0 + n * (2 * calls n) ≤ 1000000000000 := by
  have h1 := calls_twelve h
  have h2 : n * (2 * calls n) ≤ 12 * (2 * calls n) := Nat.mul_le_mul_right _ h
  omega
theorem bestR_le (w h E : Int) : (bestR w h E).1.length ≤ 1048576 := by
  unfold bestR
  dsimp only
  split
  · rename_i hg
    have h1 := freeE_le (giveC_ok hg).1
    have h2 : (bestL w h E).length ≤ (freeE w h E).length := List.length_filter_le _ _
    omega
  · simp

set_option maxRecDepth 100000 in
set_option maxHeartbeats 4000000 in
theorem implBestE_any (w h E : Int) (W : World) : Calls Try.prog 11 #[.agg #[.int .i64 w, .int .i64 h, .int .i64 E]] W (NewList (bestR w h E) W) := by
  obtain ⟨c, hc⟩ : ∃ c, c = giveC w h E := ⟨_, rfl⟩
  have hcc := giveC_cases w h E
  rw [← hc] at hcc
  obtain ⟨r, hr⟩ : ∃ r, r = bestR w h E := ⟨_, rfl⟩
  rw [← hr]
  unfold bestR at hr
  rw [← hc] at hr
  have hrow0 := hide (heap_alloc_new W (.cells #[.int .i64 w, .int .i64 h, .int .i64 E] 26 (0, 0)))
  have hB0 := hide (below_alloc W (.cells #[.int .i64 w, .int .i64 h, .int .i64 E] 26))
  obtain ⟨W0, hW0⟩ : ∃ W0, W0 = W.alloc (.cells #[.int .i64 w, .int .i64 h, .int .i64 E] 26) := ⟨_, rfl⟩
  rw [← hW0] at hB0 hrow0
  have hs0 : Hid (W.heap.size < W0.heap.size) := by rw [hW0]; exact hide (by simp)
  obtain ⟨c0, c1, c2⟩ := boxIn_of_row hrow0.out
  have HC := hide hc
  have HR := hide hr
  clear hc hr
  go_enter Try.func11, Try.ntmps11
  go_wp2_with fail
  rw [← hW0]
  clear hW0
  go_wp2_with fail
  refine (implGive_any w h E _).mono ?_
  rw [← HC.out]
  rintro e w1 ⟨rfl, hb1⟩
  have hB1 := hide (Below.trans' hB0.out hb1)
  have hrow1 := hide (box_keep hrow0.out hb1)
  have hs1 := hide (Nat.lt_of_lt_of_le hs0.out hb1.size)
  clear hb1 c0 c1 c2
  by_cases hc0 : c = 0
  · have HRR : Hid (r = (bestL w h E, 0)) := hide (by rw [HR.out, if_pos hc0, hc0])
    clear HR
    have hgk := giveC_ok (HC.out.symm.trans hc0)
    have HB := hide hgk.1
    have HN := hide hgk.2
    subst hc0
    clear hgk hcc
    have hd6 : Below w1.heap.size w1 w1.drew := Below.drew (Below.refl _ _)
    obtain ⟨c0, c1, c2⟩ := boxIn_of_row (box_keep hrow1.out hd6)
    have hB6 := hide (Below.trans' hB1.out hd6)
    have hs6 : Hid (W.heap.size < w1.drew.heap.size) := hide hs1.out
    clear hd6
    go_wp2_with fail
    go_region_held3 (fun W' => W'.cell? ⟨W.heap.size, 0, none⟩ = some (.int .i64 w) ∧ W'.cell? ⟨W.heap.size, 1, none⟩ = some (.int .i64 h) ∧ W'.cell? ⟨W.heap.size, 2, none⟩ = some (.int .i64 E))
      (first | exact ⟨d0, d1, d2⟩ | exact ⟨a0, a1, a2⟩ | exact ⟨c0, c1, c2⟩)
      (first | (go_at_call 32; refine (search_new _).mono ?_; rintro e1 w3 ⟨b, rfl, hk3, hbb, hb3⟩; have a0 := cell_keep hb3 c0; have a1 := cell_keep hb3 c1; have a2 := cell_keep hb3 c2; have hne : W.heap.size ≠ b := (by have := hs6.out; omega); have HK3 := hide hk3; have HB3 := hide hb3; have HBB := hide hbb; clear hk3 hb3 hbb) | (go_at_call 35; refine (implBest_any w h E b 0 _ HB.out HN.out HK3.out (budget HN.out)).mono ?_; rintro e1 w4 ⟨⟨ag, cg, rfl, hog, hb4⟩, hk4⟩; have HOG := hide hog; have d0 := hb4.cell a0 hne; have d1 := hb4.cell a1 hne; have d2 := hb4.cell a2 hne; have HB4 := hide hb4; clear hb4 hk4))
    have hfin : Hid (Below W.heap.size W w4) := hide ((Below.trans' hB6.out HB3.out).trans ((HB4.out.old (Nat.le_of_lt HK3.out.lt)).mono (by have := HBB.out; have := hs6.out; omega)))
    go_wp2_with fail
    go_ret2
    rw [HRR.out]
    exact ⟨ag, cg, rfl, ownsRow_base HOG.out (by have := HB3.out.size; have := hs6.out; omega), hfin.out⟩
  · have HRR : Hid (r = ([], c)) := hide (by rw [HR.out, if_neg hc0])
    clear HR
    go_wp2_with fail
    go_ret2
    rw [HRR.out]
    exact ⟨_, _, rfl, World.ownsRow_nil _ _ _ _, hB1.out⟩

set_option maxRecDepth 100000 in
set_option maxHeartbeats 4000000 in
theorem specBestE_any (w h E : Int) (W : World) : Calls Try.prog 10 #[.agg #[.int .i64 w, .int .i64 h, .int .i64 E]] W (NewList (bestR w h E) W) := by
  obtain ⟨c, hc⟩ : ∃ c, c = giveC w h E := ⟨_, rfl⟩
  have hcc := giveC_cases w h E
  rw [← hc] at hcc
  obtain ⟨r, hr⟩ : ∃ r, r = bestR w h E := ⟨_, rfl⟩
  rw [← hr]
  unfold bestR at hr
  rw [← hc] at hr
  have hrow0 := hide (heap_alloc_new W (.cells #[.int .i64 w, .int .i64 h, .int .i64 E] 26 (0, 0)))
  have hB0 := hide (below_alloc W (.cells #[.int .i64 w, .int .i64 h, .int .i64 E] 26))
  obtain ⟨W0, hW0⟩ : ∃ W0, W0 = W.alloc (.cells #[.int .i64 w, .int .i64 h, .int .i64 E] 26) := ⟨_, rfl⟩
  rw [← hW0] at hB0 hrow0
  have hs0 : Hid (W.heap.size < W0.heap.size) := by rw [hW0]; exact hide (by simp)
  obtain ⟨c0, c1, c2⟩ := boxIn_of_row hrow0.out
  have HC := hide hc
  have HR := hide hr
  clear hc hr
  go_enter Try.func10, Try.ntmps10
  go_wp2_with fail
  rw [← hW0]
  clear hW0
  go_wp2_with fail
  refine (specGive_any w h E _).mono ?_
  rw [← HC.out]
  rintro e w1 ⟨rfl, hb1⟩
  have hB1 := hide (Below.trans' hB0.out hb1)
  have hrow1 := hide (box_keep hrow0.out hb1)
  have hs1 := hide (Nat.lt_of_lt_of_le hs0.out hb1.size)
  clear hb1 c0 c1 c2
  by_cases hc0 : c = 0
  · have HRR : Hid (r = (bestL w h E, 0)) := hide (by rw [HR.out, if_pos hc0, hc0])
    clear HR
    have hgk := giveC_ok (HC.out.symm.trans hc0)
    have HB := hide hgk.1
    obtain ⟨n, hn⟩ : ∃ n, n = nfree w h E := ⟨_, rfl⟩
    have hn12 : n ≤ 12 := by rw [hn]; exact hgk.2
    have hnl : Hid (n = (freeE w h E).length) := hide hn
    subst hc0
    clear hgk hcc hn
    obtain ⟨c0, c1, c2⟩ := boxIn_of_row hrow1.out
    go_wp2_with fail
    refine (specFree_any w h E HB.out _).mono ?_
    rintro e w2 ⟨al, cl, rfl, hol, hb2⟩
    rw [← hnl.out]
    have hl2 := intsAt_of_ownsRow hol
    have hB2 := hide (Below.trans' hB1.out hb2)
    have hrow2 := hide (box_keep hrow1.out hb2)
    have hs2 := hide (Nat.lt_of_lt_of_le hs1.out hb2.size)
    have hd6 : Below w2.heap.size w2 w2.drew := Below.drew (Below.refl _ _)
    have hl6 := hide (hl2.keep hd6)
    have hal : Hid (∀ g off, al = some ⟨g, off, none⟩ → g < w2.drew.heap.size) := hide (own_lt hol)
    clear hb2 hol c0 c1 c2 hl2
    obtain ⟨c0, c1, c2⟩ := boxIn_of_row (box_keep hrow2.out hd6)
    have hB6 := hide (Below.trans' hB2.out hd6)
    have hs6 : Hid (W.heap.size < w2.drew.heap.size) := hide hs2.out
    clear hd6
    go_wp2_with fail
    go_region_held3 (fun W' => W'.cell? ⟨W.heap.size, 0, none⟩ = some (.int .i64 w) ∧ W'.cell? ⟨W.heap.size, 1, none⟩ = some (.int .i64 h) ∧ W'.cell? ⟨W.heap.size, 2, none⟩ = some (.int .i64 E))
      (first | exact ⟨d0, d1, d2⟩ | exact ⟨a0, a1, a2⟩ | exact ⟨c0, c1, c2⟩)
      (first | (go_at_call 30; refine (table_new w h E al cl n _ hnl.out hn12).mono ?_; rintro e1 w3 ⟨bK, M, rfl, hM, hT3, hbb, hb3⟩; have a0 := cell_keep hb3 c0; have a1 := cell_keep hb3 c1; have a2 := cell_keep hb3 c2; have hne : W.heap.size ≠ bK := (by have := hs6.out; omega); have HT3 := hide hT3; have HB3 := hide hb3; have HBB := hide hbb; have HM := hide hM; clear hM hT3 hb3 hbb) | (go_at_call 34; refine (specBest_any w h E E al cl n M bK _ HB.out HB.out (Ext.refl _) hnl.out hn12 HM.out (hl6.out.keep HB3.out) (fun g off ha => by have h1 := hal.out g off ha; have h2 := HBB.out; have h3 := HB3.out.size; omega) HT3.out).mono ?_; rintro e1 w4 ⟨⟨ag, cg, rfl, hog, hb4⟩, hk4⟩; have HOG := hide hog; have d0 := hb4.cell a0 hne; have d1 := hb4.cell a1 hne; have d2 := hb4.cell a2 hne; have HB4 := hide hb4; clear hb4 hk4))
    have hfin : Hid (Below W.heap.size W w4) := hide ((Below.trans' hB6.out HB3.out).trans ((HB4.out.old (Nat.le_of_lt HT3.out.lt)).mono (by have := HBB.out; have := hs6.out; omega)))
    go_wp2_with fail
    go_ret2
    rw [HRR.out]
    exact ⟨ag, cg, rfl, ownsRow_base HOG.out (by have := HB3.out.size; have := hs6.out; omega), hfin.out⟩
  · have HRR : Hid (r = ([], c)) := hide (by rw [HR.out, if_neg hc0])
    clear HR
    go_wp2_with fail
    go_ret2
    rw [HRR.out]
    exact ⟨_, _, rfl, World.ownsRow_nil _ _ _ _, hB1.out⟩
end Go.Proofs.Ytincdnlinepcgab
