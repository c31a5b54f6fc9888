/-
  Ends of dots and boxes: slices.MinFunc at strands, with a function value that keeps a map; slices.Max and slices.Index at numbers.
-/
import Derived.Test.YtbfpbkbhikogiabTp
import Derived.Test.YtbfpbkbhikogiabKt
import Derived.Test.YtbfpbkbhikogiabPb
namespace Go.Proofs.Ytbfpbkbhikogiab
open Go.RowKit
set_option linter.unusedVariables false

set_option maxRecDepth 100000 in
theorem nan_any (x : Int) (W : World) : Calls Try.prog 26 #[.int .i64 x] W (RetB (.bool false) W) := by
  go_enter Try.func26, Try.ntmps26
  go_wp2_with fail
  go_ret
  exact ⟨rfl, Below.refl _ _⟩
def cmpI (x y : Int) : Int := if x < y then -1 else if y < x then 1 else 0
theorem cmpI_lt {x y : Int} (h : x < y) : cmpI x y = -1 := if_pos h
theorem cmpI_ge {x y : Int} (h : ¬ x < y) : 0 ≤ cmpI x y ∧ cmpI x y ≤ 1 := by unfold cmpI; rw [if_neg h]; split <;> omega
set_option maxRecDepth 100000 in
set_option maxHeartbeats 2000000 in
theorem compare_any (x y : Int) (W : World) : Calls Try.prog 19 #[.int .i64 x, .int .i64 y] W (RetB (.int .i64 (cmpI x y)) W) := by
  obtain ⟨r, hr⟩ : ∃ r, r = cmpI x y := ⟨_, rfl⟩
  rw [← hr]
  unfold cmpI at hr
  have HR := hide hr
  clear hr
  go_enter Try.func19, Try.ntmps19
  go_wp2_with fail
  refine (nan_any x _).mono ?_
  rintro e w1 ⟨rfl, hb1⟩
  have hB1 := hide hb1
  clear hb1
  go_wp2_with fail
  refine (nan_any y _).mono ?_
  rintro e w2 ⟨rfl, hb2⟩
  have hB2 := hide (Below.trans' hB1.out hb2)
  clear hb2
  by_cases h1 : x < y
  · have hrt : Hid (r = -1) := hide (by rw [HR.out, if_pos h1])
    go_wp2_with fail
    go_ret
    exact ⟨by rw [hrt.out]; rfl, hB2.out⟩
  · by_cases h2 : y < x
    · have hrt : Hid (r = 1) := hide (by rw [HR.out, if_neg h1, if_pos h2])
      go_wp2_with fail
      go_ret
      exact ⟨by rw [hrt.out]; rfl, hB2.out⟩
    · have hrt : Hid (r = 0) := hide (by rw [HR.out, if_neg h1, if_neg h2])
      go_wp2_with fail
      go_ret
      exact ⟨by rw [hrt.out]; rfl, hB2.out⟩

theorem box_set2'' {w : World} {b : Nat} {x y x' y' : Value} {t : TypeId} (h : w.heap[b]? = some (.cells #[x, y] t (0, 0))) :
    ((w.setCell ⟨b, 0, none⟩ x').setCell ⟨b, 1, none⟩ y').heap[b]? = some (.cells #[x', y'] t (0, 0)) := box_set2' h
/-- A map's block is no row. -/
theorem knows_far {w : World} {b g o : Nat} {v : Value} (h : KnowsT b w) (hc : w.cell? ⟨g, o, none⟩ = some v) : g ≠ b := by
  rintro rfl
  obtain ⟨n, D, ⟨es, clock, hm, _⟩, _⟩ := h
  simp [World.cell?, hm] at hc
theorem knows_row {w : World} {b g : Nat} {cs : Array Value} {t : TypeId} {fr : Nat × Nat} (h : KnowsT b w) (hc : w.heap[g]? = some (.cells cs t fr)) : g ≠ b := by
  rintro rfl
  obtain ⟨n, D, ⟨es, clock, hm, _⟩, _⟩ := h
  rw [hm] at hc
  cases hc

/-- What the closure of the best opening captures. -/
def cmpV (B2 B3 : Nat) : Value := .func (.func 33) #[] #[.pointer (some ⟨B2, 0, none⟩), .pointer (some ⟨B3, 0, none⟩)]

set_option maxRecDepth 100000 in
set_option maxHeartbeats 4000000 in
theorem minS_any (bm B2 B3 : Nat) (t : Nat → Int) (ps : List Nat) (a : Option Addr) (c : Nat) (W : World) (hs : SliceS W a (ps.map stP)) (hne : 0 < ps.length) (hl : ps.length ≤ 62) (hK : KnowsT bm W)
    (hC : ∀ x ∈ ps, ∀ y ∈ ps, ∀ W' : World, But bm W W' → KnowsT bm W' → Calls Try.prog 33 #[.agg #[.int .i64 (knd x), .int .i64 (bxs x)], .agg #[.int .i64 (knd y), .int .i64 (bxs y)], .pointer (some ⟨B2, 0, none⟩), .pointer (some ⟨B3, 0, none⟩)] W' (RetK bm (KnowsT bm) (.int .i64 (cmpI (t x) (t y))) W')) :
    Calls Try.prog 31 #[.slice a ps.length c, .func (.func 33) #[] #[.pointer (some ⟨B2, 0, none⟩), .pointer (some ⟨B3, 0, none⟩)]] W
      (fun e W' => ∃ m : Nat, e = .returned (.agg #[.int .i64 (knd m), .int .i64 (bxs m)]) ∧ bst t ps = some m ∧ But bm W W' ∧ KnowsT bm W') := by
  obtain ⟨n, hn⟩ : ∃ n, n = ps.length := ⟨_, rfl⟩
  rw [← hn] at hl hne ⊢
  have HN := hide hn
  obtain ⟨z, hz⟩ : ∃ z, ps[0]? = some z := ⟨_, List.getElem?_eq_getElem (by rw [← hn]; exact hne)⟩
  have HZ := hide hz
  have hlen : 0 < (ps.map stP).length := by rw [List.length_map, ← hn]; exact hne
  obtain ⟨g, rfl, hat⟩ := hs (by intro e; rw [e] at hlen; simp at hlen)
  have hzs : (ps.map stP)[0]? = some (stP z) := by rw [List.getElem?_map, hz]; rfl
  obtain ⟨d0, d1⟩ := (hat.keep (below_alloc W (.cells #[.int .i64 0, .int .i64 0] 55))) 0 _ hzs
  rw [Nat.zero_mul] at d0
  rw [show 0 * 2 + 1 = 1 by rfl] at d1
  have hgb := knows_far hK (hat 0 _ hzs).1
  have hgl : g < W.heap.size := World.block_lt_of_cell? W _ (hat 0 _ hzs).1
  obtain ⟨z1, hz1⟩ : ∃ z1, z1 = knd z := ⟨_, rfl⟩
  obtain ⟨z2, hz2⟩ : ∃ z2, z2 = bxs z := ⟨_, rfl⟩
  simp only [stP] at d0 d1
  rw [← hz1] at d0
  rw [← hz2] at d1
  have HZ12 := hide (And.intro hz1 hz2)
  obtain ⟨W0, hW0⟩ : ∃ W0, W0 = (W.alloc (.cells #[.int .i64 0, .int .i64 0] 55)).alloc (.cells #[.int .i64 z1, .int .i64 z2] 55) := ⟨_, rfl⟩
  have hB0 : Hid (Below W.heap.size W W0) := by rw [hW0]; exact hide ((below_alloc _ _).alloc (by simp) _)
  have hs0 : Hid (W0.heap.size = W.heap.size + 2) := by rw [hW0]; exact hide (by simp)
  have hrz : Hid (W0.heap[W.heap.size]? = some (.cells #[.int .i64 0, .int .i64 0] 55 (0, 0))) := by
    rw [hW0, Below.heap_alloc _ _ _ (by simp)]
    exact hide (heap_alloc_new W _)
  have hrm : Hid (W0.heap[W.heap.size + 1]? = some (.cells #[.int .i64 (knd z), .int .i64 (bxs z)] 55 (0, 0))) := by
    have := heap_alloc_new (W.alloc (.cells #[.int .i64 0, .int .i64 0] 55)) (.cells #[.int .i64 z1, .int .i64 z2] 55 (0, 0))
    rw [hW0, ← hz1, ← hz2]
    exact hide (by simpa using this)
  have hbm : bm < W.heap.size := hK.lt
  have HAT := hide hat
  have K0 := hide (hK.keep hB0.out)
  have HC := hide hC
  clear hs hn hz hlen hzs hz1 hz2 hat hK hC
  have hn1 : ¬ ((n : Int) < 1) := by omega
  go_enter Try.func31, Try.ntmps31
  go_wp2_with fail
  rw [← hW0]
  clear hW0 d0 d1 hn1
  go_loopg [6] (n - 1) (fun g2 i wr => ∃ (k : Nat) (m : Nat), k + g2 = n ∧ i = .int .i64 k ∧ 1 ≤ k ∧ wr.heap[W.heap.size]? = some (.cells #[.int .i64 0, .int .i64 0] 55 (0, 0)) ∧ wr.heap[W.heap.size + 1]? = some (.cells #[.int .i64 (knd m), .int .i64 (bxs m)] 55 (0, 0)) ∧ Hid (bst t (ps.take k) = some m) ∧ But bm W wr ∧ KnowsT bm wr)
  case atStart => exact ⟨1, z, by omega, rfl, Nat.le_refl _, hrz.out, hrm.out, hide (by
    have hz1 : ps.take 1 = [z] := by rw [List.take_add_one, HZ.out]; simp
    rw [hz1]
    rfl), But.of_below hB0.out, K0.out⟩
  case round =>
    obtain ⟨k, m, hk, rfl, hk1, hz', hm', hbst, hB, hK⟩ := hrel
    have HBW := hide hB
    have HZ' := hide hz'
    have HM' := hide hm'
    have HK := hide hK
    cases gk with
    | zero =>
      obtain rfl : k = n := by omega
      obtain ⟨d0, d1, f0, f1⟩ := row2' hz'
      obtain ⟨c0, c1, _⟩ := row2' hm'
      have hfin : Hid (bst t ps = some m ∧ But bm W ((wr.setCell ⟨W.heap.size, 0, none⟩ (.int .i64 (knd m))).setCell ⟨W.heap.size, 1, none⟩ (.int .i64 (bxs m))) ∧ KnowsT bm ((wr.setCell ⟨W.heap.size, 0, none⟩ (.int .i64 (knd m))).setCell ⟨W.heap.size, 1, none⟩ (.int .i64 (bxs m)))) := hide
        ⟨by have := hbst.out; rw [HN.out, List.take_length] at this; exact this, (hB.setNew (Nat.le_refl _) _ _).setNew (Nat.le_refl _) _ _, hK.block ((Below.heap_setCell _ _ _ _ (by show bm ≠ W.heap.size; omega)).trans (Below.heap_setCell _ _ _ _ (by show bm ≠ W.heap.size; omega)))⟩
      have hr4 := hide (box_set2' (x' := .int .i64 (knd m)) (y' := .int .i64 (bxs m)) hz')
      obtain ⟨m1, hm1⟩ : ∃ m1, m1 = knd m := ⟨_, rfl⟩
      obtain ⟨m2, hm2⟩ : ∃ m2, m2 = bxs m := ⟨_, rfl⟩
      rw [← hm1] at c0 hfin hr4
      rw [← hm2] at c1 hfin hr4
      have HM12 := hide (And.intro hm1 hm2)
      clear hz' hm' hB hK hm1 hm2
      go_wp2_with fail
      obtain ⟨j0, j1, _⟩ := row2' hr4.out
      exact bodyPost_ret (v := .agg #[.int .i64 m1, .int .i64 m2]) (by simp [results, Try.results31, go_sem, j0, j1]) rfl ⟨m, by rw [HM12.out.1, HM12.out.2], hfin.out⟩
    | succ g2 =>
      have hlt : k < n := by omega
      obtain ⟨y, hy⟩ : ∃ y, ps[k]? = some y := ⟨_, List.getElem?_eq_getElem (by rw [← HN.out]; exact hlt)⟩
      have hys : (ps.map stP)[k]? = some (stP y) := by rw [List.getElem?_map, hy]; rfl
      obtain ⟨d0, d1⟩ := HAT.out k _ hys
      have d0 := hB.cell d0 hgb
      have d1 := hB.cell d1 hgb
      simp only [stP] at d0 d1
      obtain ⟨b0, b1, _⟩ := row2' hm'
      have hym : y ∈ ps := List.mem_of_getElem? hy
      have hmm : m ∈ ps := List.mem_of_mem_take (bst_mem _ _ _ hbst.out)
      have htk : Hid (bst t (ps.take (k + 1)) = bstStep t (some m) y) := hide (by rw [List.take_add_one, hy]; simp only [Option.toList_some]; rw [bst_snoc, hbst.out])
      have hcl : Hid (∀ p : PB bm (KnowsT bm) wr, Calls Try.prog 33 #[.agg #[.int .i64 (knd y), .int .i64 (bxs y)], .agg #[.int .i64 (knd m), .int .i64 (bxs m)], .pointer (some ⟨B2, 0, none⟩), .pointer (some ⟨B3, 0, none⟩)] p.to (RetK bm (KnowsT bm) (.int .i64 (cmpI (t y) (t m))) p.to)) := hide (fun p => HC.out y hym m hmm p.to (HBW.out.trans p.old) (p.inv HK.out))
      have HTY : Hid (t y = t y) := hide rfl
      obtain ⟨y1, hy1⟩ : ∃ y1, y1 = knd y := ⟨_, rfl⟩
      obtain ⟨y2, hy2⟩ : ∃ y2, y2 = bxs y := ⟨_, rfl⟩
      obtain ⟨m1, hm1⟩ : ∃ m1, m1 = knd m := ⟨_, rfl⟩
      obtain ⟨m2, hm2⟩ : ∃ m2, m2 = bxs m := ⟨_, rfl⟩
      obtain ⟨q, hq⟩ : ∃ q, q = cmpI (t y) (t m) := ⟨_, rfl⟩
      rw [← hy1] at d0 hcl
      rw [← hy2] at d1 hcl
      rw [← hm1] at b0 hcl HM'
      rw [← hm2] at b1 hcl HM'
      rw [← hq] at hcl
      have HQ := hide hq
      have HY12 := hide (And.intro hy1 (And.intro hy2 (And.intro hm1 hm2)))
      have e0 : ∀ p : PB bm (KnowsT bm) wr, p.to.cell? ⟨g, k * 2, none⟩ = some (.int .i64 y1) := fun p => p.cell d0 hgb
      have e1 : ∀ p : PB bm (KnowsT bm) wr, p.to.cell? ⟨g, k * 2 + 1, none⟩ = some (.int .i64 y2) := fun p => p.cell d1 hgb
      have c0 : ∀ p : PB bm (KnowsT bm) wr, p.to.cell? ⟨W.heap.size + 1, 0, none⟩ = some (.int .i64 m1) := fun p => p.cell b0 (by show W.heap.size + 1 ≠ bm; omega)
      have c1 : ∀ p : PB bm (KnowsT bm) wr, p.to.cell? ⟨W.heap.size + 1, 1, none⟩ = some (.int .i64 m2) := fun p => p.cell b1 (by show W.heap.size + 1 ≠ bm; omega)
      have hk0 : (0 : Int) ≤ k := by omega
      have hkn : (k : Int) < n := by omega
      have HD := hide (And.intro d0 d1)
      clear hy hys hz' hm' hB hK d0 d1 b0 b1 hq hy1 hy2 hm1 hm2 hbst hym hmm HTY
      by_cases hym : t y < t m
      · have hq0 : q = -1 := by rw [HQ.out]; exact cmpI_lt hym
        have hnew : Hid (bst t (ps.take (k + 1)) = some y) := hide (by rw [htk.out]; simp [bstStep, hym])
        subst hq0
        clear hym
        go_wp2_with fail
        refine wp_region_pb (bm) (KnowsT (bm)) (fun _ _ h k => KnowsT.keep h k) (by kernel_rfl) (by kernel_rfl) ?_
        repeat (first | fail | go_big_quiet_step (((with_reducible exact retK_pb (hcl.out _)))) | quiet_step (((with_reducible exact retK_pb (hcl.out _)))))
        refine wpQuiet_nil ?_
        rintro _ ⟨pq, rfl⟩
        have hm6 := pq.row HM'.out (by show W.heap.size + 1 ≠ bm; omega)
        have hz6 := pq.row HZ'.out (by show W.heap.size ≠ bm; omega)
        obtain ⟨a0, a1, f0, f1⟩ := row2' hm6
        have x0 := pq.cell HD.out.1 hgb
        have x1 := pq.cell HD.out.2 hgb
        have hm7 := hide (box_set2' (x' := .int .i64 y1) (y' := .int .i64 y2) hm6)
        have hz7 : Hid (((pq.to.setCell ⟨W.heap.size + 1, 0, none⟩ (.int .i64 y1)).setCell ⟨W.heap.size + 1, 1, none⟩ (.int .i64 y2)).heap[W.heap.size]? = some (.cells #[.int .i64 0, .int .i64 0] 55 (0, 0))) := hide
          (((Below.heap_setCell _ _ _ _ (by simp)).trans (Below.heap_setCell _ _ _ _ (by simp))).trans hz6)
        have hB7 := hide (((HBW.out.trans pq.old).setNew (k := W.heap.size + 1) (by omega) 0 (.int .i64 y1)).setNew (k := W.heap.size + 1) (by omega) 1 (.int .i64 y2))
        have hK7 : Hid (KnowsT bm ((pq.to.setCell ⟨W.heap.size + 1, 0, none⟩ (.int .i64 y1)).setCell ⟨W.heap.size + 1, 1, none⟩ (.int .i64 y2))) := hide ((pq.inv HK.out).block ((Below.heap_setCell _ _ _ _ (by show bm ≠ W.heap.size + 1; omega)).trans (Below.heap_setCell _ _ _ _ (by show bm ≠ W.heap.size + 1; omega))))
        clear hm6 hz6 c0 c1 e0 e1
        go_wp2_with fail
        go_roundg g2
        case rel => exact ⟨k + 1, y, by omega, by go_num, by omega, hz7.out, by rw [← HY12.out.1, ← HY12.out.2.1]; exact hm7.out, hnew, hB7.out, hK7.out⟩
        case measure => omega
      · have hq0 : 0 ≤ q := by rw [HQ.out]; exact (cmpI_ge hym).1
        have hnew : Hid (bst t (ps.take (k + 1)) = some m) := hide (by rw [htk.out]; simp [bstStep, hym])
        clear hym
        go_wp2_with fail
        refine wp_region_pb (bm) (KnowsT (bm)) (fun _ _ h k => KnowsT.keep h k) (by kernel_rfl) (by kernel_rfl) ?_
        repeat (first | fail | go_big_quiet_step (((with_reducible exact retK_pb (hcl.out _)))) | quiet_step (((with_reducible exact retK_pb (hcl.out _)))))
        refine wpQuiet_nil ?_
        rintro _ ⟨pq, rfl⟩
        have hm6 := hide (pq.row HM'.out (by show W.heap.size + 1 ≠ bm; omega))
        have hz6 := hide (pq.row HZ'.out (by show W.heap.size ≠ bm; omega))
        have hB7 := hide (HBW.out.trans pq.old)
        have hK7 := hide (pq.inv HK.out)
        clear c0 c1 e0 e1
        go_wp2_with fail
        go_roundg g2
        case rel => exact ⟨k + 1, m, by omega, by go_num, by omega, hz6.out, by rw [← HY12.out.2.2.1, ← HY12.out.2.2.2]; exact hm6.out, hnew, hB7.out, hK7.out⟩
        case measure => omega
end Go.Proofs.Ytbfpbkbhikogiab
