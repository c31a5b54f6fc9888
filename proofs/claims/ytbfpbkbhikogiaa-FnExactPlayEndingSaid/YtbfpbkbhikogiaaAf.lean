/-
  Ends of dots and boxes: AfterOpening, both texts.
-/
import Derived.Test.YtbfpbkbhikogiaaDe
import Derived.Test.YtbfpbkbhikogiaaEo
import Derived.Test.YtbfpbkbhikogiaaWo
import Derived.Test.YtbfpbkbhikogiaaVs
namespace Go.Proofs.Ytbfpbkbhikogiaa
open Go.RowKit
set_option linter.unusedVariables false

theorem eraseIdx_first {s : Int × Int} : ∀ (ss : List (Int × Int)) (k : Nat), ss[k]? = some s → (∀ j, j < k → ss[j]? ≠ some s) → ss.eraseIdx k = ss.erase s
  | [], k, h, _ => by simp at h
  | a :: r, 0, h, _ => by
    simp at h
    subst h
    simp
  | a :: r, k + 1, h, hn => by
    have ha : a ≠ s := fun e => hn 0 (by omega) (by simp [e])
    rw [List.eraseIdx_cons_succ, List.erase_cons_tail (by simpa using ha), eraseIdx_first r k (by simpa using h) (fun j hj h2 => hn (j + 1) (by omega) (by simpa using h2))]
theorem map_erase' (x : Int) : ∀ (l : List Int) (b : Int), (l.map fun y => (x, y)).erase (x, b) = (l.erase b).map fun y => (x, y)
  | [], b => rfl
  | a :: r, b => by
    by_cases e : a = b
    · subst e
      simp
    · rw [List.map_cons, List.erase_cons_tail (by simpa using e), List.erase_cons_tail (by simpa using e), List.map_cons, map_erase' x r b]
theorem strs_erase (cs ls : List Int) (lp : Bool) (b : Int) (h : (kindOf lp, b) ∈ strs cs ls) : (strs cs ls).erase (kindOf lp, b) = strs (woL cs ls lp b).1 (woL cs ls lp b).2.1 ∧ (woL cs ls lp b).2.2 = true := by
  have h0 : ∀ (l : List Int), (1, b) ∉ l.map (fun y => ((0 : Int), y)) := fun l hm => by
    obtain ⟨y, _, e⟩ := List.mem_map.1 hm
    simp at e
  have h1 : ∀ (l : List Int), (0, b) ∉ l.map (fun y => ((1 : Int), y)) := fun l hm => by
    obtain ⟨y, _, e⟩ := List.mem_map.1 hm
    simp at e
  cases lp
  · have hm : (0, b) ∈ cs.map (fun y => ((0 : Int), y)) := by
      rcases List.mem_append.1 h with h | h
      · exact h
      · exact absurd h (h1 ls)
    have hb : b ∈ cs := by
      obtain ⟨y, hy, e⟩ := List.mem_map.1 hm
      simp at e
      rw [← e]
      exact hy
    refine ⟨?_, by simp [woL, hb]⟩
    have hk : kindOf false = 0 := rfl
    unfold strs
    rw [hk]
    rw [List.erase_append_left _ hm, map_erase']
    rfl
  · have hm : (1, b) ∈ ls.map (fun y => ((1 : Int), y)) := by
      rcases List.mem_append.1 h with h | h
      · exact absurd h (h0 cs)
      · exact h
    have hb : b ∈ ls := by
      obtain ⟨y, hy, e⟩ := List.mem_map.1 hm
      simp at e
      rw [← e]
      exact hy
    refine ⟨?_, by simp [woL, hb]⟩
    have hk : kindOf true = 1 := rfl
    unfold strs
    rw [hk]
    rw [List.erase_append_right _ (h0 cs), map_erase']
    rfl
theorem strs_none (cs ls : List Int) (lp : Bool) (b : Int) (h : (kindOf lp, b) ∉ strs cs ls) : (woL cs ls lp b).2.2 = false := by
  cases lp
  · have hb : b ∉ cs := fun hm => h (List.mem_append.2 (.inl (List.mem_map.2 ⟨b, hm, rfl⟩)))
    simp [woL, hb]
  · have hb : b ∉ ls := fun hm => h (List.mem_append.2 (.inr (List.mem_map.2 ⟨b, hm, rfl⟩)))
    simp [woL, hb]

/-- The rest behind an opening, and a code. -/
def aftR (cs ls : List Int) (lp : Bool) (b : Int) : List Int × List Int × Int := if okEn cs ls = true then (if (woL cs ls lp b).2.2 = true then ((woL cs ls lp b).1, (woL cs ls lp b).2.1, 0) else ([], [], 5)) else ([], [], 1)
theorem aftR_len (cs ls : List Int) (lp : Bool) (b : Int) : (aftR cs ls lp b).1.length ≤ cs.length ∧ (aftR cs ls lp b).2.1.length ≤ ls.length := by
  unfold aftR woL
  split
  · cases lp
    · simp only
      split
      · exact ⟨List.length_erase_le, Nat.le_refl _⟩
      · simp
    · simp only
      split
      · exact ⟨Nat.le_refl _, List.length_erase_le⟩
      · simp
  · simp
theorem newEndV_nil (W W' : World) (code : Int) (v : Value) (hv : v = .tuple #[.agg #[.slice none 0 0, .slice none 0 0], .int .i64 code]) (hb : Below W.heap.size W W') : NewEndV [] [] [.int .i64 code] W (.returned v) W' :=
  ⟨none, 0, none, 0, by rw [hv]; rfl, World.ownsRow_nil _ _ _ _, World.ownsRow_nil _ _ _ _, fun g h1 _ => by simp [Value.ownBlock] at h1, hb⟩

set_option maxRecDepth 100000 in
set_option maxHeartbeats 2000000 in
theorem specAft_any (a : Option Addr) (c : Nat) (cs : List Int) (a' : Option Addr) (c' : Nat) (ls : List Int) (lp : Bool) (b : Int) (W : World) (ha : IntsAt W a cs) (ha' : IntsAt W a' ls) (hl : cs.length ≤ 1048576) (hl' : ls.length ≤ 1048576) :
    Calls Try.prog 19 #[.agg #[.slice a cs.length c, .slice a' ls.length c'], .bool lp, .int .i64 b] W (NewEndV (aftR cs ls lp b).1 (aftR cs ls lp b).2.1 [.int .i64 (aftR cs ls lp b).2.2] W) := by
  obtain ⟨W0, hW0⟩ : ∃ W0, W0 = (W.alloc (.cells #[.slice a cs.length c, .slice a' ls.length c'] 26)).alloc (.cells #[.slice none 0 0, .slice none 0 0] 26) := ⟨_, rfl⟩
  have hB0 : Hid (Below W.heap.size W W0) := by rw [hW0]; exact hide ((below_alloc _ _).alloc (by simp) _)
  have hs0 : W0.heap.size = W.heap.size + 2 := by rw [hW0]; simp
  have hX0 : Hid (EndIn W0 W.heap.size a cs.length c a' ls.length c') := by rw [hW0]; exact hide ((endIn_new _ _ _ _ _ _ _ _).keep (below_alloc _ _))
  have hR0 : Hid (W0.heap[W.heap.size + 1]? = some (.cells #[.slice none 0 0, .slice none 0 0] 26 (0, 0))) := hide (by
    have := heap_alloc_new (W.alloc (.cells #[.slice a cs.length c, .slice a' ls.length c'] 26)) (.cells #[.slice none 0 0, .slice none 0 0] 26 (0, 0))
    rw [hW0]
    simpa using this)
  have hA0 := hide (ha.keep hB0.out)
  have hA0' := hide (ha'.keep hB0.out)
  obtain ⟨r1, r2, r3, hr⟩ : ∃ r1 r2 r3, aftR cs ls lp b = (r1, r2, r3) := ⟨_, _, _, rfl⟩
  rw [hr]
  dsimp only
  unfold aftR at hr
  obtain ⟨c0, c1⟩ := hX0.out
  clear ha ha'
  cases hok : okEn cs ls
  · rw [hok] at hr
    simp only [Bool.false_eq_true, if_false, Prod.mk.injEq] at hr
    obtain ⟨rfl, rfl, rfl⟩ := hr
    have HK := hide hok
    clear hok
    go_enter Try.func19, Try.ntmps19
    go_wp2_with fail
    rw [← hW0]
    clear hW0
    (try go_wp2_with fail)
    refine (specIs_any _ _ cs _ _ ls _ hA0.out hA0'.out hl hl').mono ?_
    rw [HK.out]
    rintro e w1 ⟨rfl, hb1⟩
    have hR1 := box_keep hR0.out hb1
    obtain ⟨d0, d1, f0, f1⟩ := row2' hR1
    have hz := hide (box_set2' (x' := .slice none 0 0) (y' := .slice none 0 0) hR1)
    have hfin : Hid (Below W.heap.size W ((w1.setCell ⟨W.heap.size + 1, 0, none⟩ (.slice none 0 0)).setCell ⟨W.heap.size + 1, 1, none⟩ (.slice none 0 0))) := hide (((Below.trans' hB0.out hb1).setCell (p := ⟨W.heap.size + 1, 0, none⟩) (by simp) _).setCell (p := ⟨W.heap.size + 1, 1, none⟩) (by simp) _)
    clear hb1 c0 c1 hR1
    go_wp2_with fail
    obtain ⟨j0, j1, _⟩ := row2' hz.out
    exact bodyPost_ret (v := .tuple #[.agg #[.slice none 0 0, .slice none 0 0], .int .i64 1]) (by simp [results, Try.results19, go_sem, j0, j1]) rfl (newEndV_nil _ _ _ _ rfl hfin.out)
  · rw [hok, if_pos rfl] at hr
    obtain ⟨xs, ys, fd, hwo⟩ : ∃ xs ys fd, woL cs ls lp b = (xs, ys, fd) := ⟨_, _, _, rfl⟩
    rw [hwo] at hr
    dsimp only at hr
    have HK := hide hok
    have HWO := hide hwo
    clear hok hwo
    go_enter Try.func19, Try.ntmps19
    go_wp2_with fail
    rw [← hW0]
    clear hW0
    (try go_wp2_with fail)
    refine (specIs_any _ _ cs _ _ ls _ hA0.out hA0'.out hl hl').mono ?_
    rw [HK.out]
    rintro e w1 ⟨rfl, hb1⟩
    have hX1 := hX0.out.keep hb1
    have hA1 := hide (hA0.out.keep hb1)
    have hA1' := hide (hA0'.out.keep hb1)
    have hR1 := hide (box_keep hR0.out hb1)
    have hB1 := hide (Below.trans' hB0.out hb1)
    have hs1 : W.heap.size + 2 ≤ w1.heap.size := by have := hb1.size; omega
    clear hb1 c0 c1
    obtain ⟨c0, c1⟩ := hX1
    go_wp2_with fail
    refine (without_at _ _ cs _ _ ls lp b xs ys fd HWO.out _ hA1.out hA1'.out hl hl').mono ?_
    rintro e w2 ⟨a6, k6, a6', k6', rfl, ho6, ho6', hap, hb2⟩
    have HO6 := hide (And.intro ho6 (And.intro ho6' hap))
    have hR2 := box_keep hR1.out hb2
    have hs2 : W.heap.size + 2 ≤ w2.heap.size := by have := hb2.size; omega
    have hb23 : Below w2.heap.size w2 (w2.alloc (.cells #[.slice a6 xs.length k6, .slice a6' ys.length k6'] 26)) := below_alloc _ _
    have hY3 : EndIn (w2.alloc (.cells #[.slice a6 xs.length k6, .slice a6' ys.length k6'] 26)) w2.heap.size a6 xs.length k6 a6' ys.length k6' := endIn_new _ _ _ _ _ _ _ _
    have hR3 := box_keep hR2 hb23
    obtain ⟨d0, d1, f0, f1⟩ := row2' hR3
    obtain ⟨y0, y1⟩ := hY3
    cases fd
    · simp only [Bool.false_eq_true, if_false, Prod.mk.injEq] at hr
      obtain ⟨rfl, rfl, rfl⟩ := hr
      have hz := hide (box_set2' (x' := .slice none 0 0) (y' := .slice none 0 0) hR3)
      have hfin : Hid (Below W.heap.size W (((w2.alloc (.cells #[.slice a6 xs.length k6, .slice a6' ys.length k6'] 26)).setCell ⟨W.heap.size + 1, 0, none⟩ (.slice none 0 0)).setCell ⟨W.heap.size + 1, 1, none⟩ (.slice none 0 0))) := hide (((Below.trans' (Below.trans' hB1.out hb2) hb23).setCell (p := ⟨W.heap.size + 1, 0, none⟩) (by simp) _).setCell (p := ⟨W.heap.size + 1, 1, none⟩) (by simp) _)
      clear ho6 ho6' hap hb2 hb23 hR2 hR3 c0 c1
      go_wp2_with fail
      obtain ⟨j0, j1, _⟩ := row2' hz.out
      exact bodyPost_ret (v := .tuple #[.agg #[.slice none 0 0, .slice none 0 0], .int .i64 5]) (by simp [results, Try.results19, go_sem, j0, j1]) rfl (newEndV_nil _ _ _ _ rfl hfin.out)
    · simp only [if_true, Prod.mk.injEq] at hr
      obtain ⟨rfl, rfl, rfl⟩ := hr
      have hz := hide (box_set2' (x' := .slice a6 xs.length k6) (y' := .slice a6' ys.length k6') hR3)
      have hfin : Hid (NewEndV xs ys [.int .i64 0] W (.returned (.tuple #[.agg #[.slice a6 xs.length k6, .slice a6' ys.length k6'], .int .i64 0])) (((w2.alloc (.cells #[.slice a6 xs.length k6, .slice a6' ys.length k6'] 26)).setCell ⟨W.heap.size + 1, 0, none⟩ (.slice a6 xs.length k6)).setCell ⟨W.heap.size + 1, 1, none⟩ (.slice a6' ys.length k6'))) := hide
        ⟨a6, k6, a6', k6', rfl, ownsRow_base (ownsRow_setCell_below (ownsRow_setCell_below (ownsRow_keep HO6.out.1 hb23) (show W.heap.size + 1 < w1.heap.size by omega) _) (show W.heap.size + 1 < w1.heap.size by omega) _) (by omega),
          ownsRow_base (ownsRow_setCell_below (ownsRow_setCell_below (ownsRow_keep HO6.out.2.1 hb23) (show W.heap.size + 1 < w1.heap.size by omega) _) (show W.heap.size + 1 < w1.heap.size by omega) _) (by omega), HO6.out.2.2,
          ((Below.trans' (Below.trans' hB1.out hb2) hb23).setCell (p := ⟨W.heap.size + 1, 0, none⟩) (by simp) _).setCell (p := ⟨W.heap.size + 1, 1, none⟩) (by simp) _⟩
      clear ho6 ho6' hap hb2 hb23 hR2 hR3 c0 c1
      go_wp2_with fail
      obtain ⟨j0, j1, _⟩ := row2' hz.out
      exact bodyPost_ret (v := .tuple #[.agg #[.slice a6 xs.length k6, .slice a6' ys.length k6'], .int .i64 0]) (by simp [results, Try.results19, go_sem, j0, j1]) rfl hfin.out

set_option maxRecDepth 100000 in
set_option maxHeartbeats 2000000 in
theorem implAft_any (a : Option Addr) (c : Nat) (cs : List Int) (a' : Option Addr) (c' : Nat) (ls : List Int) (lp : Bool) (b : Int) (W : World) (ha : IntsAt W a cs) (ha' : IntsAt W a' ls) (hl : cs.length ≤ 1048576) (hl' : ls.length ≤ 1048576) :
    Calls Try.prog 18 #[.agg #[.slice a cs.length c, .slice a' ls.length c'], .bool lp, .int .i64 b] W (NewEndV (aftR cs ls lp b).1 (aftR cs ls lp b).2.1 [.int .i64 (aftR cs ls lp b).2.2] W) := by
  obtain ⟨W0, hW0⟩ : ∃ W0, W0 = (W.alloc (.cells #[.slice a cs.length c, .slice a' ls.length c'] 26)).alloc (.cells #[.slice none 0 0, .slice none 0 0] 26) := ⟨_, rfl⟩
  have hB0 : Hid (Below W.heap.size W W0) := by rw [hW0]; exact hide ((below_alloc _ _).alloc (by simp) _)
  have hs0 : W0.heap.size = W.heap.size + 2 := by rw [hW0]; simp
  have hX0 : Hid (EndIn W0 W.heap.size a cs.length c a' ls.length c') := by rw [hW0]; exact hide ((endIn_new _ _ _ _ _ _ _ _).keep (below_alloc _ _))
  have hR0 : Hid (W0.heap[W.heap.size + 1]? = some (.cells #[.slice none 0 0, .slice none 0 0] 26 (0, 0))) := hide (by
    have := heap_alloc_new (W.alloc (.cells #[.slice a cs.length c, .slice a' ls.length c'] 26)) (.cells #[.slice none 0 0, .slice none 0 0] 26 (0, 0))
    rw [hW0]
    simpa using this)
  have hA0 := hide (ha.keep hB0.out)
  have hA0' := hide (ha'.keep hB0.out)
  obtain ⟨r1, r2, r3, hr⟩ : ∃ r1 r2 r3, aftR cs ls lp b = (r1, r2, r3) := ⟨_, _, _, rfl⟩
  rw [hr]
  dsimp only
  unfold aftR at hr
  obtain ⟨c0, c1⟩ := hX0.out
  clear ha ha'
  cases hok : okEn cs ls
  · rw [hok] at hr
    simp only [Bool.false_eq_true, if_false, Prod.mk.injEq] at hr
    obtain ⟨rfl, rfl, rfl⟩ := hr
    have HK := hide hok
    clear hok
    go_enter Try.func18, Try.ntmps18
    go_wp2_with fail
    rw [← hW0]
    clear hW0
    (try go_wp2_with fail)
    refine (implIsE_any _ _ cs _ _ ls _ hA0.out hA0'.out hl hl').mono ?_
    rw [HK.out]
    rintro e w1 ⟨rfl, hb1⟩
    have hR1 := box_keep hR0.out hb1
    obtain ⟨d0, d1, f0, f1⟩ := row2' hR1
    have hz := hide (box_set2' (x' := .slice none 0 0) (y' := .slice none 0 0) hR1)
    have hfin : Hid (Below W.heap.size W ((w1.setCell ⟨W.heap.size + 1, 0, none⟩ (.slice none 0 0)).setCell ⟨W.heap.size + 1, 1, none⟩ (.slice none 0 0))) := hide (((Below.trans' hB0.out hb1).setCell (p := ⟨W.heap.size + 1, 0, none⟩) (by simp) _).setCell (p := ⟨W.heap.size + 1, 1, none⟩) (by simp) _)
    clear hb1 c0 c1 hR1
    go_wp2_with fail
    obtain ⟨j0, j1, _⟩ := row2' hz.out
    exact bodyPost_ret (v := .tuple #[.agg #[.slice none 0 0, .slice none 0 0], .int .i64 1]) (by simp [results, Try.results18, go_sem, j0, j1]) rfl (newEndV_nil _ _ _ _ rfl hfin.out)
  · rw [hok, if_pos rfl] at hr
    have h8 := (okEn_parts hok).1
    obtain ⟨ss, hss⟩ : ∃ ss, ss = strs cs ls := ⟨_, rfl⟩
    have hs8 : ss.length ≤ 8 := by rw [hss, strs_len]; exact h8
    obtain ⟨kd, hkd⟩ : ∃ kd, kd = kindOf lp := ⟨_, rfl⟩
    have hst : Hid (∀ V : World, Calls Try.prog 54 #[.bool lp, .int .i64 b] V (RetB (.agg #[.int .i64 kd, .int .i64 b]) V)) := hide (fun V => by
      have h := strandOf_any lp b V
      cases lp
      · rw [hkd]; exact h
      · rw [hkd]; exact h)
    have HK := hide hok
    have HSS := hide hss
    have HKD := hide hkd
    clear hok hss hkd
    go_enter Try.func18, Try.ntmps18
    go_wp2_with fail
    rw [← hW0]
    clear hW0
    (try go_wp2_with fail)
    refine (implIsE_any _ _ cs _ _ ls _ hA0.out hA0'.out hl hl').mono ?_
    rw [HK.out]
    rintro e w1 ⟨rfl, hb1⟩
    have hX1 := hX0.out.keep hb1
    have hA1 := hide (hA0.out.keep hb1)
    have hA1' := hide (hA0'.out.keep hb1)
    have hR1 := hide (box_keep hR0.out hb1)
    have hB1 := hide (Below.trans' hB0.out hb1)
    have hs1 : W.heap.size + 2 ≤ w1.heap.size := by have := hb1.size; omega
    clear hb1 c0 c1
    obtain ⟨c0, c1⟩ := hX1
    go_wp2_with fail
    refine (strandsOf_any _ _ cs _ _ ls _ hA1.out hA1'.out h8).mono ?_
    rw [← HSS.out]
    rintro e w2 ⟨a2, k2, rfl, ho2, hb2⟩
    have HO2 := hide ho2
    have hR2 := hide (box_keep hR1.out hb2)
    have hB2 := hide (Below.trans' hB1.out hb2)
    have hs2 : w1.heap.size ≤ w2.heap.size := hb2.size
    clear ho2 hb2 c0 c1
    go_wp2_with fail
    refine (hst.out _).mono ?_
    rintro e w3 ⟨rfl, hb3⟩
    have HO3 := hide (ownsRow_keep HO2.out hb3)
    have hR3 := hide (box_keep hR2.out hb3)
    have hB3 := hide (Below.trans' hB2.out hb3)
    clear hb3
    go_wp2_with fail
    refine (indexS_any a2 k2 ss kd b _ (sliceS_of_own HO3.out) hs8).mono ?_
    rintro e w4 ⟨hor, hb4⟩
    have HO4 := hide (ownsRow_keep HO3.out hb4)
    have hR4 := hide (box_keep hR3.out hb4)
    have hB4 := hide (Below.trans' hB3.out hb4)
    clear hb4
    rcases hor with ⟨k, rfl, hk, hg, hfst⟩ | ⟨rfl, hno⟩
    · obtain ⟨g, rfl⟩ : ∃ g, a2 = some ⟨g, 0, none⟩ := by
        rcases HO4.out.2 with ⟨_, h0⟩ | ⟨g', cap', cur, hv, _⟩
        · omega
        · simp only [Value.slice.injEq] at hv
          exact ⟨g', hv.1⟩
      have hmem : (kd, b) ∈ ss := List.mem_of_getElem? hg
      have her : Hid (ss.eraseIdx k = ss.erase (kd, b)) := hide (eraseIdx_first ss k hg hfst)
      have hse : Hid (ss.erase (kd, b) = strs (woL cs ls lp b).1 (woL cs ls lp b).2.1 ∧ (woL cs ls lp b).2.2 = true) := hide (by rw [HSS.out, HKD.out]; exact strs_erase cs ls lp b (by rw [← HSS.out, ← HKD.out]; exact hmem))
      rw [if_pos hse.out.2] at hr
      simp only [Prod.mk.injEq] at hr
      obtain ⟨hr1, hr2, rfl⟩ := hr
      have hce : Hid (chS (ss.eraseIdx k) = r1 ∧ loS (ss.eraseIdx k) = r2) := hide (by rw [her.out, hse.out.1, (chS_strs _ _).1, (chS_strs _ _).2]; exact ⟨hr1, hr2⟩)
      have hle : Hid ((ss.eraseIdx k).length = ss.length - 1) := hide (by rw [List.length_eraseIdx, if_pos hk])
      obtain ⟨n, hn⟩ : ∃ n, n = ss.length := ⟨_, rfl⟩
      have HN := hide hn
      rw [← hn] at hk hs8 hle HO4
      clear hg hfst hmem hr1 hr2
      rw [← hn]
      clear hn
      go_wp2_with fail
      refine (deleteS_any w1.heap.size g n k2 k ss _ HN.out HO4.out hk hs8).mono ?_
      rintro e w5 ⟨rfl, hS5, hb5⟩
      have HS5 := hide hS5
      have hR5 := hide ((hb5.block (W.heap.size + 1) (by omega)).trans hR4.out)
      have hB5 : Hid (Below W.heap.size W w5) := hide (hB4.out.trans (hb5.mono (by omega)))
      clear hS5 hb5
      go_wp2_with fail
      rw [← hle.out]
      refine (endingOf_any (some ⟨g, 0, none⟩) k2 (ss.eraseIdx k) _ HS5.out (by rw [hle.out]; omega)).mono ?_
      rw [hce.out.1, hce.out.2]
      rintro e w6 ⟨a6, k6, a6', k6', rfl, ho6, ho6', hap, hb6⟩
      have hR6 := box_keep hR5.out hb6
      obtain ⟨d0, d1, f0, f1⟩ := row2' hR6
      have hz := hide (box_set2' (x' := .slice a6 r1.length k6) (y' := .slice a6' r2.length k6') hR6)
      have hlt : W.heap.size + 1 < w5.heap.size := block_lt hR5.out
      have hfin : Hid (NewEndV r1 r2 [.int .i64 0] W (.returned (.tuple #[.agg #[.slice a6 r1.length k6, .slice a6' r2.length k6'], .int .i64 0])) ((w6.setCell ⟨W.heap.size + 1, 0, none⟩ (.slice a6 r1.length k6)).setCell ⟨W.heap.size + 1, 1, none⟩ (.slice a6' r2.length k6'))) := hide
        ⟨a6, k6, a6', k6', rfl, ownsRow_base (ownsRow_setCell_below (ownsRow_setCell_below ho6 hlt _) hlt _) (by omega),
          ownsRow_base (ownsRow_setCell_below (ownsRow_setCell_below ho6' hlt _) hlt _) (by omega), hap,
          ((Below.trans' hB5.out hb6).setCell (p := ⟨W.heap.size + 1, 0, none⟩) (by simp) _).setCell (p := ⟨W.heap.size + 1, 1, none⟩) (by simp) _⟩
      clear ho6 ho6' hap hb6 hR6
      go_wp2_with fail
      obtain ⟨j0, j1, _⟩ := row2' hz.out
      exact bodyPost_ret (v := .tuple #[.agg #[.slice a6 r1.length k6, .slice a6' r2.length k6'], .int .i64 0]) (by simp [results, Try.results18, go_sem, j0, j1]) rfl hfin.out
    · have hnf := strs_none cs ls lp b (by rw [← HSS.out, ← HKD.out]; exact hno)
      rw [hnf] at hr
      simp only [Bool.false_eq_true, if_false, Prod.mk.injEq] at hr
      obtain ⟨rfl, rfl, rfl⟩ := hr
      obtain ⟨d0, d1, f0, f1⟩ := row2' hR4.out
      have hz := hide (box_set2' (x' := .slice none 0 0) (y' := .slice none 0 0) hR4.out)
      have hfin : Hid (Below W.heap.size W ((w4.setCell ⟨W.heap.size + 1, 0, none⟩ (.slice none 0 0)).setCell ⟨W.heap.size + 1, 1, none⟩ (.slice none 0 0))) := hide ((hB4.out.setCell (p := ⟨W.heap.size + 1, 0, none⟩) (by simp) _).setCell (p := ⟨W.heap.size + 1, 1, none⟩) (by simp) _)
      clear hno hnf
      go_wp2_with fail
      obtain ⟨j0, j1, _⟩ := row2' hz.out
      exact bodyPost_ret (v := .tuple #[.agg #[.slice none 0 0, .slice none 0 0], .int .i64 5]) (by simp [results, Try.results18, go_sem, j0, j1]) rfl (newEndV_nil _ _ _ _ rfl hfin.out)
end Go.Proofs.Ytbfpbkbhikogiaa
