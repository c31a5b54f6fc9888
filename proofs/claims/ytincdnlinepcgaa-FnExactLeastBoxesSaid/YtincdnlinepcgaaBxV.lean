/-
  Dots and boxes: the program's CountEdges, FreeEdges, BoxesWith, TakenBoxes.
-/
import Derived.Test.YtincdnlinepcgaaBxU
namespace Go.Proofs.Ytincdnlinepcgaa
open Go.RowKit
set_option linter.unusedVariables false

def countR (w h E : Int) : Int × Int := if okBox w h E then (nEdge w h, 0) else (0, 1)
def freeR (w h E : Int) : List Int × Int := if okBox w h E then (freeE w h E, 0) else ([], 1)
def withR (w h E n : Int) : List Int × Int := if okBox w h E then (if inn n 0 4 then (withB w h E n, 0) else ([], 2)) else ([], 1)
theorem newList_nil {W W' : World} {c : Int} (h : Below W.heap.size W W') : NewList ([], c) W (.returned (.tuple #[.slice none 0 0, .int .i64 c])) W' := ⟨none, 0, rfl, World.ownsRow_nil _ _ _ _, h⟩

set_option maxRecDepth 100000 in
set_option maxHeartbeats 1000000 in
theorem implCount_any (w h E : Int) (W : World) : Calls Try.prog 17 #[.agg #[.int .i64 w, .int .i64 h, .int .i64 E]] W (RetB (.tuple #[.int .i64 (countR w h E).1, .int .i64 (countR w h E).2]) W) := by
  have hB0 := hide (below_alloc W (.cells #[.int .i64 w, .int .i64 h, .int .i64 E] 25))
  have hX0 := hide (boxIn_new W w h E 25)
  obtain ⟨r, hr⟩ : ∃ r, r = countR w h E := ⟨_, rfl⟩
  rw [← hr]
  unfold countR at hr
  cases hb : okBox w h E
  · have HR : Hid (r = (0, 1)) := hide (by rw [hr, hb]; rfl)
    have HB := hide hb
    clear hb hr
    go_enter Try.func17, Try.ntmps17
    go_wp2_with fail
    refine (implIs_any w h E _).mono ?_
    rw [HB.out]
    rintro e w1 ⟨rfl, hb1⟩
    have hB1 := hide (Below.trans' hB0.out hb1)
    clear hb1
    go_wp2_with fail
    go_ret2
    rw [HR.out]
    exact ⟨rfl, hB1.out⟩
  · obtain ⟨h1, h2, h3, h4, _, _⟩ := okBox_parts hb
    have HR : Hid (r = (nEdge w h, 0)) := hide (by rw [hr, hb]; rfl)
    have HB := hide hb
    clear hb hr
    go_enter Try.func17, Try.ntmps17
    go_wp2_with fail
    refine (implIs_any w h E _).mono ?_
    rw [HB.out]
    rintro e w1 ⟨rfl, hb1⟩
    obtain ⟨c0, c1, c2⟩ := hX0.out.keep hb1
    have hB1 := hide (Below.trans' hB0.out hb1)
    clear hb1
    go_wp2_with fail
    refine (edges_any w h E h1 h2 h3 h4 _).mono ?_
    rintro e w2 ⟨rfl, hb2⟩
    have hB2 := hide (Below.trans' hB1.out hb2)
    clear hb2 c0 c1 c2
    go_wp2_with fail
    go_ret2
    rw [HR.out]
    exact ⟨rfl, hB2.out⟩

set_option maxRecDepth 100000 in
set_option maxHeartbeats 1000000 in
theorem implFree_any (w h E : Int) (W : World) : Calls Try.prog 28 #[.agg #[.int .i64 w, .int .i64 h, .int .i64 E]] W (NewList (freeR w h E) W) := by
  have hB0 := hide (below_alloc W (.cells #[.int .i64 w, .int .i64 h, .int .i64 E] 25))
  have hX0 := hide (boxIn_new W w h E 25)
  obtain ⟨q, hq⟩ : ∃ q, q = freeR w h E := ⟨_, rfl⟩
  rw [← hq]
  unfold freeR at hq
  cases hb : okBox w h E
  · have HQ : Hid (q = ([], 1)) := hide (by rw [hq, hb]; rfl)
    have HB := hide hb
    clear hb hq
    go_enter Try.func28, Try.ntmps28
    go_wp2_with fail
    refine (implIs_any w h E _).mono ?_
    rw [HB.out]
    rintro e w1 ⟨rfl, hb1⟩
    have hB1 := hide (Below.trans' hB0.out hb1)
    clear hb1
    go_wp2_with fail
    go_ret2
    rw [HQ.out]
    exact newList_nil hB1.out
  · have HB := hide hb
    clear hb
    obtain ⟨r, hr⟩ : ∃ r, r = freeE w h E := ⟨_, rfl⟩
    have HR := hide hr
    have HQ : Hid (q = (r, 0)) := hide (by rw [hq, HB.out, if_pos rfl, hr])
    clear hr hq
    go_enter Try.func28, Try.ntmps28
    go_wp2_with fail
    refine (implIs_any w h E _).mono ?_
    rw [HB.out]
    rintro e w1 ⟨rfl, hb1⟩
    obtain ⟨c0, c1, c2⟩ := hX0.out.keep hb1
    have hB1 := hide (Below.trans' hB0.out hb1)
    clear hb1
    go_wp2_with fail
    refine (freeEdges_any w h E HB.out _).mono ?_
    rw [← HR.out]
    rintro e w2 ⟨a, c, rfl, ho, hb2⟩
    have hfin : Hid (NewList (r, 0) W (.returned (.tuple #[.slice a r.length c, .int .i64 0])) w2) := hide ⟨a, c, rfl, ownsRow_base ho hB1.out.size, Below.trans' hB1.out hb2⟩
    clear ho hb2 c0 c1 c2
    go_wp2_with fail
    go_ret2
    rw [HQ.out]
    exact hfin.out

set_option maxRecDepth 100000 in
set_option maxHeartbeats 2000000 in
theorem implWith_any (w h E n : Int) (W : World) : Calls Try.prog 26 #[.agg #[.int .i64 w, .int .i64 h, .int .i64 E], .int .i64 n] W (NewList (withR w h E n) W) := by
  obtain ⟨i0, hi0, hz0, hz1, hz2⟩ := info_parts Try.info2
  obtain ⟨W0, hW0⟩ : ∃ W0, W0 = W.alloc (.cells #[.int .i64 w, .int .i64 h, .int .i64 E] 25) := ⟨_, rfl⟩
  have hB0 : Below W.heap.size W W0 := by rw [hW0]; exact below_alloc _ _
  have hx0 : BoxIn W0 W.heap.size w h E := by rw [hW0]; exact boxIn_new _ _ _ _ _
  have hs0 : W.heap.size + 1 = W0.heap.size := by rw [hW0]; simp
  have HB0 := hide hB0
  have HX0 := hide hx0
  have HS0 := hide hs0
  clear hB0 hs0
  obtain ⟨c0, c1, c2⟩ := hx0
  obtain ⟨r, hr⟩ : ∃ r, r = withR w h E n := ⟨_, rfl⟩
  rw [← hr]
  unfold withR at hr
  cases hb : okBox w h E
  · have HR : Hid (r = ([], 1)) := hide (by rw [hr, hb]; rfl)
    have HB := hide hb
    clear hb hr
    go_enter Try.func26, Try.ntmps26
    go_wp2_with fail
    rw [← hW0]
    clear hW0
    go_wp2_with fail
    refine (implIs_any w h E _).mono ?_
    rw [HB.out]
    rintro e w1 ⟨rfl, hb1⟩
    have hB1 := hide (Below.trans' HB0.out hb1)
    clear hb1 c0 c1 c2
    go_wp2_with fail
    go_ret2
    rw [HR.out]
    exact newList_nil hB1.out
  · have HB := hide hb
    obtain ⟨h1, h2, h3, h4, _, _⟩ := okBox_parts hb
    obtain ⟨m, hm, hm9⟩ := boxes_nat hb
    rw [hb, if_pos rfl] at hr
    clear hb
    by_cases hn0 : n < 0
    · have hin : inn n 0 4 = false := by simp [inn]; omega
      have HR : Hid (r = ([], 2)) := hide (by rw [hr, hin]; rfl)
      clear hin hm hr
      go_enter Try.func26, Try.ntmps26
      go_wp2_with fail
      rw [← hW0]
      clear hW0
      go_wp2_with fail
      refine (implIs_any w h E _).mono ?_
      rw [HB.out]
      rintro e w1 ⟨rfl, hb1⟩
      have hB1 := hide (Below.trans' HB0.out hb1)
      clear hb1 c0 c1 c2
      go_wp2_with fail
      go_ret2
      rw [HR.out]
      exact newList_nil hB1.out
    · by_cases hn4 : 4 < n
      · have hin : inn n 0 4 = false := by simp [inn]; omega
        have HR : Hid (r = ([], 2)) := hide (by rw [hr, hin]; rfl)
        clear hin hm hr
        go_enter Try.func26, Try.ntmps26
        go_wp2_with fail
        rw [← hW0]
        clear hW0
        go_wp2_with fail
        refine (implIs_any w h E _).mono ?_
        rw [HB.out]
        rintro e w1 ⟨rfl, hb1⟩
        have hB1 := hide (Below.trans' HB0.out hb1)
        clear hb1 c0 c1 c2
        go_wp2_with fail
        go_ret2
        rw [HR.out]
        exact newList_nil hB1.out
      · have hin : inn n 0 4 = true := by simp [inn]; omega
        rw [hin, if_pos rfl] at hr
        obtain ⟨p, hp⟩ : ∃ p : Int → Bool, p = fun i => decide (cnt4 w h E i = n) := ⟨_, rfl⟩
        have hf : withB w h E n = pre p m := by rw [hp]; unfold withB; rw [hm]; rfl
        have hpd : ∀ k : Nat, p (k : Int) = decide (cnt4 w h E (k : Int) = n) := by intro k; rw [hp]
        have HR : Hid (r = (pre p m, 0)) := hide (by rw [hr, hf])
        have HP := hide hpd
        have HM := hide hm
        clear hin hm hp hf hpd hr
        go_enter Try.func26, Try.ntmps26
        go_wp2_with fail
        rw [← hW0]
        clear hW0
        go_wp2_with fail
        refine (implIs_any w h E _).mono ?_
        rw [HB.out]
        rintro e w1 ⟨rfl, hb1⟩
        obtain ⟨c0, c1, c2⟩ := HX0.out.keep hb1
        have HB1 := hide hb1
        clear hb1
        go_wp2_with fail
        refine (boxes_any w h E h1 h2 h3 h4 _).mono ?_
        rw [HM.out]
        rintro e w2 ⟨rfl, hb2⟩
        have hO0 : Hid (Owns (W.heap.size + 1) W0 w2 (.slice none 0 0) (pre p 0)) := by
          have hbb := Below.trans' HB1.out hb2
          have := hbb.size
          have := HS0.out
          exact hide (Owns.nil (hbb.mono (by omega)) (by omega))
        clear hb2 c0 c1 c2
        go_wp2_with fail
        go_loopw [6, 19] (fun v i wr => ∃ (k : Nat) (v0 : Value), v0 = v ∧ k ≤ m ∧ i = .int .i64 k ∧ Owns (W.heap.size + 1) W0 wr v (pre p k)) (fun _ i _ => m - (intOf i).toNat)
        case atStart => exact ⟨0, _, rfl, Nat.zero_le _, rfl, hO0.out⟩
        case round =>
          clear hO0
          obtain ⟨k, v, rfl, hk, rfl, hO⟩ := hrel
          obtain ⟨c0, c1, c2⟩ := HX0.out.below hO.old (by omega)
          by_cases hlt : k < m
          · have hple := pre_le p k
            have hki : Hid ((k : Int) < w * h) := hide (by rw [HM.out]; omega)
            obtain ⟨x, hx⟩ : ∃ x, x = cnt4 w h E k := ⟨_, rfl⟩
            have HX := hide hx
            by_cases hxn : x = n
            · have HQ := hide (pre_yes (p := p) (k := k) (by rw [HP.out, ← hx]; simpa using hxn))
              have hxd : (x == n) = true := by simp [hxn]
              have HXN := hide hxn
              clear hx hxn
              go_wp2_with fail
              refine (drawnAround_any w h E k HB.out (by omega) hki.out _).mono ?_
              rw [← HX.out]
              rintro e w3 ⟨rfl, hb3⟩
              have hO2 := hO.keep hb3
              have hown2 := hO2.own
              have hsz2 := hO2.size
              have HO2 := hide hO2
              clear hO hO2 hb3 c0 c1 c2
              go_wp2_with (at_builtin; refine wpList_append_own _ rfl _ _ 30 rfl (W.heap.size + 1) 2 i0 (.int .i64 0) 1 8 Try.underlying30 hi0 hz0 hz1 hz2 rfl (by decide) _ _ _ rfl (hown2.alloc _) ⟨w3.heap.size, 0, none⟩ 1 1 [.int .i64 k] rfl rfl (cell_one_new _ _ _) (by simp [Value.oneCell']) (by unfold maxLen; omega) (by omega) (by simp; omega) ?_)
              intro v' w4 hown' hgrow _
              have hO3 := hide (HO2.out.snoc (by simpa using hown') hgrow)
              clear hown' hgrow hown2 HO2
              go_wp2_with fail
              go_roundw
              case rel => exact ⟨k + 1, _, rfl, by omega, by go_num, by rw [HQ.out]; exact hO3.out⟩
              case measure => simp [intOf]; omega
            · have HQ := hide (pre_no (p := p) (k := k) (by rw [HP.out, ← hx]; simpa using hxn))
              have hxd : (x == n) = false := by simp [hxn]
              have HXN := hide hxn
              clear hx hxn
              go_wp2_with fail
              refine (drawnAround_any w h E k HB.out (by omega) hki.out _).mono ?_
              rw [← HX.out]
              rintro e w3 ⟨rfl, hb3⟩
              have hO2 := hide (hO.keep hb3)
              clear hO hb3 c0 c1 c2
              go_wp2_with fail
              go_roundw
              case rel => exact ⟨k + 1, _, rfl, by omega, by go_num, by rw [HQ.out]; exact hO2.out⟩
              case measure => simp [intOf]; omega
          · obtain rfl : k = m := by omega
            obtain ⟨a, c, hv, ho, hbf⟩ := hO.list HB0.out (by omega)
            obtain rfl : v = .slice a (pre p k).length c := by simpa using hv
            have hfin : Hid (NewList (pre p k, 0) W (.returned (.tuple #[.slice a (pre p k).length c, .int .i64 0])) wr) := hide ⟨a, c, rfl, ho, hbf⟩
            clear hO ho hbf hv c0 c1 c2
            go_wp2_with fail
            go_ret2
            rw [HR.out]
            exact hfin.out

set_option maxRecDepth 100000 in
set_option maxHeartbeats 1000000 in
theorem implTaken_any (w h E : Int) (W : World) : Calls Try.prog 24 #[.agg #[.int .i64 w, .int .i64 h, .int .i64 E]] W (NewList (withR w h E 4) W) := by
  have hB0 := hide (below_alloc W (.cells #[.int .i64 w, .int .i64 h, .int .i64 E] 25))
  have hX0 := hide (boxIn_new W w h E 25)
  obtain ⟨r, hr⟩ : ∃ r, r = withR w h E 4 := ⟨_, rfl⟩
  have HR := hide hr
  rw [← hr]
  clear hr
  go_enter Try.func24, Try.ntmps24
  go_wp2_with fail
  refine (implWith_any w h E 4 _).mono ?_
  rw [← HR.out]
  rintro e w2 ⟨a, c, rfl, ho, hb2⟩
  have hfin : Hid (NewList r W (.returned (.tuple #[.slice a r.1.length c, .int .i64 r.2])) w2) := hide ⟨a, c, rfl, ownsRow_base ho hB0.out.size, Below.trans' hB0.out hb2⟩
  clear ho hb2
  go_wp2_with fail
  go_ret2
  exact hfin.out
end Go.Proofs.Ytincdnlinepcgaa
