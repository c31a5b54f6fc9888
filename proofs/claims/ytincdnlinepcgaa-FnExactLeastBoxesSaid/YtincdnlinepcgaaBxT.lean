/-
  Dots and boxes: the model's lists of boxes and edges, and moves.
-/
import Derived.Test.YtincdnlinepcgaaBxS
namespace Go.Proofs.Ytincdnlinepcgaa
open Go.RowKit
set_option linter.unusedVariables false

theorem Owns.made {B : Nat} {W0 w : World} (h : Below B W0 w) (hs : B ≤ w.heap.size) : Owns B W0 (w.alloc (.cells #[] 2)) (.slice (some ⟨w.heap.size, 0, none⟩) 0 0) [] :=
  ⟨World.ownsRow_made w #[] 0 hs (Nat.zero_le _) rfl, h.alloc hs _, by simp; omega⟩

theorem edges_nat {w h E : Int} (hb : okBox w h E = true) : ∃ m : Nat, nEdge w h = (m : Int) ∧ m ≤ 24 := by
  obtain ⟨h1, h2, h3, h4, _, _⟩ := okBox_parts hb
  have := grid_nums h1 h2 h3 h4
  exact ⟨(nEdge w h).toNat, by omega, by omega⟩

set_option maxRecDepth 100000 in
set_option maxHeartbeats 1000000 in
theorem specWith_any (w h E n : Int) (hb : okBox w h E = true) (W : World) :
    Calls Try.prog 46 #[.agg #[.int .i64 w, .int .i64 h, .int .i64 E], .int .i64 n] W (NewL (withB w h E n) W) := by
  obtain ⟨i0, hi0, hz0, hz1, hz2⟩ := info_parts Try.info2
  obtain ⟨h1, h2, h3, h4, _, _⟩ := okBox_parts hb
  obtain ⟨m, hm, hm9⟩ := boxes_nat hb
  obtain ⟨p, hp⟩ : ∃ p : Int → Bool, p = fun i => decide (cnt4 w h E i = n) := ⟨_, rfl⟩
  have hf : withB w h E n = pre p m := by rw [hp]; unfold withB; rw [hm]; rfl
  have hpd : ∀ k : Nat, p (k : Int) = decide (cnt4 w h E (k : Int) = n) := by intro k; rw [hp]
  obtain ⟨W0, hW0⟩ : ∃ W0, W0 = W.alloc (.cells #[.int .i64 w, .int .i64 h, .int .i64 E] 25) := ⟨_, rfl⟩
  have hB0 : Below W.heap.size W W0 := by rw [hW0]; exact below_alloc _ _
  have hx0 : BoxIn W0 W.heap.size w h E := by rw [hW0]; exact boxIn_new _ _ _ _ _
  have hs0 : W.heap.size + 1 = W0.heap.size := by rw [hW0]; simp
  have hO0 : Hid (Owns (W.heap.size + 1) W0 (W0.alloc (.cells #[] 2)) (.slice (some ⟨W.heap.size + 1, 0, none⟩) 0 0) (pre p 0)) := by rw [hs0]; exact hide (Owns.made (Below.refl _ _) (by omega))
  have HF := hide hf
  have HP := hide hpd
  have HM := hide hm
  have HB0 := hide hB0
  have HX0 := hide hx0
  clear hf hpd hB0 hx0 hp hs0
  have m0 : 0 ≤ w * h := by omega
  have m9 : w * h ≤ 9 := by omega
  go_enter Try.func46, Try.ntmps46
  go_wp2_with fail
  rw [← hW0]
  clear hW0 hm
  go_wp2_with fail
  go_loopw [5, 6] (fun v i wr => ∃ (k : Nat) (v0 : Value), v0 = v ∧ k ≤ m ∧ i = .int .i64 k ∧ Owns (W.heap.size + 1) W0 wr v (pre p k)) (fun _ i _ => m - (intOf i).toNat)
  case atStart => exact ⟨0, _, rfl, Nat.zero_le _, rfl, hO0.out⟩
  case round =>
    clear hO0
    obtain ⟨k, v, rfl, hk, rfl, hO⟩ := hrel
    obtain ⟨c0, c1, c2⟩ := HX0.out.below hO.old (by omega)
    by_cases hlt : k < m
    · have hple := pre_le p k
      have hki : (k : Int) < w * h := by rw [HM.out]; omega
      obtain ⟨x, hx⟩ : ∃ x, x = cnt4 w h E k := ⟨_, rfl⟩
      have HX := hide hx
      by_cases hxn : x = n
      · have HQ := hide (pre_yes (p := p) (k := k) (by rw [HP.out, ← hx]; simpa using hxn))
        have hxd : (x == n) = true := by simp [hxn]
        have HXN := hide hxn
        clear hx hxn
        go_wp2_with fail
        refine (specDrawn_any w h E k hb (by omega) hki _).mono ?_
        rw [← HX.out]
        rintro e w2 ⟨rfl, hb2⟩
        have hO2 := hO.keep hb2
        have hown2 := hO2.own
        have hsz2 := hO2.size
        have HO2 := hide hO2
        clear hO hO2 hb2 c0 c1 c2
        go_wp2_with (at_builtin; refine wpList_append_own _ rfl _ _ 30 rfl (W.heap.size + 1) 2 i0 (.int .i64 0) 1 8 Try.underlying30 hi0 hz0 hz1 hz2 rfl (by decide) _ _ _ rfl (hown2.alloc _) ⟨w2.heap.size, 0, none⟩ 1 1 [.int .i64 k] rfl rfl (cell_one_new _ _ _) (by simp [Value.oneCell']) (by unfold maxLen; omega) (by omega) (by simp; omega) ?_)
        intro v' w3 hown' hgrow _
        have hO3 := hide (HO2.out.snoc (by simpa using hown') hgrow)
        clear hown' hgrow hown2 HO2
        go_wp2_with fail
        go_roundw
        case rel => exact ⟨k + 1, _, rfl, by omega, by go_num, by rw [HQ.out]; exact hO3.out⟩
        case measure => simp [intOf]; omega
      · have HQ := hide (pre_no (p := p) (k := k) (by rw [HP.out, ← hx]; simpa using hxn))
        have hxd : (x == n) = false := by simp [hxn]
        have HXN := hide hxn
        clear hx hxn
        go_wp2_with fail
        refine (specDrawn_any w h E k hb (by omega) hki _).mono ?_
        rw [← HX.out]
        rintro e w2 ⟨rfl, hb2⟩
        have hO2 := hide (hO.keep hb2)
        clear hO hb2 c0 c1 c2
        go_wp2_with fail
        go_roundw
        case rel => exact ⟨k + 1, _, rfl, by omega, by go_num, by rw [HQ.out]; exact hO2.out⟩
        case measure => simp [intOf]; omega
    · obtain rfl : k = m := by omega
      have hki : ¬ (k : Int) < w * h := by rw [HM.out]; omega
      have hfin := hide (hO.list HB0.out (by omega))
      clear hO
      go_wp2_with fail
      go_ret
      rw [HF.out]
      exact hfin.out

set_option maxRecDepth 100000 in
set_option maxHeartbeats 1000000 in
theorem specFree_any (w h E : Int) (hb : okBox w h E = true) (W : World) :
    Calls Try.prog 49 #[.agg #[.int .i64 w, .int .i64 h, .int .i64 E]] W (NewL (freeE w h E) W) := by
  obtain ⟨i0, hi0, hz0, hz1, hz2⟩ := info_parts Try.info2
  obtain ⟨h1, h2, h3, h4, _, _⟩ := okBox_parts hb
  obtain ⟨e1, e2⟩ := okBox_E hb
  obtain ⟨n, hn, hn24⟩ := edges_nat hb
  obtain ⟨p, hp⟩ : ∃ p : Int → Bool, p = fun e => !drawn E e := ⟨_, rfl⟩
  have hf : freeE w h E = pre p n := by rw [hp]; unfold freeE; rw [hn]; rfl
  have hpd : ∀ k : Nat, p (k : Int) = !drawn E (k : Int) := by intro k; rw [hp]
  obtain ⟨W0, hW0⟩ : ∃ W0, W0 = W.alloc (.cells #[.int .i64 w, .int .i64 h, .int .i64 E] 25) := ⟨_, rfl⟩
  have hB0 : Below W.heap.size W W0 := by rw [hW0]; exact below_alloc _ _
  have hx0 : BoxIn W0 W.heap.size w h E := by rw [hW0]; exact boxIn_new _ _ _ _ _
  have hs0 : W.heap.size + 1 = W0.heap.size := by rw [hW0]; simp
  have hO0 : Hid (Owns (W.heap.size + 1) W0 (W0.alloc (.cells #[] 2)) (.slice (some ⟨W.heap.size + 1, 0, none⟩) 0 0) (pre p 0)) := by rw [hs0]; exact hide (Owns.made (Below.refl _ _) (by omega))
  have HF := hide hf
  have HP := hide hpd
  have HN := hide hn
  have HB0 := hide hB0
  have HX0 := hide hx0
  clear hf hpd hB0 hx0 hp hs0
  go_enter Try.func49, Try.ntmps49
  go_wp2_with fail
  rw [← hW0]
  clear hW0 hn
  go_wp2_with fail
  go_loopw [3, 4] (fun v i wr => ∃ (k : Nat) (v0 : Value), v0 = v ∧ k ≤ n ∧ i = .int .i64 k ∧ Owns (W.heap.size + 1) W0 wr v (pre p k)) (fun _ i _ => n - (intOf i).toNat)
  case atStart => exact ⟨0, _, rfl, Nat.zero_le _, rfl, hO0.out⟩
  case round =>
    clear hO0
    obtain ⟨k, v, rfl, hk, rfl, hO⟩ := hrel
    obtain ⟨c0, c1, c2⟩ := HX0.out.below hO.old (by omega)
    go_wp2_with fail
    refine (specCount_any w h E h1 h2 h3 h4 _).mono ?_
    rw [HN.out]
    rintro e w1 ⟨rfl, hb1⟩
    have hO1 := hO.keep hb1
    obtain ⟨c0, c1, c2⟩ := HX0.out.below hO1.old (by omega)
    clear hO hb1
    by_cases hlt : k < n
    · have hple := pre_le p k
      have hu := u64_small (k := (k : Int)) (by omega) (by omega)
      have hd : bits BinOp.and IntKind.i64 (E / 2 ^ k) 1 = dg E (k : Int) := dg_walk (k := (k : Int)) e1 e2
      have hown1 := hO1.own
      have hsz1 := hO1.size
      have HO1 := hide hO1
      clear hO1
      cases hdr : drawn E (k : Int)
      · have hx0 : dg E (k : Int) = 0 := dg_of_free hdr
        have hxd : (dg E (k : Int) == 0) = true := by simp [hx0]
        have HQ := hide (pre_yes (p := p) (k := k) (by rw [HP.out, hdr]; rfl))
        clear hdr hx0
        go_wp2_with (at_builtin; refine wpList_append_own _ rfl _ _ 30 rfl (W.heap.size + 1) 2 i0 (.int .i64 0) 1 8 Try.underlying30 hi0 hz0 hz1 hz2 rfl (by decide) _ _ _ rfl (hown1.alloc _) ⟨w1.heap.size, 0, none⟩ 1 1 [.int .i64 k] rfl rfl (cell_one_new _ _ _) (by simp [Value.oneCell']) (by unfold maxLen; omega) (by omega) (by simp; omega) ?_)
        intro v' w3 hown' hgrow _
        have hO3 := hide (HO1.out.snoc (by simpa using hown') hgrow)
        clear hown' hgrow hown1 HO1
        go_wp2_with fail
        go_roundw
        case rel => exact ⟨k + 1, _, rfl, by omega, by go_num, by rw [HQ.out]; exact hO3.out⟩
        case measure => simp [intOf]; omega
      · have hx0 : dg E (k : Int) = 1 := dg_of_drawn hdr
        have hxd : (dg E (k : Int) == 0) = false := by simp [hx0]
        have HQ := hide (pre_no (p := p) (k := k) (by rw [HP.out, hdr]; rfl))
        clear hdr hx0 hown1
        go_wp2_with fail
        go_roundw
        case rel => exact ⟨k + 1, _, rfl, by omega, by go_num, by rw [HQ.out]; exact HO1.out⟩
        case measure => simp [intOf]; omega
    · obtain rfl : k = n := by omega
      have hfin := hide (hO1.list HB0.out (by omega))
      clear hO1
      go_wp2_with fail
      go_ret
      rw [HF.out]
      exact hfin.out
end Go.Proofs.Ytincdnlinepcgaa
