/-
  Dots and boxes: the model's functions on grids, edges and boxes.
-/
import Derived.Test.YtincdnlinepcgaaBxP
namespace Go.Proofs.Ytincdnlinepcgaa
open Go.RowKit
set_option linter.unusedVariables false

def inn (n lo hi : Int) : Bool := decide (lo ≤ n) && decide (n ≤ hi)
set_option maxHeartbeats 400000 in
theorem inn_any (n lo hi : Int) (W : World) : Calls Try.prog 47 #[.int .i64 n, .int .i64 lo, .int .i64 hi] W (RetB (.bool (inn n lo hi)) W) := by
  by_cases h1 : lo ≤ n
  · by_cases h2 : n ≤ hi
    · go_enter Try.func47, Try.ntmps47
      go_wp2
      go_ret
      exact ⟨ret_bool (by simp [inn, h1, h2]), Below.refl _ _⟩
    · go_enter Try.func47, Try.ntmps47
      go_wp2
      go_ret
      exact ⟨ret_bool (by simp [inn, h2]), Below.refl _ _⟩
  · go_enter Try.func47, Try.ntmps47
    go_wp2
    go_ret
    exact ⟨ret_bool (by simp [inn]; omega), Below.refl _ _⟩
theorem inn_is {b : Bool} (n lo hi : Int) (h : inn n lo hi = b) (W : World) : Calls Try.prog 47 #[.int .i64 n, .int .i64 lo, .int .i64 hi] W (RetB (.bool b) W) := by
  rw [← h]
  exact inn_any n lo hi W

theorem u64_small {k : Int} (h0 : 0 ≤ k) (h1 : k ≤ 64) : IntKind.u64.wrap k = k := by
  rw [IntKind.wrap_u64]
  omega

set_option maxHeartbeats 400000 in
theorem specCount_any (w h E : Int) (h1 : 1 ≤ w) (h2 : w ≤ 3) (h3 : 1 ≤ h) (h4 : h ≤ 3) (W : World) :
    Calls Try.prog 41 #[.agg #[.int .i64 w, .int .i64 h, .int .i64 E]] W (RetB (.int .i64 (nEdge w h)) W) := by
  obtain ⟨_, _, g1, g2, g3, g4, g5, g6, g7⟩ := grid_nums h1 h2 h3 h4
  have g8 : 0 ≤ h * (w + 1) := by omega
  have g9 : h * (w + 1) ≤ 12 := by omega
  have G := hide (And.intro g5 g6)
  clear g5 g6 g7 g3 g4
  go_enter Try.func41, Try.ntmps41
  go_wp2
  go_ret
  exact ⟨ret_int (by rw [G.out.2, G.out.1]), below_alloc _ _⟩

set_option maxHeartbeats 1000000 in
theorem specIs_any (w h E : Int) (W : World) :
    Calls Try.prog 38 #[.agg #[.int .i64 w, .int .i64 h, .int .i64 E]] W (RetB (.bool (okBox w h E)) W) := by
  have hB0 := hide (below_alloc W (.cells #[.int .i64 w, .int .i64 h, .int .i64 E] 25))
  obtain ⟨c0, c1, c2⟩ := (boxIn_new W w h E 25).past
  cases h1 : inn w 1 3
  · have hok : okBox w h E = false := by have : ¬ (1 ≤ w ∧ w ≤ 3) := by simpa [inn] using h1
                                         simp [okBox]; omega
    have HK := hide hok
    have H1 := hide h1
    clear hok h1
    go_enter Try.func38, Try.ntmps38
    go_wp2
    refine wp_region_past (by kernel_rfl) (by kernel_rfl) ?_
    repeat (first | go_big_quiet_step ((go_at_call 47; (with_reducible exact ret_past (inn_is _ _ _ H1.out _)))) | quiet_step ((go_at_call 47; (with_reducible exact ret_past (inn_is _ _ _ H1.out _)))))
    refine wpQuiet_nil ?_
    rintro _ ⟨pq, rfl⟩
    go_wp2
    go_ret
    exact ⟨ret_bool HK.out.symm, Below.trans' hB0.out pq.old⟩
  · cases h2 : inn h 1 3
    · have hok : okBox w h E = false := by have : ¬ (1 ≤ h ∧ h ≤ 3) := by simpa [inn] using h2
                                           simp [okBox]; omega
      have HK := hide hok
      have H1 := hide h1
      have H2 := hide h2
      clear hok h1 h2
      go_enter Try.func38, Try.ntmps38
      go_wp2
      refine wp_region_past (by kernel_rfl) (by kernel_rfl) ?_
      repeat (first | go_big_quiet_step ((first | (go_at_call 47; (with_reducible exact ret_past (inn_is _ _ _ H1.out _))) | (go_at_call 47; (with_reducible exact ret_past (inn_is _ _ _ H2.out _))))) | quiet_step ((first | (go_at_call 47; (with_reducible exact ret_past (inn_is _ _ _ H1.out _))) | (go_at_call 47; (with_reducible exact ret_past (inn_is _ _ _ H2.out _))))))
      refine wpQuiet_nil ?_
      rintro _ ⟨pq, rfl⟩
      go_wp2
      go_ret
      exact ⟨ret_bool HK.out.symm, Below.trans' hB0.out pq.old⟩
    · obtain ⟨k1, k2⟩ : 1 ≤ w ∧ w ≤ 3 := by simpa [inn] using h1
      obtain ⟨k3, k4⟩ : 1 ≤ h ∧ h ≤ 3 := by simpa [inn] using h2
      have H1 := hide h1
      have H2 := hide h2
      clear h1 h2
      by_cases hE : 0 ≤ E
      · have hn := grid_nums k1 k2 k3 k4
        have n1 : 0 ≤ nEdge w h := by omega
        have n2 : nEdge w h ≤ 24 := by omega
        have hsh := shl_walk64 (k := nEdge w h) (by omega)
        have hu := u64_small n1 (by omega)
        have hd : decide (0 ≤ E) = true := decide_eq_true hE
        have hok : okBox w h E = decide (E < 2 ^ (nEdge w h).toNat) := by simp [okBox, *]
        have HK := hide hok
        clear hok hn
        go_enter Try.func38, Try.ntmps38
        go_wp2
        refine wp_region_past (by kernel_rfl) (by kernel_rfl) ?_
        repeat (first | go_big_quiet_step ((first | (go_at_call 47; (with_reducible exact ret_past (inn_is _ _ _ H1.out _))) | (go_at_call 47; (with_reducible exact ret_past (inn_is _ _ _ H2.out _))) | (go_at_call 41; (with_reducible exact ret_past (specCount_any _ _ _ k1 k2 k3 k4 _))))) | quiet_step ((first | (go_at_call 47; (with_reducible exact ret_past (inn_is _ _ _ H1.out _))) | (go_at_call 47; (with_reducible exact ret_past (inn_is _ _ _ H2.out _))) | (go_at_call 41; (with_reducible exact ret_past (specCount_any _ _ _ k1 k2 k3 k4 _))))))
        refine wpQuiet_nil ?_
        rintro _ ⟨pq, rfl⟩
        go_wp2
        go_ret
        exact ⟨ret_bool HK.out.symm, Below.trans' hB0.out pq.old⟩
      · have hok : okBox w h E = false := by simp [okBox]; omega
        have hd : decide (0 ≤ E) = false := decide_eq_false hE
        have HK := hide hok
        clear hok
        go_enter Try.func38, Try.ntmps38
        go_wp2
        refine wp_region_past (by kernel_rfl) (by kernel_rfl) ?_
        repeat (first | go_big_quiet_step ((first | (go_at_call 47; (with_reducible exact ret_past (inn_is _ _ _ H1.out _))) | (go_at_call 47; (with_reducible exact ret_past (inn_is _ _ _ H2.out _))))) | quiet_step ((first | (go_at_call 47; (with_reducible exact ret_past (inn_is _ _ _ H1.out _))) | (go_at_call 47; (with_reducible exact ret_past (inn_is _ _ _ H2.out _))))))
        refine wpQuiet_nil ?_
        rintro _ ⟨pq, rfl⟩
        go_wp2
        go_ret
        exact ⟨ret_bool HK.out.symm, Below.trans' hB0.out pq.old⟩

/-- A row of numbers that is known whole. -/
theorem lit_owns {w : World} {b B : Nat} {zs : List Int} {t : TypeId} (hb : w.heap[b]? = some (.cells (zs.map intV).toArray t (0, 0))) (hB : B ≤ b) (hn : zs.length ≤ maxLen) : w.ownsRow B t 1 (.slice (some ⟨b, 0, none⟩) zs.length zs.length) zs.length (zs.map intV) :=
  ⟨by simp, .inr ⟨b, zs.length, _, rfl, hB, hb, Nat.le_refl _, hn, by simp, by simp [List.take_of_length_le]⟩⟩

set_option maxHeartbeats 1000000 in
theorem specAround_any (w h E i : Int) (h1 : 1 ≤ w) (h2 : w ≤ 3) (h3 : 1 ≤ h) (h4 : h ≤ 3) (h5 : 0 ≤ i) (h6 : i < w * h) (W : World) :
    Calls Try.prog 43 #[.agg #[.int .i64 w, .int .i64 h, .int .i64 E], .int .i64 i] W (NewL (around w h i) W) := by
  obtain ⟨g1, g2, g3, g4, g5, g6, g7, g8, g9, g10, g11, g12⟩ := box_nums h1 h2 h3 h4 h5 h6
  obtain ⟨_, _, n3, n4, _⟩ := grid_nums h1 h2 h3 h4
  have hq : wrap64 (i.tdiv w) = i / w := by rw [Int.tdiv_eq_ediv_of_nonneg h5]; exact wrap64_small g1 (by omega)
  go_enter Try.func43, Try.ntmps43
  go_wp2
  go_quiet (fail)
  go_wp2
  have hrow : Hid (((W.alloc (.cells #[.int .i64 w, .int .i64 h, .int .i64 E] 25)).alloc (.cells #[.int .i64 (i / w * w + i % w), .int .i64 ((i / w + 1) * w + i % w), .int .i64 (w * (h + 1) + i / w * (w + 1) + i % w), .int .i64 (w * (h + 1) + i / w * (w + 1) + i % w + 1)] 2)).heap[W.heap.size + 1]? = some (.cells ((around w h i).map intV).toArray 2 (0, 0))) := by
    refine hide ?_
    have := heap_alloc_new (W.alloc (.cells #[.int .i64 w, .int .i64 h, .int .i64 E] 25)) (.cells #[.int .i64 (i / w * w + i % w), .int .i64 ((i / w + 1) * w + i % w), .int .i64 (w * (h + 1) + i / w * (w + 1) + i % w), .int .i64 (w * (h + 1) + i / w * (w + 1) + i % w + 1)] 2 (0, 0))
    have e : (w * (h + 1) + i / w * (w + 1) + i % w + 1) = (w * (h + 1) + i / w * (w + 1) + (i % w + 1)) := by omega
    rw [show W.heap.size + 1 = (W.alloc (.cells #[.int .i64 w, .int .i64 h, .int .i64 E] 25)).heap.size by simp, this, e]
    rfl
  go_ret
  exact ⟨some ⟨W.heap.size + 1, 0, none⟩, 4, rfl, lit_owns hrow.out (by omega) (by unfold maxLen; simp [around]), below_drewN ((below_alloc _ _).alloc (by simp) _) _⟩

theorem around_get {w h E i : Int} {k : Nat} {z : Int} (h1 : 1 ≤ w) (h2 : w ≤ 3) (h3 : 1 ≤ h) (h4 : h ≤ 3) (h5 : 0 ≤ i) (h6 : i < w * h) (hz : (around w h i)[k]? = some z) :
    k < 4 ∧ 0 ≤ z ∧ z < 24 ∧ cntTo w h E i (k + 1) = cntTo w h E i k + dg E z := by
  have hr := around_range h1 h2 h3 h4 h5 h6
  have hn := grid_nums h1 h2 h3 h4
  have hk : k < 4 := (List.getElem?_eq_some_iff.1 hz).1
  rcases (by omega : k = 0 ∨ k = 1 ∨ k = 2 ∨ k = 3) with rfl | rfl | rfl | rfl <;> simp [around] at hz <;> subst hz <;> refine ⟨by omega, by omega, by omega, ?_⟩ <;> simp [cntTo, cnt4]

set_option maxHeartbeats 1000000 in
theorem specDrawn_any (w h E i : Int) (hb : okBox w h E = true) (h5 : 0 ≤ i) (h6 : i < w * h) (W : World) :
    Calls Try.prog 55 #[.agg #[.int .i64 w, .int .i64 h, .int .i64 E], .int .i64 i] W (RetB (.int .i64 (cnt4 w h E i)) W) := by
  obtain ⟨h1, h2, h3, h4, _, _⟩ := okBox_parts hb
  obtain ⟨e1, e2⟩ := okBox_E hb
  obtain ⟨C, hC⟩ : ∃ C : Nat → Int, C = cntTo w h E i := ⟨_, rfl⟩
  have hCb : ∀ k, k ≤ 4 → 0 ≤ C k ∧ C k ≤ 4 := by rw [hC]; exact cntTo_bd w h E i
  have hCs : ∀ (k : Nat) (z : Int), (around w h i)[k]? = some z → k < 4 ∧ 0 ≤ z ∧ z < 24 ∧ C (k + 1) = C k + dg E z := by rw [hC]; exact fun k z => around_get h1 h2 h3 h4 h5 h6
  have hC0 : C 0 = 0 := by rw [hC]; rfl
  have hC4 : C 4 = cnt4 w h E i := by rw [hC]; rfl
  have HB := hide hCb
  have HS := hide hCs
  have H0 := hide hC0
  have H4 := hide hC4
  have hbx := boxIn_new W w h E 25
  have hB0 := below_alloc W (.cells #[.int .i64 w, .int .i64 h, .int .i64 E] 25)
  have HBX := hide hbx
  have HB0 := hide hB0
  clear hC hCb hCs hC0 hC4 hbx hB0
  go_enter Try.func55, Try.ntmps55
  go_wp2_with fail
  refine (specAround_any w h E i h1 h2 h3 h4 h5 h6 _).mono ?_
  rintro e w1 ⟨a, c, rfl, ho, hb1⟩
  have hl := hide (intsAt_of_ownsRow ho)
  have hX1 := hide (HBX.out.keep hb1)
  have hB1 := hide (Below.trans' HB0.out hb1)
  clear ho hb1
  obtain ⟨n, hn⟩ : ∃ n, n = (around w h i).length := ⟨_, rfl⟩
  have hn4 : n = 4 := hn
  rw [← hn]
  subst hn4
  clear hn
  go_wp2_with fail
  go_loopw [6, 7] (fun s j wr => ∃ k : Nat, k ≤ 4 ∧ j = .int .i64 k ∧ s = .int .i64 (C k) ∧ Below w1.heap.size w1 wr) (fun _ j _ => 4 - (intOf j).toNat)
  case atStart => exact ⟨0, by omega, rfl, by rw [H0.out], Below.refl _ _⟩
  case round =>
    obtain ⟨k, hk, rfl, rfl, hO⟩ := hrel
    have hck := HB.out k hk
    by_cases hlt : k < 4
    · obtain ⟨b, off, z, rfl, hcz, hz⟩ := (hl.out.keep hO).one (k := k) hlt
      obtain ⟨_, z0, z1, hs⟩ := HS.out k z hz.out
      obtain ⟨c0, c1, c2⟩ := hX1.out.keep hO
      have hu := u64_small z0 (by omega)
      have hd := dg_walk (k := z) e1 e2
      have hd01 := dg_01 E z
      have hd0 : 0 ≤ dg E z := by omega
      have hd1 : dg E z ≤ 1 := by omega
      have HSS := hide hs
      clear hd01 hs hz
      go_wp2_with fail
      go_quiet (fail)
      go_wp2_with fail
      go_roundw
      case rel => exact ⟨k + 1, by omega, by go_num, by rw [HSS.out], below_drewN hO _⟩
      case measure => simp [intOf]; omega
    · obtain rfl : k = 4 := by omega
      go_wp2_with fail
      go_ret
      exact ⟨ret_int H4.out, Below.trans' hB1.out hO⟩
end Go.Proofs.Ytincdnlinepcgaa
