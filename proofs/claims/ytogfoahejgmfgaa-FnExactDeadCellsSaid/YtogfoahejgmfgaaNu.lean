/-
  Boards of hexagons: the need of a player, who joins, both texts; JoinerOf; NeedOf, the program's text.
-/
import Derived.Test.YtogfoahejgmfgaaNo
import Derived.Test.YtogfoahejgmfgaaJs
namespace Go.Proofs.Ytogfoahejgmfgaa
open Go.RowKit
set_option linter.unusedVariables false

theorem okH_nat {n : Int} {cs : List Int} {a : Option Addr} {W : World} (h : okH n cs = true) (ha : IntsAt W a cs) : ∃ N b off, n = ((N : Nat) : Int) ∧ 1 ≤ N ∧ N ≤ 8 ∧ cs.length = N * N ∧ (∀ z ∈ cs, 0 ≤ z ∧ z ≤ 2) ∧ a = some ⟨b, off, none⟩ := by
  obtain ⟨h1, h2, h3, h4⟩ := okH_yes h
  obtain ⟨N, rfl⟩ := Int.eq_ofNat_of_zero_le (by omega : 0 ≤ n)
  have h5 : cs.length = N * N := by exact_mod_cast h3
  have hl := (okH_len h).1
  obtain ⟨b, off, e, _⟩ := CellsAt.lt ha (by
    intro e
    have := congrArg List.length e
    simp at this
    rw [this] at hl
    simp at hl)
  exact ⟨N, b, off, rfl, by omega, by omega, h5, h4, e⟩

set_option maxRecDepth 100000 in
set_option maxHeartbeats 2000000 in
theorem needOf1_any (N : Nat) (b off c : Nat) (cs : List Int) (hN1 : 1 ≤ N) (hN8 : N ≤ 8) (hlen : cs.length = N * N) (hc : cs.length ≤ c) (hz : ∀ z ∈ cs, 0 ≤ z ∧ z ≤ 2) (W : World) (ha : IntsAt W (some ⟨b, off, none⟩) cs) :
    Calls Try.prog 48 #[.agg #[.int .i64 N, .slice (some ⟨b, off, none⟩) cs.length c], .int .i64 1] W (RetB (.int .i64 (encI (needO N cs 1))) W) := by
  obtain ⟨W0, hW0⟩ : ∃ W0, W0 = W.alloc (.cells #[.int .i64 N, .slice (some ⟨b, off, none⟩) cs.length c] 28) := ⟨_, rfl⟩
  have hB0 : Hid (Below W.heap.size W W0) := by rw [hW0]; exact hide (below_alloc _ _)
  obtain ⟨c0, c1⟩ : HexIn W0 W.heap.size N (some ⟨b, off, none⟩) cs.length c := by rw [hW0]; exact hexIn_new _ _ _ _ _ _
  have HC := hide (needOne_any N b off c cs hN1 hN8 hlen hz W0 (ha.keep hB0.out))
  clear ha hz hlen
  go_enter Try.func48, Try.ntmps48
  go_wp2_with fail
  rw [← hW0]
  clear hW0
  (try go_wp2_with fail)
  refine (HC.out).mono ?_
  rintro e w1 ⟨rfl, hb1⟩
  have hB1 := hide (Below.trans' hB0.out hb1)
  clear hb1 c0 c1
  go_wp2_with fail
  go_ret
  exact ⟨rfl, hB1.out⟩

set_option maxRecDepth 100000 in
set_option maxHeartbeats 2000000 in
theorem needOf2_any (N : Nat) (b off c : Nat) (cs : List Int) (hN1 : 1 ≤ N) (hN8 : N ≤ 8) (hlen : cs.length = N * N) (hc : cs.length ≤ c) (hz : ∀ z ∈ cs, 0 ≤ z ∧ z ≤ 2) (W : World) (ha : IntsAt W (some ⟨b, off, none⟩) cs) :
    Calls Try.prog 48 #[.agg #[.int .i64 N, .slice (some ⟨b, off, none⟩) cs.length c], .int .i64 2] W (RetB (.int .i64 (encI (needO N cs 2))) W) := by
  obtain ⟨W0, hW0⟩ : ∃ W0, W0 = W.alloc (.cells #[.int .i64 N, .slice (some ⟨b, off, none⟩) cs.length c] 28) := ⟨_, rfl⟩
  have hB0 : Hid (Below W.heap.size W W0) := by rw [hW0]; exact hide (below_alloc _ _)
  have hr0 : Hid (W0.heap[W.heap.size]? = some (.cells #[.int .i64 N, .slice (some ⟨b, off, none⟩) cs.length c] 28 (0, 0))) := by rw [hW0]; exact hide (alloc_row _ _ _)
  obtain ⟨c0, c1, _, _⟩ := row2' hr0.out
  have hok : okH N cs = true := okH_mk (by omega) (by omega) (by rw [hlen]; push_cast; rfl) hz
  have hmr : Hid (needO N (mirH N cs) 1 = needO N cs 2) := hide (need_mir hok)
  have hmo := hide (okH_mir hok)
  have HC := hide (mirrored_any N b off c cs hN1 hN8 hlen hc hz W0 (ha.keep hB0.out))
  clear ha hz hlen hok
  go_enter Try.func48, Try.ntmps48
  go_wp2_with fail
  rw [← hW0]
  clear hW0
  (try go_wp2_with fail)
  refine (HC.out).mono ?_
  rintro e w1 ⟨g, k, rfl, ho1, hb1⟩
  have hB1 := hide (Below.trans' hB0.out hb1)
  have hr1 := box_keep hr0.out hb1
  obtain ⟨d0, d1, f0, f1⟩ := row2' hr1
  obtain ⟨M, hM⟩ : ∃ M, M = mirH (N : Int) cs := ⟨_, rfl⟩
  rw [← hM] at ho1 ⊢
  have HM := hide hM
  obtain ⟨w2, hw2⟩ : ∃ w2, w2 = (w1.setCell ⟨W.heap.size, 0, none⟩ (.int .i64 N)).setCell ⟨W.heap.size, 1, none⟩ (.slice (some ⟨g, 0, none⟩) M.length k) := ⟨_, rfl⟩
  have hB2 : Hid (Below W.heap.size W w2) := by rw [hw2]; exact hide ((hB1.out.setCell (p := ⟨W.heap.size, 0, none⟩) (Nat.le_refl _) _).setCell (p := ⟨W.heap.size, 1, none⟩) (Nat.le_refl _) _)
  have hr2 : w2.heap[W.heap.size]? = some (.cells #[.int .i64 N, .slice (some ⟨g, 0, none⟩) M.length k] 28 (0, 0)) := by
    have h1 : (w1.setCell ⟨W.heap.size, 0, none⟩ (.int .i64 N)).heap[W.heap.size]? = some (.cells #[.int .i64 N, .slice (some ⟨b, off, none⟩) cs.length c] 28 (0, 0)) := heap_setCell_same _ _ 0 _ _ _ hr1
    rw [hw2]
    exact heap_setCell_same _ _ 1 _ _ _ h1
  have hgW : W.heap.size ≠ g := by have := (ho1.lt g rfl).1; have := hB0.out.size; have := block_lt hr0.out; omega
  have hI2 : Hid (IntsAt w2 (some ⟨g, 0, none⟩) M) := hide (fun hne => by
    obtain ⟨b', o', e, hcc⟩ := intsAt_of_ownsRow ho1 hne
    cases e
    refine ⟨g, 0, rfl, fun i hi => ?_⟩
    rw [hw2, cell_set_far _ hgW, cell_set_far _ hgW]
    exact hcc i hi)
  obtain ⟨e0, e1, _, _⟩ := row2' hr2
  have hml : Hid (M.length = N * N) := hide (by
    have h := (okH_yes hmo.out).2.2.1
    rw [← HM.out] at h
    exact_mod_cast h)
  have HC2 := hide (needOne_any N g 0 k M hN1 hN8 hml.out (by have := (okH_yes hmo.out).2.2.2; rw [← HM.out] at this; exact this) w2 hI2.out)
  have hmr2 : Hid (needO N M 1 = needO N cs 2) := hide (by rw [HM.out]; exact hmr.out)
  rw [hmr2.out] at HC2
  clear hb1 c0 c1 ho1 hr1 hr2 hgW hM
  rw [hw2] at e0 e1
  go_wp2_with fail
  rw [← hw2]
  clear hw2
  (try go_wp2_with fail)
  refine (HC2.out).mono ?_
  rintro e w3 ⟨rfl, hb3⟩
  have hB3 := hide (Below.trans' hB2.out hb3)
  clear hb3 d0 d1 e0 e1
  go_wp2_with fail
  go_ret
  exact ⟨rfl, hB3.out⟩

/-! ### who joins -/
theorem enc_zero {o : Option Nat} : ((encI o : Int) == 0) = (o == some 0) := by
  cases o with
  | none => rfl
  | some k =>
    cases k with
    | zero => rfl
    | succ k =>
      simp [encI]
      omega
set_option maxRecDepth 100000 in
set_option maxHeartbeats 2000000 in
theorem joiner_any (N : Nat) (b off c : Nat) (cs : List Int) (hN1 : 1 ≤ N) (hN8 : N ≤ 8) (hlen : cs.length = N * N) (hc : cs.length ≤ c) (hz : ∀ z ∈ cs, 0 ≤ z ∧ z ≤ 2) (W : World) (ha : IntsAt W (some ⟨b, off, none⟩) cs) :
    Calls Try.prog 51 #[.agg #[.int .i64 N, .slice (some ⟨b, off, none⟩) cs.length c]] W (RetB (.int .i64 (jnP N cs)) W) := by
  obtain ⟨W0, hW0⟩ : ∃ W0, W0 = (W.alloc (.cells #[.int .i64 N, .slice (some ⟨b, off, none⟩) cs.length c] 28)).alloc (.cells #[.int .i64 1, .int .i64 2] 2) := ⟨_, rfl⟩
  have hB0 : Hid (Below W.heap.size W W0) := by rw [hW0]; exact hide ((below_alloc _ _).alloc (by simp) _)
  have hr0 : Hid (W0.heap[W.heap.size]? = some (.cells #[.int .i64 N, .slice (some ⟨b, off, none⟩) cs.length c] 28 (0, 0))) := by rw [hW0, Below.heap_alloc _ _ _ (by simp)]; exact hide (alloc_row _ _ _)
  have hl0 : Hid (W0.heap[W.heap.size + 1]? = some (.cells #[.int .i64 1, .int .i64 2] 2 (0, 0))) := by
    have := alloc_row (W.alloc (.cells #[.int .i64 N, .slice (some ⟨b, off, none⟩) cs.length c] 28)) #[.int .i64 1, .int .i64 2] 2
    rw [hW0]; exact hide (by simpa using this)
  obtain ⟨c0, c1, _, _⟩ := row2' hr0.out
  obtain ⟨l0, l1, _, _⟩ := row2' hl0.out
  have hs0 : Hid (W0.heap.size = W.heap.size + 2) := by rw [hW0]; exact hide (by simp)
  have HA0 := hide (ha.keep hB0.out)
  have HC1 : Hid (∀ V : World, Below W0.heap.size W0 V → Calls Try.prog 48 #[.agg #[.int .i64 N, .slice (some ⟨b, off, none⟩) cs.length c], .int .i64 1] V (RetB (.int .i64 (encI (needO N cs 1))) V)) := hide (fun V hV => needOf1_any N b off c cs hN1 hN8 hlen hc hz V (HA0.out.keep hV))
  have HC2 : Hid (∀ V : World, Below W0.heap.size W0 V → Calls Try.prog 48 #[.agg #[.int .i64 N, .slice (some ⟨b, off, none⟩) cs.length c], .int .i64 2] V (RetB (.int .i64 (encI (needO N cs 2))) V)) := hide (fun V hV => needOf2_any N b off c cs hN1 hN8 hlen hc hz V (HA0.out.keep hV))
  obtain ⟨x1, hx1⟩ : ∃ x, x = encI (needO N cs 1) := ⟨_, rfl⟩
  obtain ⟨x2, hx2⟩ : ∃ x, x = encI (needO N cs 2) := ⟨_, rfl⟩
  rw [← hx1] at HC1
  rw [← hx2] at HC2
  have hj1 : Hid (jnsB N cs 1 = (x1 == 0)) := hide (by rw [hx1, enc_zero]; rfl)
  have hj2 : Hid (jnsB N cs 2 = (x2 == 0)) := hide (by rw [hx2, enc_zero]; rfl)
  obtain ⟨r, hr⟩ : ∃ r, r = jnP N cs := ⟨_, rfl⟩
  rw [← hr]
  have HR : Hid (r = if (x1 == 0) = true then 1 else if (x2 == 0) = true then 2 else 0) := hide (by rw [hr]; unfold jnP; rw [hj1.out, hj2.out])
  clear ha hz hlen hx1 hx2 hr
  have hrel1 : Hid (Below W.heap.size W W0) := hB0
  go_enter Try.func51, Try.ntmps51
  go_wp2_with fail
  rw [← hW0]
  clear hW0
  (try go_wp2_with fail)
  go_loopg [7] 3 (fun gk i wr => ((i = .int .i64 0 ∧ gk = 3) ∨ (i = .int .i64 1 ∧ gk = 2 ∧ (x1 == 0) = false) ∨ (i = .int .i64 2 ∧ gk = 1 ∧ (x1 == 0) = false ∧ (x2 == 0) = false)) ∧ Below W0.heap.size W0 wr)
  case atStart => exact ⟨.inl ⟨rfl, rfl⟩, Below.refl _ _⟩
  case round =>
    obtain ⟨h, hB⟩ := hrel
    have HB := hide hB
    obtain ⟨c0, c1, _, _⟩ := row2' (box_keep hr0.out hB)
    obtain ⟨l0, l1, _, _⟩ := row2' (box_keep hl0.out hB)
    clear hB
    rcases h with ⟨rfl, rfl⟩ | ⟨rfl, rfl, h1⟩ | ⟨rfl, rfl, h1, h2⟩
    · go_wp2_with fail
      refine (HC1.out _ HB.out).mono ?_
      rintro e w1 ⟨rfl, hb1⟩
      have HB1 := hide (Below.trans' HB.out hb1)
      clear hb1 c0 c1 l0 l1
      cases h1 : (x1 == 0)
      · go_wp2_with fail
        go_roundg 2
        case measure => omega
        case rel => exact ⟨.inr (.inl ⟨rfl, rfl, h1⟩), HB1.out⟩
      · have hf : Hid (r = 1) := hide (by rw [HR.out, if_pos h1])
        go_wp2_with fail
        go_ret
        exact ⟨by simp [go_sem, hf.out], Below.trans' hB0.out HB1.out⟩
    · go_wp2_with fail
      refine (HC2.out _ HB.out).mono ?_
      rintro e w1 ⟨rfl, hb1⟩
      have HB1 := hide (Below.trans' HB.out hb1)
      clear hb1 c0 c1 l0 l1
      have HX1 := hide h1
      cases h2 : (x2 == 0)
      · go_wp2_with fail
        go_roundg 1
        case measure => omega
        case rel => exact ⟨.inr (.inr ⟨rfl, rfl, HX1.out, h2⟩), HB1.out⟩
      · have hf : Hid (r = 2) := hide (by rw [HR.out, if_neg (by rw [HX1.out]; simp), if_pos h2])
        go_wp2_with fail
        go_ret
        exact ⟨by simp [go_sem, hf.out], Below.trans' hB0.out HB1.out⟩
    · have hf : Hid (r = 0) := hide (by rw [HR.out, if_neg (by rw [h1]; simp), if_neg (by rw [h2]; simp)])
      go_wp2_with fail
      go_ret
      exact ⟨by simp [go_sem, hf.out], Below.trans' hB0.out HB.out⟩

set_option maxRecDepth 100000 in
set_option maxHeartbeats 2000000 in
theorem specJoiner_any (N : Nat) (b off c : Nat) (cs : List Int) (hN1 : 1 ≤ N) (hN8 : N ≤ 8) (hlen : cs.length = N * N) (W : World) (ha : IntsAt W (some ⟨b, off, none⟩) cs) :
    Calls Try.prog 49 #[.int .i64 N, .slice (some ⟨b, off, none⟩) cs.length c] W (RetB (.int .i64 (jnP N cs)) W) := by
  have HA := hide ha
  have HC1 : Hid (∀ V : World, Below W.heap.size W V → Calls Try.prog 85 #[.int .i64 N, .slice (some ⟨b, off, none⟩) cs.length c, .int .i64 1] V (RetB (.bool (jnsB N cs 1)) V)) := hide (fun V hV => joins1_any N b off c cs hN1 hN8 hlen V (HA.out.keep hV))
  have HC2 : Hid (∀ V : World, Below W.heap.size W V → Calls Try.prog 85 #[.int .i64 N, .slice (some ⟨b, off, none⟩) cs.length c, .int .i64 2] V (RetB (.bool (jnsB N cs 2)) V)) := hide (fun V hV => joins2_any N b off c cs hN1 hN8 hlen V (HA.out.keep hV))
  obtain ⟨x1, hx1⟩ : ∃ x, x = jnsB N cs 1 := ⟨_, rfl⟩
  obtain ⟨x2, hx2⟩ : ∃ x, x = jnsB N cs 2 := ⟨_, rfl⟩
  rw [← hx1] at HC1
  rw [← hx2] at HC2
  obtain ⟨r, hr⟩ : ∃ r, r = jnP N cs := ⟨_, rfl⟩
  rw [← hr]
  have HR : Hid (r = if x1 = true then 1 else if x2 = true then 2 else 0) := hide (by rw [hr, hx1, hx2]; rfl)
  clear ha hlen hx1 hx2 hr
  go_enter Try.func49, Try.ntmps49
  go_wp2_with fail
  go_loopg [5] 3 (fun gk i wr => ((i = .int .i64 1 ∧ gk = 3) ∨ (i = .int .i64 2 ∧ gk = 2 ∧ x1 = false) ∨ (i = .int .i64 3 ∧ gk = 1 ∧ x1 = false ∧ x2 = false)) ∧ Below W.heap.size W wr)
  case atStart => exact ⟨.inl ⟨rfl, rfl⟩, Below.refl _ _⟩
  case round =>
    obtain ⟨h, hB⟩ := hrel
    have HB := hide hB
    clear hB
    rcases h with ⟨rfl, rfl⟩ | ⟨rfl, rfl, h1⟩ | ⟨rfl, rfl, h1, h2⟩
    · go_wp2_with fail
      refine (HC1.out _ HB.out).mono ?_
      rintro e w1 ⟨rfl, hb1⟩
      have HB1 := hide (Below.trans' HB.out hb1)
      clear hb1
      cases x1
      · go_wp2_with fail
        go_roundg 2
        case measure => omega
        case rel => exact ⟨.inr (.inl ⟨by first | rfl | trivial, by first | rfl | trivial⟩), HB1.out⟩
      · have hf : Hid (r = 1) := hide (by rw [HR.out, if_pos rfl])
        go_wp2_with fail
        go_ret
        exact ⟨by simp [go_sem, hf.out], HB1.out⟩
    · subst h1
      go_wp2_with fail
      refine (HC2.out _ HB.out).mono ?_
      rintro e w1 ⟨rfl, hb1⟩
      have HB1 := hide (Below.trans' HB.out hb1)
      clear hb1
      cases x2
      · go_wp2_with fail
        go_roundg 1
        case measure => omega
        case rel => exact ⟨.inr (.inr ⟨by first | rfl | trivial, by first | rfl | trivial⟩), HB1.out⟩
      · have hf : Hid (r = 2) := hide (by rw [HR.out, if_neg (by simp), if_pos rfl])
        go_wp2_with fail
        go_ret
        exact ⟨by simp [go_sem, hf.out], HB1.out⟩
    · subst h1
      subst h2
      have hf : Hid (r = 0) := hide (by rw [HR.out, if_neg (by simp), if_neg (by simp)])
      go_wp2_with fail
      go_ret
      exact ⟨by simp [go_sem, hf.out], HB.out⟩
end Go.Proofs.Ytogfoahejgmfgaa
