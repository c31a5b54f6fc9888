/-
  Boards of hexagons: mirrored boards, the program's text.
-/
import Derived.Test.YtogfoahejgmfgaaRw
namespace Go.Proofs.Ytogfoahejgmfgaa
open Go.RowKit
set_option linter.unusedVariables false

theorem rival_any (o : Int) (h0 : 0 ≤ o) (h2 : o ≤ 2) (W : World) : Calls Try.prog 106 #[.int .i64 o] W (RetB (.int .i64 (3 - o)) W) := by
  go_enter Try.func106, Try.ntmps106
  go_wp2
  go_ret
  exact ⟨rfl, Below.refl _ _⟩

/-- The mirrored board's cells, when r rows, and c cells of the next one, have been gone through. -/
def mfV (N : Nat) (cs : List Int) (r c i : Nat) : Value := .int .i64 (if i % N < r ∨ (i % N = r ∧ i / N < c) then swP (hexAt cs (trH N i)) else 0)
theorem mfV_zero (N : Nat) (cs : List Int) (i : Nat) : mfV N cs 0 0 i = .int .i64 0 := by
  unfold mfV
  rw [if_neg (fun h => by rcases h with h | ⟨_, h⟩ <;> exact Nat.not_lt_zero _ h)]
theorem mfV_next {N : Nat} {cs : List Int} {r i : Nat} (hi : i < N * N) : mfV N cs r N i = mfV N cs (r + 1) 0 i := by
  unfold mfV
  have h1 : i / N < N := Nat.div_lt_of_lt_mul hi
  by_cases h : i % N < r ∨ (i % N = r ∧ i / N < N)
  · rw [if_pos h, if_pos (by omega)]
  · rw [if_neg h, if_neg (fun k => by rcases k with k | ⟨_, k⟩; exact h (by omega); exact Nat.not_lt_zero _ k)]
theorem mfV_here {N : Nat} {cs : List Int} {r c : Nat} (hr : r < N) : mfV N cs r c (N * c + r) = .int .i64 0 := by
  have h1 : (N * c + r) % N = r := by rw [Nat.mul_add_mod, Nat.mod_eq_of_lt hr]
  have h2 : (N * c + r) / N = c := by rw [Nat.mul_add_div (by omega), Nat.div_eq_of_lt hr]; omega
  unfold mfV
  rw [h1, h2, if_neg (by omega)]
theorem trH_at {N : Nat} {cs : List Int} {r c : Nat} (hr : r < N) : hexAt cs (trH (N : Int) ((N * c + r : Nat) : Int)) = hexAt cs ((N * r + c : Nat) : Int) := by
  congr 1
  unfold trH
  have h1 : (N * c + r) % N = r := by rw [Nat.mul_add_mod, Nat.mod_eq_of_lt hr]
  have h2 : (N * c + r) / N = c := by rw [Nat.mul_add_div (by omega), Nat.div_eq_of_lt hr]; omega
  have e1 : ((N * c + r : Nat) : Int) % (N : Int) = ((((N * c + r) % N : Nat)) : Int) := by simp
  have e2 : ((N * c + r : Nat) : Int) / (N : Int) = ((((N * c + r) / N : Nat)) : Int) := by simp
  rw [e1, e2, h1, h2]
  push_cast
  rfl
theorem mfV_set {N : Nat} {cs : List Int} {r c i : Nat} (hr : r < N) : mfV N cs r (c + 1) i = if i = N * c + r then .int .i64 (swP (hexAt cs ((N * r + c : Nat) : Int))) else mfV N cs r c i := by
  have h1 : (N * c + r) % N = r := by rw [Nat.mul_add_mod, Nat.mod_eq_of_lt hr]
  have h2 : (N * c + r) / N = c := by rw [Nat.mul_add_div (by omega), Nat.div_eq_of_lt hr]; omega
  by_cases e : i = N * c + r
  · subst e
    rw [if_pos rfl]
    unfold mfV
    rw [if_pos (by omega), trH_at hr]
  · rw [if_neg e]
    have h3 : ¬ (i % N = r ∧ i / N = c) := fun ⟨a, b⟩ => e (by rw [← a, ← b]; exact (Nat.div_add_mod i N).symm)
    unfold mfV
    by_cases h : i % N < r ∨ (i % N = r ∧ i / N < c)
    · rw [if_pos h, if_pos (by omega)]
    · rw [if_neg h, if_neg (by omega)]
theorem mfV_end {N : Nat} {cs : List Int} {i : Nat} (hN : 0 < N) : mfV N cs N 0 i = .int .i64 (swP (hexAt cs (trH N i))) := by
  unfold mfV
  rw [if_pos (.inl (Nat.mod_lt _ hN))]
theorem rowIs_block {W W' : World} {b : Nat} {t : TypeId} {n : Nat} {f : Nat → Value} (h : W.rowIs b t n f) (hb : W'.heap[b]? = W.heap[b]?) : W'.rowIs b t n f := by
  obtain ⟨c, hc, r⟩ := h
  exact ⟨c, hb.trans hc, r⟩
theorem rowIs_lt {W : World} {b : Nat} {t : TypeId} {n : Nat} {f : Nat → Value} (h : W.rowIs b t n f) : b < W.heap.size := by
  obtain ⟨c, hc, _⟩ := h
  exact block_lt hc
theorem rowIs_keep {W W' : World} {b : Nat} {t : TypeId} {n : Nat} {f : Nat → Value} (h : W.rowIs b t n f) (hb : Below W.heap.size W W') : W'.rowIs b t n f := rowIs_block h (hb.block b (rowIs_lt h))
theorem rowIs_cell {W : World} {b : Nat} {t : TypeId} {n : Nat} {f : Nat → Value} (h : W.rowIs b t n f) {i : Nat} (hi : i < n) : W.cell? ⟨b, i, none⟩ = some (f i) ∧ W.frozen? ⟨b, i, none⟩ = false := by
  obtain ⟨c, hc, hs, hf⟩ := h
  exact ⟨(cell_of_row _ _ i _ _ (0, 0) hc).trans (hf i hi), frozen_of_row _ _ i _ _ hc⟩
theorem cut_one (W : World) (N L : Nat) : ∃ g m : Nat, Value.pointer (some ⟨W.heap.size + 1, 0, none⟩) = .pointer (some ⟨g, 0, none⟩) ∧ (((W.alloc (.cells (madeCells #[.int .i64 0] L) 2)).alloc (.cells #[.int .i64 N, .slice (some ⟨W.heap.size, 0, none⟩) L L] 28)).drew).heap[g]? = some (.cells #[.int .i64 N, .slice (some ⟨m, 0, none⟩) L L] 28 (0, 0)) ∧ (((W.alloc (.cells (madeCells #[.int .i64 0] L) 2)).alloc (.cells #[.int .i64 N, .slice (some ⟨W.heap.size, 0, none⟩) L L] 28)).drew).rowIs m 2 L (fun _ => .int .i64 0) ∧ g ≠ m ∧ W.heap.size ≤ g ∧ W.heap.size ≤ m ∧ Below W.heap.size W (((W.alloc (.cells (madeCells #[.int .i64 0] L) 2)).alloc (.cells #[.int .i64 N, .slice (some ⟨W.heap.size, 0, none⟩) L L] 28)).drew) := by
  refine ⟨W.heap.size + 1, W.heap.size, rfl, ?_, ?_, by omega, by omega, Nat.le_refl _, Below.drew ((below_alloc _ _).alloc (by simp) _)⟩
  · have := alloc_row (W.alloc (.cells (madeCells #[.int .i64 0] L) 2)) #[.int .i64 N, .slice (some ⟨W.heap.size, 0, none⟩) L L] 28
    have h2 : ((W.alloc (.cells (madeCells #[.int .i64 0] L) 2)).alloc (.cells #[.int .i64 N, .slice (some ⟨W.heap.size, 0, none⟩) L L] 28)).heap[W.heap.size + 1]? = some (.cells #[.int .i64 N, .slice (some ⟨W.heap.size, 0, none⟩) L L] 28 (0, 0)) := by simpa using this
    exact h2
  · exact rowIs_block (World.rowIs_made W (.int .i64 0) L 2) (Below.heap_alloc _ _ _ (by simp))
theorem cut_two (W : World) (N L : Nat) : ∃ g m : Nat, Value.pointer (some ⟨W.heap.size, 0, none⟩) = .pointer (some ⟨g, 0, none⟩) ∧ (((W.alloc (.cells #[.int .i64 N, .slice (some ⟨W.heap.size + 1, 0, none⟩) L L] 28)).alloc (.cells (madeCells #[.int .i64 0] L) 2)).drew).heap[g]? = some (.cells #[.int .i64 N, .slice (some ⟨m, 0, none⟩) L L] 28 (0, 0)) ∧ (((W.alloc (.cells #[.int .i64 N, .slice (some ⟨W.heap.size + 1, 0, none⟩) L L] 28)).alloc (.cells (madeCells #[.int .i64 0] L) 2)).drew).rowIs m 2 L (fun _ => .int .i64 0) ∧ g ≠ m ∧ W.heap.size ≤ g ∧ W.heap.size ≤ m ∧ Below W.heap.size W (((W.alloc (.cells #[.int .i64 N, .slice (some ⟨W.heap.size + 1, 0, none⟩) L L] 28)).alloc (.cells (madeCells #[.int .i64 0] L) 2)).drew) := by
  refine ⟨W.heap.size, W.heap.size + 1, rfl, ?_, ?_, by omega, by omega, by omega, Below.drew ((below_alloc _ _).alloc (by simp) _)⟩
  · exact (Below.heap_alloc _ _ _ (by simp)).trans (alloc_row _ _ _)
  · have := World.rowIs_made (W.alloc (.cells #[.int .i64 N, .slice (some ⟨W.heap.size + 1, 0, none⟩) L L] 28)) (.int .i64 0) L 2
    have h2 : ((W.alloc (.cells #[.int .i64 N, .slice (some ⟨W.heap.size + 1, 0, none⟩) L L] 28)).alloc (.cells (madeCells #[.int .i64 0] L) 2)).rowIs (W.heap.size + 1) 2 L (fun _ => .int .i64 0) := by simpa using this
    exact h2

set_option maxRecDepth 100000 in
set_option maxHeartbeats 4000000 in
theorem mirrored_any (N : Nat) (b off c : Nat) (cs : List Int) (hN1 : 1 ≤ N) (hN8 : N ≤ 8) (hlen : cs.length = N * N) (hc : cs.length ≤ c) (hz : ∀ z ∈ cs, 0 ≤ z ∧ z ≤ 2) (W : World) (ha : IntsAt W (some ⟨b, off, none⟩) cs) :
    Calls Try.prog 83 #[.agg #[.int .i64 N, .slice (some ⟨b, off, none⟩) cs.length c]] W (NewHex N (mirH N cs) W) := by
  have hsq := sqN8 hN8
  obtain ⟨L, hL⟩ : ∃ L, L = cs.length := ⟨_, rfl⟩
  have hml : Hid ((mirH N cs).length = L) := hide (by rw [mirH_len, hL])
  rw [← hL] at hlen hc ⊢
  have hL64 : L ≤ 64 := by omega
  have hmk := run_make_row' (P := Try.prog) 22 2 (.int .i64 0) 8 Try.underlying22 Try.info2 rfl .i64 .i64 L (by omega) (by omega)
  have HLN := hide hlen
  have HLC := hide hL
  have HZ := hide hz
  clear hz hlen hsq hL
  obtain ⟨W0, hW0⟩ : ∃ W0, W0 = (W.alloc (.cells #[.int .i64 N, .slice (some ⟨b, off, none⟩) L c] 28)).alloc (.cells #[.int .i64 0, .slice none 0 0] 28) := ⟨_, rfl⟩
  have hB0 : Hid (Below W.heap.size W W0) := by rw [hW0]; exact hide ((below_alloc _ _).alloc (by simp) _)
  have hs0 : Hid (W0.heap.size = W.heap.size + 2) := by rw [hW0]; exact hide (by simp)
  have hx0 : W0.heap[W.heap.size]? = some (.cells #[.int .i64 N, .slice (some ⟨b, off, none⟩) L c] 28 (0, 0)) := by rw [hW0, Below.heap_alloc _ _ _ (by simp)]; exact alloc_row _ _ _
  have hy0 : Hid (W0.heap[W.heap.size + 1]? = some (.cells #[.int .i64 0, .slice none 0 0] 28 (0, 0))) := by
    have := alloc_row (W.alloc (.cells #[.int .i64 N, .slice (some ⟨b, off, none⟩) L c] 28)) #[.int .i64 0, .slice none 0 0] 28
    rw [hW0]; exact hide (by simpa using this)
  have HX0 := hide hx0
  have hA0 := hide (ha.keep hB0.out)
  obtain ⟨c0, c1, _, _⟩ := row2' hx0
  clear hx0 ha
  go_enter Try.func83, Try.ntmps83
  go_wp2_with fail
  rw [← hW0]
  clear hW0
  go_upto_region 1 with fail
  have hd : Below W0.heap.size W0 W0.drew := Below.drew (Below.refl _ _)
  have hbel : Below W0.heap.size W0 W0 := Below.refl _ _
  have HS : Hid (∀ W' : World, Below W0.heap.size W0 W' → (W'.cell? ⟨W.heap.size, 0, none⟩ = some (.int .i64 N) ∧ W'.cell? ⟨W.heap.size, 1, none⟩ = some (.slice (some ⟨b, off, none⟩) L c))) := hide (fun W' h => ⟨cell_keep h c0, cell_keep h c1⟩)
  clear c0 c1
  go_cut [3] (fun s wx => ∃ g m : Nat, s = .pointer (some ⟨g, 0, none⟩) ∧ wx.heap[g]? = some (.cells #[.int .i64 N, .slice (some ⟨m, 0, none⟩) L L] 28 (0, 0)) ∧ wx.rowIs m 2 L (fun _ => .int .i64 0) ∧ g ≠ m ∧ W0.heap.size ≤ g ∧ W0.heap.size ≤ m ∧ Below W0.heap.size W0 wx)
  case first =>
    go_region_held3 (fun W' => W'.cell? ⟨W.heap.size, 0, none⟩ = some (.int .i64 N) ∧ W'.cell? ⟨W.heap.size, 1, none⟩ = some (.slice (some ⟨b, off, none⟩) L c)) (first | (refine HS.out _ ?_; (with_reducible (repeat (first | exact hbel | exact hd | refine Below.drew ?_ | refine Below.alloc' ?_ _ | refine Below.setCell ?_ (by first | exact Nat.le_refl _ | (simp; omega)) _))))) (fail)
    all_goals
      go_wp2_with fail
      go_meet
      first | exact cut_one W0 N L | exact cut_two W0 N L
  case rest =>
    obtain ⟨g, m, rfl, hg, hm, hgm, hg0, hm0, hBc⟩ := hcut
    have hB1 := hide (Below.trans' hB0.out hBc)
    have hX1 := hide (box_keep HX0.out hBc)
    have hY1 := hide (box_keep hy0.out hBc)
    have hA1 := hide (hA0.out.keep hBc)
    have hG1 := hide hg
    have hM1 := hide hm
    have hgl : Hid (g < wc.heap.size) := hide (block_lt hg)
    have hmll : Hid (m < wc.heap.size) := hide (rowIs_lt hm)
    obtain ⟨d0, d1, _, _⟩ := row2' hg
    clear HS hd hbel hBc hg hm
    go_wp2_with fail
    refine (hexRows_any N m 0 L L hN1 hN8 HLN.out (Nat.le_refl _) _).mono ?_
    rintro e w2 ⟨a2, k2, rfl, ho2, hb2⟩
    have hB2 := hide (Below.trans' hB1.out hb2)
    have hX2 := hide (box_keep hX1.out hb2)
    have hY2 := hide (box_keep hY1.out hb2)
    have hA2 := hide (hA1.out.keep hb2)
    have hG2 := hide (box_keep hG1.out hb2)
    have hM2 := hide (rowIs_keep hM1.out hb2)
    have hO2 := hide ho2
    obtain ⟨c0, c1, _, _⟩ := row2' hX2.out
    clear hb2 ho2 d0 d1
    go_wp2_with fail
    refine (hexRows_any N b off L c hN1 hN8 HLN.out hc _).mono ?_
    rintro e w3 ⟨a3, k3, rfl, ho3, hb3⟩
    have hB3 := hide (Below.trans' hB2.out hb3)
    have hX3 := hide (box_keep hX2.out hb3)
    have hY3 := hide (box_keep hY2.out hb3)
    have hA3 := hide (hA2.out.keep hb3)
    have hG3 := hide (box_keep hG2.out hb3)
    have hM3 := hide (rowIs_keep hM2.out hb3)
    have hz23 : w2.heap.size ≤ w3.heap.size := hb3.size
    -- the rows' cells
    have hr3 := cellsAt_of_ownsRow ho3
    have hr2 := cellsAt_of_ownsRow (ownsRow_keep hO2.out hb3)
    have hne3 : rowsOf b off N N ≠ [] := fun e => by have := rowsOf_len b off N N; rw [e] at this; simp at this; omega
    have hne2 : rowsOf m 0 N N ≠ [] := fun e => by have := rowsOf_len m 0 N N; rw [e] at this; simp at this; omega
    obtain ⟨g3, o3, rfl, hc3⟩ := hr3 hne3
    obtain ⟨g2, o2, rfl, hc2⟩ := hr2 hne2
    have hg3 : w2.heap.size ≤ g3 := (ho3.lt g3 rfl).1
    have hg2 : wc.heap.size ≤ g2 := (hO2.out.lt g2 rfl).1
    have hwc2 : wc.heap.size ≤ w2.heap.size := by have := (hO2.out.lt g2 rfl); omega
    have HC3 : Hid (∀ i, i < N → w3.cell? ⟨g3, o3 + i, none⟩ = some (.slice (some ⟨b, off + N * i, none⟩) N N)) := hide (fun i hi => by rw [hc3 i (by rw [rowsOf_len]; exact hi), rowsOf_get hi])
    have HC2 : Hid (∀ i, i < N → w3.cell? ⟨g2, o2 + i, none⟩ = some (.slice (some ⟨m, N * i, none⟩) N N)) := hide (fun i hi => by rw [hc2 i (by rw [rowsOf_len]; exact hi), rowsOf_get hi, Nat.zero_add])
    have HNE : Hid (g3 ≠ m ∧ g2 ≠ m ∧ b ≠ m) := hide (by
      have h1 := hmll.out
      refine ⟨by omega, by omega, ?_⟩
      obtain ⟨bb, oo, he, hlt⟩ := CellsAt.lt hA0.out (by
        intro e
        have h2 := congrArg List.length e
        have h3 := HLC.out
        have h4 := HLN.out
        have h5 : 1 ≤ N * N := Nat.mul_le_mul hN1 hN1
        simp at h2
        rw [h2] at h3
        simp at h3
        omega)
      cases he
      omega)
    have HCS : Hid (∀ i, i < L → w3.cell? ⟨b, off + i, none⟩ = some (.int .i64 (hexAt cs (i : Int)))) := hide (fun i hi => by
      obtain ⟨b', off', he, hcc⟩ := hA3.out.at (by rw [← HLC.out]; omega)
      cases he
      exact hcc i (by rw [← HLC.out]; exact hi))
    clear hb3 ho3 hr3 hr2 hc3 hc2 hne3 hne2 c0 c1
    go_wp2_with fail
    have HM0 : Hid (w3.rowIs m 2 L (mfV N cs 0 0)) := hide (hM3.out.congr (fun i _ => (mfV_zero N cs i).symm))
    go_loopw [27] (fun i wr => ∃ r : Nat, r ≤ N ∧ i = .int .i64 r ∧ Hid (wr.rowIs m 2 L (mfV N cs r 0)) ∧ But m w3 wr) (fun i _ => N - (intOf i).toNat)
    case atStart => exact ⟨0, Nat.zero_le _, rfl, HM0, But.refl _ _⟩
    case round =>
      clear HM0
      obtain ⟨r, hr, rfl, hM, hBt⟩ := hrel
      obtain ⟨wo, rfl⟩ : ∃ wo : World, wo = wr := ⟨_, rfl⟩
      by_cases hlt : r < N
      · obtain ⟨s, hs⟩ : ∃ s, s = N * r := ⟨_, rfl⟩
        have hsl : s + N ≤ L := by rw [hs, HLN.out]; exact sqN hlt
        have e3 := hBt.cell (HC3.out r hlt) HNE.out.1
        rw [← hs] at e3
        have HSR := hide hs
        have HBt := hide hBt
        clear hs hBt
        go_wp2_with fail
        go_loopw [34] (fun i wr => ∃ q : Nat, q ≤ N ∧ i = .int .i64 q ∧ Hid (wr.rowIs m 2 L (mfV N cs r q)) ∧ But m w3 wr) (fun i _ => N - (intOf i).toNat)
        case atStart => exact ⟨0, Nat.zero_le _, rfl, hM, HBt.out⟩
        case round =>
          clear hM HBt e3
          obtain ⟨q, hq, rfl, hM, hBt⟩ := hrel
          by_cases hql : q < N
          · obtain ⟨z, hzz⟩ : ∃ z, z = hexAt cs ((s + q : Nat) : Int) := ⟨_, rfl⟩
            have cz : wr.cell? ⟨b, off + s + q, none⟩ = some (.int .i64 z) := by rw [hzz, Nat.add_assoc]; exact hBt.cell (HCS.out _ (by omega)) HNE.out.2.2
            have hzr : 0 ≤ z ∧ z ≤ 2 := by rw [hzz]; exact HZ.out _ (hexAt_mem (by rw [← HLC.out]; omega))
            obtain ⟨t, ht⟩ : ∃ t, t = N * q := ⟨_, rfl⟩
            have htl : t + N ≤ L := by rw [ht, HLN.out]; exact sqN hql
            have e2 := hBt.cell (HC2.out q hql) HNE.out.2.1
            rw [← ht] at e2
            have hset : Hid (∀ i, mfV N cs r (q + 1) i = if i = t + r then .int .i64 (swP z) else mfV N cs r q i) := hide (fun i => by rw [mfV_set hlt, ht, hzz, HSR.out])
            have HBt := hide hBt
            have HT := hide ht
            clear hBt hzz ht
            by_cases h0 : z = 0
            · have ed : (z != 0) = false := by simp [h0]
              have hold := (rowIs_cell hM.out (i := t + r) (by omega)).1
              have HM2 : Hid (wr.rowIs m 2 L (mfV N cs r (q + 1))) := hide (by
                refine hM.out.congr (fun i _ => ?_)
                rw [hset.out i]
                by_cases e : i = t + r
                · rw [if_pos e, h0, e, HT.out, mfV_here hlt]
                  rfl
                · rw [if_neg e])
              go_wp2_with fail
              go_roundw
              case rel => exact ⟨q + 1, by omega, by go_num, HM2, HBt.out⟩
              case measure => simp [intOf]; omega
            · have ed : (z != 0) = true := by simp [h0]
              have hsw : Hid (swP z = 3 - z) := hide (by simp [swP, h0])
              have p2 : ∀ p : Past wr, p.to.cell? ⟨g2, o2 + q, none⟩ = some (.slice (some ⟨m, t, none⟩) N N) := fun p => p.cell e2
              go_wp2_with fail
              refine wp_region_past_tail 8 (by kernel_rfl) (by kernel_rfl) ?_
              simp only [List.take_succ_cons, List.take_zero, List.drop_succ_cons, List.drop_zero]
              repeat (first | go_big_quiet_step ((go_at_call 106; (with_reducible exact ret_past (rival_any z (by omega) (by omega) _)))) | quiet_step ((go_at_call 106; (with_reducible exact ret_past (rival_any z (by omega) (by omega) _)))))
              refine wpQuiet_nil ?_
              rintro _ ⟨pq, rfl⟩
              obtain ⟨f1, f2⟩ := rowIs_cell (rowIs_keep hM.out pq.old) (i := t + r) (by omega)
              have HM2 : Hid ((pq.to.setCell ⟨m, t + r, none⟩ (.int .i64 (3 - z))).rowIs m 2 L (mfV N cs r (q + 1))) := hide (by
                refine ((rowIs_keep hM.out pq.old).set (t + r) (.int .i64 (3 - z))).congr (fun i _ => ?_)
                rw [hset.out i, hsw.out])
              have HB2 := hide ((HBt.out.below pq.old).set (t + r) (.int .i64 (3 - z)))
              go_wp2_with fail
              go_roundw
              case rel => exact ⟨q + 1, by omega, by go_num, HM2, HB2.out⟩
              case measure => simp [intOf]; omega
          · obtain rfl : q = N := by omega
            have HM2 : Hid (wr.rowIs m 2 L (mfV q cs (r + 1) 0)) := hide (hM.out.congr (fun i hi => mfV_next (by rw [← HLN.out]; exact hi)))
            have HBt := hide hBt
            clear hBt
            go_wp2_with fail
            go_roundw
            case rel => exact ⟨r + 1, by omega, by go_num, HM2, HBt.out⟩
            case measure => simp [intOf]; omega
      · obtain rfl : r = N := by omega
        have hG4 := hBt.row hG3.out hgm
        have hY4 := hBt.row hY3.out (by have := hs0.out; omega)
        obtain ⟨d0, d1, _, _⟩ := row2' hG4
        obtain ⟨x0, x1, f0, f1⟩ := row2' hY4
        have HY4 := hide hY4
        have HB4 : Hid (Below W.heap.size W wo) := hide (hB3.out.trans ((hBt.old (by have := hmll.out; omega)).mono (by have := hs0.out; omega)))
        have HM4 := hM
        clear hG4 hY4 hBt
        go_wp2_with fail
        have hbx := box_set2' (x' := .int .i64 r) (y' := .slice (some ⟨m, 0, none⟩) L L) HY4.out
        obtain ⟨j0, j1, _⟩ := row2' hbx
        have hmr : m ≠ W.heap.size + 1 := by have := hs0.out; omega
        have hrow : (((wo.setCell ⟨W.heap.size + 1, 0, none⟩ (.int .i64 r)).setCell ⟨W.heap.size + 1, 1, none⟩ (.slice (some ⟨m, 0, none⟩) L L))).rowIs m 2 L (mfV r cs r 0) :=
          rowIs_block HM4.out ((Below.heap_setCell _ _ _ _ hmr).trans (Below.heap_setCell _ _ _ _ hmr))
        have hown := rowIs_owns (vs := (mirH r cs).map intV) hrow (show W.heap.size ≤ m by have := hs0.out; omega) (by unfold maxLen; omega) (by rw [List.length_map]; exact hml.out) (fun i hi => by
          rw [List.getElem?_map, mirH_get (by rw [← HLC.out]; exact hi), mfV_end (by omega)]
          rfl)
        have hB := (HB4.out.setCell (p := ⟨W.heap.size + 1, 0, none⟩) (by simp) (.int .i64 r)).setCell (p := ⟨W.heap.size + 1, 1, none⟩) (by simp) (.slice (some ⟨m, 0, none⟩) L L)
        refine bodyPost_ret (v := .agg #[.int .i64 r, .slice (some ⟨m, 0, none⟩) L L]) (by simp [results, Try.results83, go_sem, j0, j1]) rfl ?_
        refine ⟨m, L, by rw [hml.out], ?_, hB⟩
        rw [hml.out]
        exact hown

/-! ### MirrorHex -/
def mirR (n : Int) (cs : List Int) : Int × List Int × Int := if okH n cs = true then (n, mirH n cs, 0) else (0, [], 1)
/-- A board of the call's own, and a code. -/
def NewHexR (x : Int × List Int × Int) (W : World) (e : Ending) (W' : World) : Prop :=
  ∃ a c, e = .returned (.tuple #[.agg #[.int .i64 x.1, .slice a x.2.1.length c], .int .i64 x.2.2]) ∧ W'.ownsRow W.heap.size 2 1 (.slice a x.2.1.length c) x.2.1.length (x.2.1.map intV) ∧ Below W.heap.size W W'

end Go.Proofs.Ytogfoahejgmfgaa
