/-
  Ends of dots and boxes: an ending without one strand, the model's text.
-/
import Derived.Test.YtbfpbkbhikogiabPa
namespace Go.Proofs.Ytbfpbkbhikogiab
open Go.RowKit
set_option linter.unusedVariables false

/-- An ending without one strand, and whether there is one. -/
def woL (cs ls : List Int) (lp : Bool) (b : Int) : List Int × List Int × Bool := match lp with | true => (cs, ls.erase b, decide (b ∈ ls)) | false => (cs.erase b, ls, decide (b ∈ cs))
theorem erase_in {l : List Int} {b x : Int} (h : b ∈ l) : (l ++ [x]).erase b = l.erase b ++ [x] := by rw [List.erase_append, if_pos h]
theorem erase_new {l : List Int} {b : Int} (h : b ∉ l) : (l ++ [b]).erase b = l := by rw [List.erase_append, if_neg h]; simp
theorem erase_out {l : List Int} {b x : Int} (h : b ∉ l) (hx : x ≠ b) : (l ++ [x]).erase b = l ++ [x] := by
  rw [List.erase_append, if_neg h]
  simp [hx]

/-- One list without the first b, where it is asked for; and whether there was one. -/
def woOne (act : Bool) (l : List Int) (b : Int) : List Int × Bool := match act with | true => (l.erase b, decide (b ∈ l)) | false => (l, false)
theorem woOne_skip {l : List Int} {b : Int} (h : (woOne true l b).2 = false) : woOne true (l ++ [b]) b = ((woOne true l b).1, true) := by
  have h' : b ∉ l := by simpa [woOne] using h
  simp only [woOne, erase_new h', List.erase_of_not_mem h']
  simp
theorem woOne_keep {act : Bool} {l : List Int} {b x : Int} (h : act = false ∨ (woOne act l b).2 = true ∨ x ≠ b) : woOne act (l ++ [x]) b = ((woOne act l b).1 ++ [x], (woOne act l b).2) := by
  cases act
  · rfl
  · rcases h with h | h | h
    · cases h
    · have h' : b ∈ l := by simpa [woOne] using h
      simp only [woOne, erase_in h']
      simp [h']
    · by_cases h' : b ∈ l
      · simp only [woOne, erase_in h']
        simp [h']
      · simp only [woOne, erase_out h' h, List.erase_of_not_mem h']
        simp [h']
        exact fun e => h e.symm
theorem woOne_le (act : Bool) (l : List Int) (b : Int) : (woOne act l b).1.length ≤ l.length := by
  cases act
  · exact Nat.le_refl _
  · exact List.length_erase_le
theorem take_snoc' {l : List Int} {k : Nat} {z : Int} (h : l[k]? = some z) : l.take (k + 1) = l.take k ++ [z] := by rw [List.take_add_one, h]; rfl

set_option maxRecDepth 100000 in
set_option maxHeartbeats 8000000 in
theorem without_any (a : Option Addr) (c : Nat) (cs : List Int) (a' : Option Addr) (c' : Nat) (ls : List Int) (lp : Bool) (b : Int) (W : World) (ha : IntsAt W a cs) (ha' : IntsAt W a' ls) (hl : cs.length ≤ 1048576) (hl' : ls.length ≤ 1048576) :
    Calls Try.prog 27 #[.agg #[.slice a cs.length c, .slice a' ls.length c'], .bool lp, .int .i64 b] W (NewEndV (woL cs ls lp b).1 (woL cs ls lp b).2.1 [.bool (woL cs ls lp b).2.2] W) := by
  obtain ⟨i0, hi, hz0, hz1, hz2⟩ := info_parts Try.info2
  obtain ⟨W0, hW0⟩ : ∃ W0, W0 = ((((W.alloc (.cells #[.slice a cs.length c, .slice a' ls.length c'] 33)).alloc (.cells #[.slice none 0 0, .slice none 0 0] 33)).alloc (.cells #[] 2)).alloc (.cells #[] 2)).alloc (.cells #[.slice (some ⟨W.heap.size + 1 + 1, 0, none⟩) 0 0, .slice (some ⟨W.heap.size + 1 + 1 + 1, 0, none⟩) 0 0] 33) := ⟨_, rfl⟩
  have hB0 : Hid (Below W.heap.size W W0) := by rw [hW0]; exact hide (((((below_alloc _ _).alloc (by simp) _).alloc (by simp; omega) _).alloc (by simp; omega) _).alloc (by simp; omega) _)
  have hs0 : W0.heap.size = W.heap.size + 5 := by rw [hW0]; simp
  have hX0 : EndIn W0 W.heap.size a cs.length c a' ls.length c' := by
    rw [hW0]
    exact (endIn_new W a cs.length c a' ls.length c' 33).keep ((((Below.refl _ _).alloc (Nat.le_refl _) _).alloc (by simp) _).alloc (by simp <;> omega) _ |>.alloc (by simp <;> omega) _)
  have hR0 : W0.heap[W.heap.size + 1]? = some (.cells #[.slice none 0 0, .slice none 0 0] 33 (0, 0)) := by
    rw [hW0, Below.heap_alloc _ _ _ (by simp), Below.heap_alloc _ _ _ (by simp), Below.heap_alloc _ _ _ (by simp)]
    have := heap_alloc_new (W.alloc (.cells #[.slice a cs.length c, .slice a' ls.length c'] 33)) (.cells #[.slice none 0 0, .slice none 0 0] 33 (0, 0))
    simpa using this
  have hE1 : W0.heap[W.heap.size + 1 + 1]? = some (.cells #[] 2 (0, 0)) := by
    rw [hW0, Below.heap_alloc _ _ _ (by simp), Below.heap_alloc _ _ _ (by simp)]
    have := heap_alloc_new ((W.alloc (.cells #[.slice a cs.length c, .slice a' ls.length c'] 33)).alloc (.cells #[.slice none 0 0, .slice none 0 0] 33)) (.cells #[] 2 (0, 0))
    simpa using this
  have hE2 : W0.heap[W.heap.size + 1 + 1 + 1]? = some (.cells #[] 2 (0, 0)) := by
    rw [hW0, Below.heap_alloc _ _ _ (by simp)]
    have := heap_alloc_new (((W.alloc (.cells #[.slice a cs.length c, .slice a' ls.length c'] 33)).alloc (.cells #[.slice none 0 0, .slice none 0 0] 33)).alloc (.cells #[] 2)) (.cells #[] 2 (0, 0))
    simpa using this
  have hE3 : W0.heap[W.heap.size + 1 + 1 + 1 + 1]? = some (.cells #[.slice (some ⟨W.heap.size + 1 + 1, 0, none⟩) 0 0, .slice (some ⟨W.heap.size + 1 + 1 + 1, 0, none⟩) 0 0] 33 (0, 0)) := by
    rw [hW0]
    have := heap_alloc_new ((((W.alloc (.cells #[.slice a cs.length c, .slice a' ls.length c'] 33)).alloc (.cells #[.slice none 0 0, .slice none 0 0] 33)).alloc (.cells #[] 2)).alloc (.cells #[] 2)) (.cells #[.slice (some ⟨W.heap.size + 1 + 1, 0, none⟩) 0 0, .slice (some ⟨W.heap.size + 1 + 1 + 1, 0, none⟩) 0 0] 33 (0, 0))
    simpa using this
  obtain ⟨lo, hlo⟩ : ∃ lo, lo = W.heap.size + 1 + 1 := ⟨_, rfl⟩
  obtain ⟨Bx, hBx⟩ : ∃ Bx, Bx = W.heap.size + 1 + 1 + 1 + 1 := ⟨_, rfl⟩
  have hP0 : Hid (PairV W0 lo Bx (.slice (some ⟨W.heap.size + 1 + 1, 0, none⟩) ([] : List Int).length 0) [] (.slice (some ⟨W.heap.size + 1 + 1 + 1, 0, none⟩) ([] : List Int).length 0) []) := hide
    ⟨by rw [hBx]; exact hE3, ownsRow_empty hE1 (by omega), ownsRow_empty hE2 (by omega), fun g h1 h2 => by simp [Value.ownBlock] at h1 h2; omega, by omega⟩
  have HX0 := hide hX0
  have HR0 := hide hR0
  have HA := hide ha
  have HA' := hide ha'
  have HS0 : Hid (W0.heap.size = W.heap.size + 5 ∧ lo = W.heap.size + 1 + 1 ∧ Bx = W.heap.size + 1 + 1 + 1 + 1) := hide ⟨hs0, hlo, hBx⟩
  have hW0lo : Hid (Below lo W0 W0) := hide (Below.refl _ _)
  have HIN : Hid (∀ V, Below lo W0 V → EndIn V W.heap.size a cs.length c a' ls.length c' ∧ IntsAt V a cs ∧ IntsAt V a' ls ∧ lo ≤ V.heap.size) := hide (fun V hV =>
    have hV' : Below W.heap.size W V := hB0.out.trans (hV.mono (by omega))
    ⟨⟨(hV.cell (p := ⟨W.heap.size, 0, none⟩) (by simp; omega)).trans hX0.1, (hV.cell (p := ⟨W.heap.size, 1, none⟩) (by simp; omega)).trans hX0.2⟩, ha.keep hV', ha'.keep hV', by have := hV.size; omega⟩)
  have HFIN : Hid (∀ (V : World) (v1 v2 : Value) (xs ys : List Int), Below lo W0 V → PairV V lo Bx v1 xs v2 ys → ∃ a1 k1 a2 k2, v1 = .slice a1 xs.length k1 ∧ v2 = .slice a2 ys.length k2 ∧ V.cell? ⟨Bx, 0, none⟩ = some v1 ∧ V.cell? ⟨Bx, 1, none⟩ = some v2 ∧ V.heap[W.heap.size + 1]? = some (.cells #[.slice none 0 0, .slice none 0 0] 33 (0, 0)) ∧
      (∀ f : Bool, NewEndV xs ys [.bool f] W (.returned (.tuple #[.agg #[v1, v2], .bool f])) ((V.setCell ⟨W.heap.size + 1, 0, none⟩ v1).setCell ⟨W.heap.size + 1, 1, none⟩ v2))) := hide (fun V v1 v2 xs ys hV hP => by
    obtain ⟨a1, k1, rfl⟩ := own_form hP.own1
    obtain ⟨a2, k2, rfl⟩ := own_form hP.own2
    have hR := (hV.block (W.heap.size + 1) (by omega)).trans hR0
    refine ⟨a1, k1, a2, k2, rfl, rfl, (cell_of_row _ _ 0 _ _ (0, 0) hP.box).trans rfl, (cell_of_row _ _ 1 _ _ (0, 0) hP.box).trans rfl, hR, fun f => ⟨a1, k1, a2, k2, rfl, ?_, ?_, hP.ap, ?_⟩⟩
    · exact ownsRow_base (ownsRow_setCell_below (ownsRow_setCell_below hP.own1 (show W.heap.size + 1 < lo by omega) _) (show W.heap.size + 1 < lo by omega) _) (by omega)
    · exact ownsRow_base (ownsRow_setCell_below (ownsRow_setCell_below hP.own2 (show W.heap.size + 1 < lo by omega) _) (show W.heap.size + 1 < lo by omega) _) (by omega)
    · exact ((hB0.out.trans (hV.mono (by omega))).setCell (p := ⟨W.heap.size + 1, 0, none⟩) (by simp) _).setCell (p := ⟨W.heap.size + 1, 1, none⟩) (by simp) _)
  obtain ⟨c0, c1⟩ := hX0
  clear ha ha' hR0 hE1 hE2 hE3 hs0
  obtain ⟨r1, r2, r3, hr⟩ : ∃ (r1 r2 : List Int) (r3 : Bool), woL cs ls lp b = (r1, r2, r3) := ⟨_, _, _, rfl⟩
  rw [hr]
  dsimp only
  have HRR := hide hr
  clear hr
  cases lp
  · go_enter Try.func27, Try.ntmps27
    go_wp2_with fail
    rw [← hW0, ← hBx]
    clear hW0 hBx hlo
    (try go_wp2_with fail)
    go_loopw [9, 10] (fun fo i wr => ∃ (k : Nat) (f : Bool) (xs ys : List Int) (v1 v2 : Value), k ≤ cs.length ∧ i = .int .i64 k ∧ fo = .bool f ∧ Hid (xs = (woOne true (cs.take k) b).1) ∧ Hid (f = (woOne true (cs.take k) b).2) ∧ Hid (ys = []) ∧ PairV wr lo Bx v1 xs v2 ys ∧ Below lo W0 wr) (fun _ i _ => cs.length - (intOf i).toNat)
    case atStart => exact ⟨0, false, [], [], _, _, Nat.zero_le _, rfl, rfl, by rw [List.take_zero]; rfl, by rw [List.take_zero]; rfl, rfl, hP0.out, hW0lo.out⟩
    case round =>
      clear hP0 c0 c1
      obtain ⟨k, f, xs, ys, v1, v2, hk, rfl, rfl, hf1, hf2, hf3, hPr, hBr⟩ := hrel
      have hIN := HIN.out wr hBr
      obtain ⟨a1, k1, rfl⟩ := own_form hPr.own1
      obtain ⟨a2, k2, rfl⟩ := own_form hPr.own2
      have hP := hide hPr
      have hBl : Bx < wr.heap.size := block_lt hPr.box
      have hWl : W.heap.size < wr.heap.size := by have := World.block_lt_of_cell? wr _ hIN.1.1; simpa using this
      have HBR := hide hBr
      have q0 : wr.cell? ⟨Bx, 0, none⟩ = some (.slice a1 xs.length k1) := (cell_of_row _ _ 0 _ _ (0, 0) hPr.box).trans rfl
      have q1 : wr.cell? ⟨Bx, 1, none⟩ = some (.slice a2 ys.length k2) := (cell_of_row _ _ 1 _ _ (0, 0) hPr.box).trans rfl
      obtain ⟨e0, e1⟩ := hIN.1
      by_cases hlt : k < cs.length
      · obtain ⟨bb, off, z, rfl, hcell, hz⟩ := hIN.2.1.one hlt
        have hxl : xs.length ≤ 1048576 := by rw [hf1.out]; have := woOne_le true (cs.take k) b; have := List.length_take_le' k cs; omega
        clear hPr hBr
        cases f
        · by_cases hzb : z = b
          · obtain rfl : b = z := hzb.symm
            have hn1 : Hid (xs = (woOne true (cs.take (k + 1)) b).1 ∧ true = (woOne true (cs.take (k + 1)) b).2) := hide (by rw [take_snoc' hz.out, woOne_skip (by rw [← hf2.out]), ← hf1.out]; exact ⟨rfl, rfl⟩)
            clear hIN
            go_wp2_with fail
            go_roundw
            case rel => exact ⟨k + 1, _, xs, ys, _, _, by omega, by go_num, rfl, hn1.out.1, hn1.out.2, hf3.out, hP.out, HBR.out⟩
            case measure => simp [intOf]; omega
          · have hne : z ≠ b := hzb
            have hzf : (z == b) = false := by simpa using hzb
            have hn1 : Hid (xs ++ [z] = (woOne true (cs.take (k + 1)) b).1 ∧ false = (woOne true (cs.take (k + 1)) b).2) := hide (by rw [take_snoc' hz.out, woOne_keep (by first | exact .inl rfl | exact .inr (.inl hf2.out.symm) | exact .inr (.inr hne)), ← hf1.out, ← hf2.out]; exact ⟨rfl, rfl⟩)
            go_wp2_with fail
            have hown := hP.out.own1
            have hlz := hIN.2.2.2
            clear hIN
            go_region_law ((refine step_append_lies _ (by rfl) _ _ _ (by rfl) lo 2 i0 (.int .i64 0) 1 8 Try.underlying22 hi hz0 hz1 hz2 rfl (by decide) _ _ _ (by rfl) (ownsRow_keep hown (by first | exact (((Below.refl _ _).alloc (Nat.le_refl _) _).drew) | exact (((Below.refl _ _).drew).alloc (by simp) _))) ⟨wr.heap.size, 0, none⟩ 1 1 [.int .i64 z] (by rfl) rfl (World.news_of_block (heap_alloc_new wr _)) (by simp [Value.oneCell']) (by omega) (by unfold maxLen; omega) (by omega) (by simp; omega) (wr.heap.size + 1) (by simp) ?_; intro g cap w1 hown1 hgrow hat hlt1; have hG := hP.out.grow (by first | exact (((Below.refl _ _).alloc (Nat.le_refl _) _).drew) | exact (((Below.refl _ _).drew).alloc (by simp) _)) hown1 hgrow hat (by omega); have hcx : w1.cell? ⟨Bx, 0, none⟩ = some (.slice a1 xs.length k1) := (cell_of_row w1 Bx 0 _ _ (0, 0) hG.1).trans rfl; have hfx : w1.frozen? ⟨Bx, 0, none⟩ = false := frozen_of_row w1 Bx 0 _ _ hG.1; have HG := hide hG.2; clear hG hown1 hgrow hat))
            all_goals
              have HB2 := hide (HBR.out.trans HG.out.2)
              go_wp2_with fail
              go_roundw
              case rel => exact ⟨k + 1, _, xs ++ [z], ys, _, _, by omega, by go_num, rfl, hn1.out.1, hn1.out.2, hf3.out, HG.out.1, HB2.out⟩
              case measure => simp [intOf]; omega
        · skip
          have hn1 : Hid (xs ++ [z] = (woOne true (cs.take (k + 1)) b).1 ∧ true = (woOne true (cs.take (k + 1)) b).2) := hide (by rw [take_snoc' hz.out, woOne_keep (by first | exact .inl rfl | exact .inr (.inl hf2.out.symm) | exact .inr (.inr hne)), ← hf1.out, ← hf2.out]; exact ⟨rfl, rfl⟩)
          go_wp2_with fail
          have hown := hP.out.own1
          have hlz := hIN.2.2.2
          clear hIN
          go_region_law ((refine step_append_lies _ (by rfl) _ _ _ (by rfl) lo 2 i0 (.int .i64 0) 1 8 Try.underlying22 hi hz0 hz1 hz2 rfl (by decide) _ _ _ (by rfl) (ownsRow_keep hown (by first | exact (((Below.refl _ _).alloc (Nat.le_refl _) _).drew) | exact (((Below.refl _ _).drew).alloc (by simp) _))) ⟨wr.heap.size, 0, none⟩ 1 1 [.int .i64 z] (by rfl) rfl (World.news_of_block (heap_alloc_new wr _)) (by simp [Value.oneCell']) (by omega) (by unfold maxLen; omega) (by omega) (by simp; omega) (wr.heap.size + 1) (by simp) ?_; intro g cap w1 hown1 hgrow hat hlt1; have hG := hP.out.grow (by first | exact (((Below.refl _ _).alloc (Nat.le_refl _) _).drew) | exact (((Below.refl _ _).drew).alloc (by simp) _)) hown1 hgrow hat (by omega); have hcx : w1.cell? ⟨Bx, 0, none⟩ = some (.slice a1 xs.length k1) := (cell_of_row w1 Bx 0 _ _ (0, 0) hG.1).trans rfl; have hfx : w1.frozen? ⟨Bx, 0, none⟩ = false := frozen_of_row w1 Bx 0 _ _ hG.1; have HG := hide hG.2; clear hG hown1 hgrow hat))
          all_goals
            have HB2 := hide (HBR.out.trans HG.out.2)
            go_wp2_with fail
            go_roundw
            case rel => exact ⟨k + 1, _, xs ++ [z], ys, _, _, by omega, by go_num, rfl, hn1.out.1, hn1.out.2, hf3.out, HG.out.1, HB2.out⟩
            case measure => simp [intOf]; omega
      · obtain rfl : k = cs.length := by omega
        have hn1 := hide hf1.out
        rw [List.take_length] at hf1 hf2
        have hxs : Hid (xs = (woOne true cs b).1) := hf1
        have hff : Hid (f = (woOne true cs b).2) := hf2
        obtain rfl : ys = [] := hf3.out
        obtain ⟨wo, hwo⟩ : ∃ wo : World, wo = wr := ⟨_, rfl⟩
        clear hPr hBr hIN hn1
        go_wp2_with fail
        go_loopw [9, 11] (fun fo i wr => ∃ (k : Nat) (f : Bool) (xs ys : List Int) (v1 v2 : Value), k ≤ ls.length ∧ i = .int .i64 k ∧ fo = .bool f ∧ Hid (ys = ls.take k) ∧ Hid (f = decide (b ∈ cs)) ∧ Hid (xs = cs.erase b) ∧ PairV wr lo Bx v1 xs v2 ys ∧ Below lo W0 wr) (fun _ i _ => ls.length - (intOf i).toNat)
        case atStart => exact ⟨0, f, xs, [], _, _, Nat.zero_le _, rfl, rfl, by rw [List.take_zero]; rfl, hff.out, hxs.out, hP.out, HBR.out⟩
        case round =>
          clear hP HBR hxs hff hwo q0 q1 e0 e1 hf1 hf2 hf3 hlt hk
          obtain ⟨k, f, xs, ys, v1, v2, hk, rfl, rfl, hf1, hf2, hf3, hPr, hBr⟩ := hrel
          have hIN := HIN.out wr hBr
          obtain ⟨a1, k1, rfl⟩ := own_form hPr.own1
          obtain ⟨a2, k2, rfl⟩ := own_form hPr.own2
          have hP := hide hPr
          have hBl : Bx < wr.heap.size := block_lt hPr.box
          have hWl : W.heap.size < wr.heap.size := by have := World.block_lt_of_cell? wr _ hIN.1.1; simpa using this
          have HBR := hide hBr
          have q0 : wr.cell? ⟨Bx, 0, none⟩ = some (.slice a1 xs.length k1) := (cell_of_row _ _ 0 _ _ (0, 0) hPr.box).trans rfl
          have q1 : wr.cell? ⟨Bx, 1, none⟩ = some (.slice a2 ys.length k2) := (cell_of_row _ _ 1 _ _ (0, 0) hPr.box).trans rfl
          obtain ⟨e0, e1⟩ := hIN.1
          by_cases hlt : k < ls.length
          · obtain ⟨bb, off, z, rfl, hcell, hz⟩ := hIN.2.2.1.one hlt
            have hxl : ys.length ≤ 1048576 := by rw [hf1.out]; have := List.length_take_le' k ls; omega
            clear hPr hBr
            cases f
            all_goals
              have hn1 : Hid (ys ++ [z] = ls.take (k + 1)) := hide (by rw [take_snoc' hz.out, ← hf1.out])
              go_wp2_with fail
              have hown := hP.out.own2
              have hlz := hIN.2.2.2
              clear hIN
              go_region_law ((refine step_append_lies _ (by rfl) _ _ _ (by rfl) lo 2 i0 (.int .i64 0) 1 8 Try.underlying22 hi hz0 hz1 hz2 rfl (by decide) _ _ _ (by rfl) (ownsRow_keep hown (by first | exact (((Below.refl _ _).alloc (Nat.le_refl _) _).drew) | exact (((Below.refl _ _).drew).alloc (by simp) _))) ⟨wr.heap.size, 0, none⟩ 1 1 [.int .i64 z] (by rfl) rfl (World.news_of_block (heap_alloc_new wr _)) (by simp [Value.oneCell']) (by omega) (by unfold maxLen; omega) (by omega) (by simp; omega) (wr.heap.size + 1) (by simp) ?_; intro g cap w1 hown1 hgrow hat hlt1; have hG := hP.out.grow' (by first | exact (((Below.refl _ _).alloc (Nat.le_refl _) _).drew) | exact (((Below.refl _ _).drew).alloc (by simp) _)) hown1 hgrow hat (by omega); have hcx : w1.cell? ⟨Bx, 1, none⟩ = some (.slice a2 ys.length k2) := (cell_of_row w1 Bx 1 _ _ (0, 0) hG.1).trans rfl; have hfx : w1.frozen? ⟨Bx, 1, none⟩ = false := frozen_of_row w1 Bx 1 _ _ hG.1; have HG := hide hG.2; clear hG hown1 hgrow hat))
              all_goals
                have HB2 := hide (HBR.out.trans HG.out.2)
                go_wp2_with fail
                go_roundw
                case rel => exact ⟨k + 1, _, xs, ys ++ [z], _, _, by omega, by go_num, rfl, hn1.out, hf2.out, hf3.out, HG.out.1, HB2.out⟩
                case measure => simp [intOf]; omega
          · obtain rfl : k = ls.length := by omega
            obtain ⟨b1, j1, b2, j2, e1', e2', t0, t1, hR, hN⟩ := HFIN.out wr _ _ xs ys HBR.out hP.out
            obtain ⟨d0, d1, g0, g1⟩ := row2' hR
            have hres := hide (hN f)
            have hz2' := hide (box_set2' (x' := .slice a1 xs.length k1) (y' := .slice a2 ys.length k2) hR)
            have hval : (r1, r2, r3) = (xs, ys, f) := HRR.out.symm.trans (by rw [hf1.out, hf2.out, hf3.out, List.take_length]; rfl)
            obtain ⟨rfl, rfl, rfl⟩ : r1 = xs ∧ r2 = ys ∧ r3 = f := by simpa using hval
            clear hval
            clear hPr hBr hIN hf1 hf2 hf3 hR hN e1' e2'
            go_wp2_with fail
            obtain ⟨j0, j1', _⟩ := row2' hz2'.out
            refine bodyPost_ret ?_ rfl hres.out
            simp [results, Try.results27, go_sem, j0, j1']
  · go_enter Try.func27, Try.ntmps27
    go_wp2_with fail
    rw [← hW0, ← hBx]
    clear hW0 hBx hlo
    (try go_wp2_with fail)
    go_loopw [9, 10] (fun fo i wr => ∃ (k : Nat) (f : Bool) (xs ys : List Int) (v1 v2 : Value), k ≤ cs.length ∧ i = .int .i64 k ∧ fo = .bool f ∧ Hid (xs = (woOne false (cs.take k) b).1) ∧ Hid (f = (woOne false (cs.take k) b).2) ∧ Hid (ys = []) ∧ PairV wr lo Bx v1 xs v2 ys ∧ Below lo W0 wr) (fun _ i _ => cs.length - (intOf i).toNat)
    case atStart => exact ⟨0, false, [], [], _, _, Nat.zero_le _, rfl, rfl, by rw [List.take_zero]; rfl, by rw [List.take_zero]; rfl, rfl, hP0.out, hW0lo.out⟩
    case round =>
      clear hP0 c0 c1
      obtain ⟨k, f, xs, ys, v1, v2, hk, rfl, rfl, hf1, hf2, hf3, hPr, hBr⟩ := hrel
      have hIN := HIN.out wr hBr
      obtain ⟨a1, k1, rfl⟩ := own_form hPr.own1
      obtain ⟨a2, k2, rfl⟩ := own_form hPr.own2
      have hP := hide hPr
      have hBl : Bx < wr.heap.size := block_lt hPr.box
      have hWl : W.heap.size < wr.heap.size := by have := World.block_lt_of_cell? wr _ hIN.1.1; simpa using this
      have HBR := hide hBr
      have q0 : wr.cell? ⟨Bx, 0, none⟩ = some (.slice a1 xs.length k1) := (cell_of_row _ _ 0 _ _ (0, 0) hPr.box).trans rfl
      have q1 : wr.cell? ⟨Bx, 1, none⟩ = some (.slice a2 ys.length k2) := (cell_of_row _ _ 1 _ _ (0, 0) hPr.box).trans rfl
      obtain ⟨e0, e1⟩ := hIN.1
      by_cases hlt : k < cs.length
      · obtain ⟨bb, off, z, rfl, hcell, hz⟩ := hIN.2.1.one hlt
        have hxl : xs.length ≤ 1048576 := by rw [hf1.out]; have := woOne_le false (cs.take k) b; have := List.length_take_le' k cs; omega
        clear hPr hBr
        obtain rfl : f = false := by rw [hf2.out]; rfl
        have hn1 : Hid (xs ++ [z] = (woOne false (cs.take (k + 1)) b).1 ∧ false = (woOne false (cs.take (k + 1)) b).2) := hide (by rw [take_snoc' hz.out, woOne_keep (by first | exact .inl rfl | exact .inr (.inl hf2.out.symm) | exact .inr (.inr hne)), ← hf1.out, ← hf2.out]; exact ⟨rfl, rfl⟩)
        go_wp2_with fail
        have hown := hP.out.own1
        have hlz := hIN.2.2.2
        clear hIN
        go_region_law ((refine step_append_lies _ (by rfl) _ _ _ (by rfl) lo 2 i0 (.int .i64 0) 1 8 Try.underlying22 hi hz0 hz1 hz2 rfl (by decide) _ _ _ (by rfl) (ownsRow_keep hown (by first | exact (((Below.refl _ _).alloc (Nat.le_refl _) _).drew) | exact (((Below.refl _ _).drew).alloc (by simp) _))) ⟨wr.heap.size, 0, none⟩ 1 1 [.int .i64 z] (by rfl) rfl (World.news_of_block (heap_alloc_new wr _)) (by simp [Value.oneCell']) (by omega) (by unfold maxLen; omega) (by omega) (by simp; omega) (wr.heap.size + 1) (by simp) ?_; intro g cap w1 hown1 hgrow hat hlt1; have hG := hP.out.grow (by first | exact (((Below.refl _ _).alloc (Nat.le_refl _) _).drew) | exact (((Below.refl _ _).drew).alloc (by simp) _)) hown1 hgrow hat (by omega); have hcx : w1.cell? ⟨Bx, 0, none⟩ = some (.slice a1 xs.length k1) := (cell_of_row w1 Bx 0 _ _ (0, 0) hG.1).trans rfl; have hfx : w1.frozen? ⟨Bx, 0, none⟩ = false := frozen_of_row w1 Bx 0 _ _ hG.1; have HG := hide hG.2; clear hG hown1 hgrow hat))
        all_goals
          have HB2 := hide (HBR.out.trans HG.out.2)
          go_wp2_with fail
          go_roundw
          case rel => exact ⟨k + 1, _, xs ++ [z], ys, _, _, by omega, by go_num, rfl, hn1.out.1, hn1.out.2, hf3.out, HG.out.1, HB2.out⟩
          case measure => simp [intOf]; omega
      · obtain rfl : k = cs.length := by omega
        have hn1 := hide hf1.out
        rw [List.take_length] at hf1 hf2
        have hxs : Hid (xs = (woOne false cs b).1) := hf1
        have hff : Hid (f = (woOne false cs b).2) := hf2
        obtain rfl : ys = [] := hf3.out
        obtain ⟨wo, hwo⟩ : ∃ wo : World, wo = wr := ⟨_, rfl⟩
        clear hPr hBr hIN hn1
        go_wp2_with fail
        go_loopw [9, 11] (fun fo i wr => ∃ (k : Nat) (f : Bool) (xs ys : List Int) (v1 v2 : Value), k ≤ ls.length ∧ i = .int .i64 k ∧ fo = .bool f ∧ Hid (ys = (woOne true (ls.take k) b).1) ∧ Hid (f = (woOne true (ls.take k) b).2) ∧ Hid (xs = cs) ∧ PairV wr lo Bx v1 xs v2 ys ∧ Below lo W0 wr) (fun _ i _ => ls.length - (intOf i).toNat)
        case atStart => exact ⟨0, f, xs, [], _, _, Nat.zero_le _, rfl, rfl, by rw [List.take_zero]; rfl, by rw [List.take_zero]; exact hff.out, hxs.out, hP.out, HBR.out⟩
        case round =>
          clear hP HBR hxs hff hwo q0 q1 e0 e1 hf1 hf2 hf3 hlt hk
          obtain ⟨k, f, xs, ys, v1, v2, hk, rfl, rfl, hf1, hf2, hf3, hPr, hBr⟩ := hrel
          have hIN := HIN.out wr hBr
          obtain ⟨a1, k1, rfl⟩ := own_form hPr.own1
          obtain ⟨a2, k2, rfl⟩ := own_form hPr.own2
          have hP := hide hPr
          have hBl : Bx < wr.heap.size := block_lt hPr.box
          have hWl : W.heap.size < wr.heap.size := by have := World.block_lt_of_cell? wr _ hIN.1.1; simpa using this
          have HBR := hide hBr
          have q0 : wr.cell? ⟨Bx, 0, none⟩ = some (.slice a1 xs.length k1) := (cell_of_row _ _ 0 _ _ (0, 0) hPr.box).trans rfl
          have q1 : wr.cell? ⟨Bx, 1, none⟩ = some (.slice a2 ys.length k2) := (cell_of_row _ _ 1 _ _ (0, 0) hPr.box).trans rfl
          obtain ⟨e0, e1⟩ := hIN.1
          by_cases hlt : k < ls.length
          · obtain ⟨bb, off, z, rfl, hcell, hz⟩ := hIN.2.2.1.one hlt
            have hxl : ys.length ≤ 1048576 := by rw [hf1.out]; have := woOne_le true (ls.take k) b; have := List.length_take_le' k ls; omega
            clear hPr hBr
            cases f
            · by_cases hzb : z = b
              · obtain rfl : b = z := hzb.symm
                have hn1 : Hid (ys = (woOne true (ls.take (k + 1)) b).1 ∧ true = (woOne true (ls.take (k + 1)) b).2) := hide (by rw [take_snoc' hz.out, woOne_skip (by rw [← hf2.out]), ← hf1.out]; exact ⟨rfl, rfl⟩)
                clear hIN
                go_wp2_with fail
                go_roundw
                case rel => exact ⟨k + 1, _, xs, ys, _, _, by omega, by go_num, rfl, hn1.out.1, hn1.out.2, hf3.out, hP.out, HBR.out⟩
                case measure => simp [intOf]; omega
              · have hne : z ≠ b := hzb
                have hzf : (z == b) = false := by simpa using hzb
                have hn1 : Hid (ys ++ [z] = (woOne true (ls.take (k + 1)) b).1 ∧ false = (woOne true (ls.take (k + 1)) b).2) := hide (by rw [take_snoc' hz.out, woOne_keep (by first | exact .inl rfl | exact .inr (.inl hf2.out.symm) | exact .inr (.inr hne)), ← hf1.out, ← hf2.out]; exact ⟨rfl, rfl⟩)
                go_wp2_with fail
                have hown := hP.out.own2
                have hlz := hIN.2.2.2
                clear hIN
                go_region_law ((refine step_append_lies _ (by rfl) _ _ _ (by rfl) lo 2 i0 (.int .i64 0) 1 8 Try.underlying22 hi hz0 hz1 hz2 rfl (by decide) _ _ _ (by rfl) (ownsRow_keep hown (by first | exact (((Below.refl _ _).alloc (Nat.le_refl _) _).drew) | exact (((Below.refl _ _).drew).alloc (by simp) _))) ⟨wr.heap.size, 0, none⟩ 1 1 [.int .i64 z] (by rfl) rfl (World.news_of_block (heap_alloc_new wr _)) (by simp [Value.oneCell']) (by omega) (by unfold maxLen; omega) (by omega) (by simp; omega) (wr.heap.size + 1) (by simp) ?_; intro g cap w1 hown1 hgrow hat hlt1; have hG := hP.out.grow' (by first | exact (((Below.refl _ _).alloc (Nat.le_refl _) _).drew) | exact (((Below.refl _ _).drew).alloc (by simp) _)) hown1 hgrow hat (by omega); have hcx : w1.cell? ⟨Bx, 1, none⟩ = some (.slice a2 ys.length k2) := (cell_of_row w1 Bx 1 _ _ (0, 0) hG.1).trans rfl; have hfx : w1.frozen? ⟨Bx, 1, none⟩ = false := frozen_of_row w1 Bx 1 _ _ hG.1; have HG := hide hG.2; clear hG hown1 hgrow hat))
                all_goals
                  have HB2 := hide (HBR.out.trans HG.out.2)
                  go_wp2_with fail
                  go_roundw
                  case rel => exact ⟨k + 1, _, xs, ys ++ [z], _, _, by omega, by go_num, rfl, hn1.out.1, hn1.out.2, hf3.out, HG.out.1, HB2.out⟩
                  case measure => simp [intOf]; omega
            · skip
              have hn1 : Hid (ys ++ [z] = (woOne true (ls.take (k + 1)) b).1 ∧ true = (woOne true (ls.take (k + 1)) b).2) := hide (by rw [take_snoc' hz.out, woOne_keep (by first | exact .inl rfl | exact .inr (.inl hf2.out.symm) | exact .inr (.inr hne)), ← hf1.out, ← hf2.out]; exact ⟨rfl, rfl⟩)
              go_wp2_with fail
              have hown := hP.out.own2
              have hlz := hIN.2.2.2
              clear hIN
              go_region_law ((refine step_append_lies _ (by rfl) _ _ _ (by rfl) lo 2 i0 (.int .i64 0) 1 8 Try.underlying22 hi hz0 hz1 hz2 rfl (by decide) _ _ _ (by rfl) (ownsRow_keep hown (by first | exact (((Below.refl _ _).alloc (Nat.le_refl _) _).drew) | exact (((Below.refl _ _).drew).alloc (by simp) _))) ⟨wr.heap.size, 0, none⟩ 1 1 [.int .i64 z] (by rfl) rfl (World.news_of_block (heap_alloc_new wr _)) (by simp [Value.oneCell']) (by omega) (by unfold maxLen; omega) (by omega) (by simp; omega) (wr.heap.size + 1) (by simp) ?_; intro g cap w1 hown1 hgrow hat hlt1; have hG := hP.out.grow' (by first | exact (((Below.refl _ _).alloc (Nat.le_refl _) _).drew) | exact (((Below.refl _ _).drew).alloc (by simp) _)) hown1 hgrow hat (by omega); have hcx : w1.cell? ⟨Bx, 1, none⟩ = some (.slice a2 ys.length k2) := (cell_of_row w1 Bx 1 _ _ (0, 0) hG.1).trans rfl; have hfx : w1.frozen? ⟨Bx, 1, none⟩ = false := frozen_of_row w1 Bx 1 _ _ hG.1; have HG := hide hG.2; clear hG hown1 hgrow hat))
              all_goals
                have HB2 := hide (HBR.out.trans HG.out.2)
                go_wp2_with fail
                go_roundw
                case rel => exact ⟨k + 1, _, xs, ys ++ [z], _, _, by omega, by go_num, rfl, hn1.out.1, hn1.out.2, hf3.out, HG.out.1, HB2.out⟩
                case measure => simp [intOf]; omega
          · obtain rfl : k = ls.length := by omega
            obtain ⟨b1, j1, b2, j2, e1', e2', t0, t1, hR, hN⟩ := HFIN.out wr _ _ xs ys HBR.out hP.out
            obtain ⟨d0, d1, g0, g1⟩ := row2' hR
            have hres := hide (hN f)
            have hz2' := hide (box_set2' (x' := .slice a1 xs.length k1) (y' := .slice a2 ys.length k2) hR)
            have hval : (r1, r2, r3) = (xs, ys, f) := HRR.out.symm.trans (by rw [hf1.out, hf2.out, hf3.out, List.take_length]; rfl)
            obtain ⟨rfl, rfl, rfl⟩ : r1 = xs ∧ r2 = ys ∧ r3 = f := by simpa using hval
            clear hval
            clear hPr hBr hIN hf1 hf2 hf3 hR hN e1' e2'
            go_wp2_with fail
            obtain ⟨j0, j1', _⟩ := row2' hz2'.out
            refine bodyPost_ret ?_ rfl hres.out
            simp [results, Try.results27, go_sem, j0, j1']
end Go.Proofs.Ytbfpbkbhikogiab
