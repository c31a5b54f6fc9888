/-
  StartOf: the model's text against the plain function.
-/
import Derived.Test.YtfceiipfjfkehaaStart
namespace Go.Proofs.Ytfceiipfjfkehaa
open Go.RowKit

theorem l01In_any (n low high : Int) (w : World) :
    Calls Try.prog 48 #[.int .i64 n, .int .i64 low, .int .i64 high] w fun e w' => e = .returned (.bool (decide (low ≤ n) && decide (n ≤ high))) ∧ w = w' := by
  by_cases h1 : low ≤ n
  · by_cases h2 : n ≤ high
    · go_enter Try.func48, Try.ntmps48
      go_wp2
      go_ret
      exact ⟨ret_bool (by simp [h1, h2]), rfl⟩
    · go_enter Try.func48, Try.ntmps48
      go_wp2
      go_ret
      exact ⟨ret_bool (by simp; omega), rfl⟩
  · go_enter Try.func48, Try.ntmps48
    go_wp2
    go_ret
    exact ⟨ret_bool (by simp; omega), rfl⟩

set_option maxRecDepth 100000 in
set_option maxHeartbeats 2000000 in
theorem specStart_any (n : Int) (w : World) :
    Calls Try.prog 14 #[.int .i64 n] w (NewCubeC (startR n) w.heap.size w) := by
  obtain ⟨i1, hi1, hy0, hy1, hy2⟩ := info_parts Try.info35
  obtain ⟨r, hr⟩ : ∃ r, r = startR n := ⟨_, rfl⟩
  rw [← hr]
  unfold startR at hr
  have hB0 : Below w.heap.size w (w.alloc (.cells #[.int .i64 0, .slice none 0 0] 24)) := (Below.refl _ _).alloc (Nat.le_refl _) _
  have hR0 : (w.alloc (.cells #[.int .i64 0, .slice none 0 0] 24)).heap[w.heap.size]? = some (.cells #[.int .i64 0, .slice none 0 0] 24 (0, 0)) := heap_alloc_new w _
  have hno : ∀ w', Below w.heap.size w w' → NewCubeC (0, [], 2) w.heap.size w (.returned (.tuple #[.agg #[.int .i64 0, .slice none 0 0], .int .i64 2])) w' := fun w' h => ⟨none, 0, [], rfl, CubeLeaves.nil _ _, h⟩
  have HNO := hide hno
  clear hno
  by_cases hn : 1 ≤ n ∧ n ≤ 6
  · obtain ⟨hn1, hn6⟩ := hn
    rw [if_pos ⟨hn1, hn6⟩] at hr
    obtain ⟨k, rfl⟩ := Int.eq_ofNat_of_zero_le (show 0 ≤ n by omega)
    have hin : (decide ((1 : Int) ≤ (k : Int)) && decide ((k : Int) ≤ 6)) = true := by rw [decide_eq_true hn1, decide_eq_true hn6]; rfl
    have HIN := hide hin
    clear hin
    have HR := hide hr
    clear hr
    go_enter Try.func14, Try.ntmps14
    go_wp2_with fail
    refine (l01In_any _ _ _ _).mono ?_
    rw [HIN.out]
    rintro e w1 ⟨rfl, rfl⟩
    go_wp2_with fail
    have hB0' : Below w.heap.size w ((w.alloc (.cells #[.int .i64 0, .slice none 0 0] 24)).alloc (.cells #[] 35)) := hB0.alloc (by simp) _
    have hR0' : ((w.alloc (.cells #[.int .i64 0, .slice none 0 0] 24)).alloc (.cells #[] 35)).heap[w.heap.size]? = some (.cells #[.int .i64 0, .slice none 0 0] 24 (0, 0)) := by
      rw [Below.heap_alloc _ _ _ (by simp)]
      exact hR0
    have hE0' : ((w.alloc (.cells #[.int .i64 0, .slice none 0 0] 24)).alloc (.cells #[] 35)).heap[w.heap.size + 1]? = some (.cells #[] 35 (0, 0)) := by
      have := heap_alloc_new (w.alloc (.cells #[.int .i64 0, .slice none 0 0] 24)) (.cells #[] 35 (0, 0))
      simpa using this
    clear hB0 hR0
    obtain ⟨W0, hW0⟩ : ∃ W0, W0 = (w.alloc (.cells #[.int .i64 0, .slice none 0 0] 24)).alloc (.cells #[] 35) := ⟨_, rfl⟩
    rw [← hW0] at hB0' hR0' hE0' ⊢
    have hB0 := hB0'
    have hsz : w.heap.size + 1 ≤ W0.heap.size := by have := block_lt hE0'; omega
    have hG0 : Hid (Grow W0 (w.heap.size + 1) (.slice (some ⟨w.heap.size + 1, 0, none⟩) 0 0) []) := hide ⟨⟨rfl, .inr ⟨w.heap.size + 1, 0, #[], rfl, Nat.le_refl _, hE0', Nat.le_refl _, Nat.zero_le _, rfl, rfl⟩⟩, fun _ _ h => by simp at h, by simp⟩
    have hD0 := hide (Below.refl (w.heap.size + 1) W0)
    have HR0 := hide hR0'
    clear hW0 hR0' hB0' hE0'
    go_loopw [4, 5] (fun v i wr => ∃ (gs : List Nat) (v0 : Value), v0 = v ∧ gs.length ≤ k ∧ i = .int .i64 gs.length ∧ Grow wr (w.heap.size + 1) v gs ∧ Below (w.heap.size + 1) W0 wr) (fun _ i _ => k - (intOf i).toNat)
    case atStart => exact ⟨[], _, rfl, Nat.zero_le _, rfl, hG0.out, hD0.out⟩
    case round =>
      clear hG0 hD0
      obtain ⟨gs, v, rfl, hgk, rfl, hG, hD⟩ := hrel
      have hszr : w.heap.size + 1 ≤ wr.heap.size := Nat.le_trans hsz hD.size
      by_cases hlt : gs.length < k
      · have hown := hG.1
        have hnb : ((wr.alloc (.cells #[.int .i64 (gs.length : Int)] 2)).alloc (.cells #[.slice (some ⟨wr.heap.size, 0, none⟩) 1 1] 35)).heap[wr.heap.size + 1]? = some (.cells #[.slice (some ⟨wr.heap.size, 0, none⟩) 1 1] 35 (0, 0)) := by
          have := heap_alloc_new (wr.alloc (.cells #[.int .i64 (gs.length : Int)] 2)) (.cells #[.slice (some ⟨wr.heap.size, 0, none⟩) 1 1] 35 (0, 0))
          simpa using this
        have HNB := hide hnb
        have HG := hide hG
        have HD := hide hD
        clear hnb hG hD
        go_wp2_with (at_builtin; refine wpList_append_own _ rfl _ _ 42 rfl (w.heap.size + 1) 35 i1 (.slice none 0 0) 1 24 Try.underlying42 hi1 hy0 hy1 hy2 rfl (by decide) _ _ _ rfl ((hown.alloc _).alloc _) ⟨wr.heap.size + 1, 0, none⟩ 1 1 [.slice (some ⟨wr.heap.size, 0, none⟩) 1 1] rfl rfl (World.news_of_block HNB.out) (by simp [Value.oneCell']) (by unfold maxLen; omega) (by omega) (by simp; omega) ?_)
        intro v' w4 hown' hgrow _
        have hN : Hid (Grow w4 (w.heap.size + 1) v' (gs ++ [wr.heap.size]) ∧ Below (w.heap.size + 1) W0 w4) := by
          refine hide ⟨grow_step HG.out hszr rfl hown' hgrow, ?_⟩
          exact ((HD.out.alloc hszr _).alloc (by simp; omega) _).grown hgrow (by simp; omega) (fun j hj => (((hown.alloc (.cells #[.int .i64 (gs.length : Int)] 2)).alloc (.cells #[.slice (some ⟨wr.heap.size, 0, none⟩) 1 1] 35)).lt j hj).1)
        clear hown hown' hgrow
        go_wp2_with fail
        go_roundw
        case rel => exact ⟨gs ++ [wr.heap.size], _, rfl, by simp; omega, by simp, hN.out.1, hN.out.2⟩
        case measure => simp [intOf]; omega
      · obtain rfl : k = gs.length := by omega
        obtain ⟨a, c, rfl⟩ := own_form hG.1
        have hBr : Below w.heap.size w wr := hB0.trans (hD.mono (by omega))
        have hRr := (hD.block w.heap.size (by omega)).trans HR0.out
        have hc0 : wr.cell? ⟨w.heap.size, 0, none⟩ = some (.int .i64 0) := by rw [cell_of_row wr w.heap.size 0 _ _ (0, 0) hRr]; rfl
        have hc1 : wr.cell? ⟨w.heap.size, 1, none⟩ = some (.slice none 0 0) := by rw [cell_of_row wr w.heap.size 1 _ _ (0, 0) hRr]; rfl
        have hf0 : wr.frozen? ⟨w.heap.size, 0, none⟩ = false := frozen_of_row wr w.heap.size 0 _ _ hRr
        have hf1 : wr.frozen? ⟨w.heap.size, 1, none⟩ = false := frozen_of_row wr w.heap.size 1 _ _ hRr
        have hlt : w.heap.size < wr.heap.size := by omega
        have hfin : ∀ w', (∀ b, b ≠ w.heap.size → w'.heap[b]? = (wr.alloc (.cells #[.slice a gs.length c] 42)).heap[b]?) → Below w.heap.size w w' → NewCubeC r w.heap.size w (.returned (.tuple #[.agg #[.int .i64 gs.length, .slice (some ⟨wr.heap.size, 0, none⟩) 1 1], .int .i64 0])) w' := by
          intro w' hag hB
          have hg := ((grow_leaves hG (by omega)).keep ((Below.refl _ _).alloc (Nat.le_refl _) (.cells #[.slice a gs.length c] 42)))
          have hb := heap_alloc_new wr (.cells #[.slice a gs.length c] 42 (0, 0))
          rw [HR.out]
          have hl : (startRows gs.length).length = gs.length := by simp [startRows]
          have hcu := cube_one (b := wr.heap.size) (xss := startRows gs.length) (a := a) (c := c) hg (by rw [hl]; exact hb) hszr
          have hcu2 : CubeLeaves w' w.heap.size (some ⟨wr.heap.size, 0, none⟩) [startRows gs.length] [gs.map spotLf] := (hcu.agree (fun b hb' _ => hag b (by omega))).mono (by omega)
          exact ⟨some ⟨wr.heap.size, 0, none⟩, 1, [gs.map spotLf], rfl, hcu2, hB⟩
        have HF := hide hfin
        clear hfin hRr hG hD
        go_wp2_with fail
        exact bodyPost_ret (v := .tuple #[.agg #[.int .i64 gs.length, .slice (some ⟨wr.heap.size, 0, none⟩) 1 1], .int .i64 0]) (by simp [results, Try.results14, go_sem, hc0, hc1, hlt]) rfl
          (HF.out _ (fun b hb => by rw [alloc_setCell_agree _ _ _ _ _ hb, alloc_setCell_agree _ _ _ _ _ hb]) (((hBr.setCell (p := ⟨w.heap.size, 0, none⟩) (Nat.le_refl _) _).setCell (p := ⟨w.heap.size, 1, none⟩) (Nat.le_refl _) _).alloc (by simp [World.setCell]; omega) _))
  · rw [if_neg hn] at hr
    subst hr
    have hin : (decide ((1 : Int) ≤ n) && decide (n ≤ 6)) = false := by
      by_cases h1 : 1 ≤ n
      · rw [decide_eq_false (p := n ≤ 6) (by omega)]; simp
      · rw [decide_eq_false h1]; rfl
    have HIN := hide hin
    clear hn hin
    go_enter Try.func14, Try.ntmps14
    go_wp2_with fail
    refine (l01In_any _ _ _ _).mono ?_
    rw [HIN.out]
    rintro e w1 ⟨rfl, rfl⟩
    go_wp2_with fail
    exact bodyPost_ret (v := .tuple #[.agg #[.int .i64 0, .slice none 0 0], .int .i64 2]) (by simp [results, Try.results14, go_sem]) rfl (HNO.out _ (by first | exact hB0 | exact (hB0.setCell (p := ⟨w.heap.size, 0, none⟩) (Nat.le_refl _) _).setCell (p := ⟨w.heap.size, 1, none⟩) (Nat.le_refl _) _))
end Go.Proofs.Ytfceiipfjfkehaa
