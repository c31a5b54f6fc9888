/-
  BestMoves: the model's text of the list of best moves.
-/
import Derived.Test.YtailjbenichiaabBest
namespace Go.Proofs.Ytailjbenichiaab.B
open Go.RowKit Go.Shelf

set_option maxRecDepth 100000 in
set_option maxHeartbeats 1000000 in
theorem l01Best_any (a b : Option Addr) (c d p n : Nat) (xss : List (List Int)) (zs : List Int) (ws : List Bool) (w : World) (ha : RowsAt w a xss) (hb : BoolsAt w b ws) (hn : ws.length = n) (hp : xss[p]? = some zs) (hl : zs.length ≤ 40) (hz : ∀ z ∈ zs, 0 ≤ z ∧ z < n) :
    Calls Try.prog 43 #[.agg #[.slice a xss.length c], .slice b n d, .int .i64 p] w (NewL (lostL (fun i => ws[i]?.getD false) zs) w) := by
  obtain ⟨i0, hi, hz0, hz1, hz2⟩ := info_parts Try.info2
  have hpl : p < xss.length := (List.getElem?_eq_some_iff.1 hp).1
  obtain ⟨st, hst⟩ : ∃ st : Nat → Bool, st = fun i => ws[i]?.getD false := ⟨_, rfl⟩
  rw [← hst]
  have HST := hide hst
  have HN := hide hn
  have HP := hide hp
  have HZ := hide hz
  have hfin : ∀ (v : Value) (w' : World), w'.ownsRow (w.heap.size + 1) 2 1 v (lostL st zs).length ((lostL st zs).map intV) → Below w.heap.size w w' → NewL (lostL st zs) w (.returned v) w' := by
    intro v w' h1 h2
    obtain ⟨a', c', rfl⟩ := own_form h1
    exact ⟨a', c', rfl, ownsRow_base h1 (by omega), h2⟩
  have HF := hide hfin
  have hB0 : Below w.heap.size w (w.alloc (.cells #[.slice a xss.length c] 29)) := (Below.refl _ _).alloc (Nat.le_refl _) _
  have hbox : (w.alloc (.cells #[.slice a xss.length c] 29)).cell? ⟨w.heap.size, 0, none⟩ = some (.slice a xss.length c) := by simp [go_sem]
  have ho1 := hide (show ((w.alloc (.cells #[.slice a xss.length c] 29)).alloc (.cells #[] 2)).ownsRow (w.heap.size + 1) 2 1 (.slice (some ⟨w.heap.size + 1, 0, none⟩) 0 0) (lostL st (zs.take 0)).length ((lostL st (zs.take 0)).map intV) by
      have := World.ownsRow_made (e := 2) (size := 1) (base := w.heap.size + 1) (w.alloc (.cells #[.slice a xss.length c] 29)) #[] 0 (by simp) (Nat.zero_le _) rfl
      simpa [lostL] using this)
  have hD1 := hide ((Below.refl (w.heap.size + 1) (w.alloc (.cells #[.slice a xss.length c] 29))).alloc (by simp) (.cells #[] 2))
  have hHB := hide hB0
  clear hst hn hfin hz hp hB0
  go_enter Try.func43, Try.ntmps43
  go_wp2_with fail
  go_loopw [7, 8] (fun v i wr => ∃ (j : Nat) (v0 : Value), v0 = v ∧ j ≤ zs.length ∧ i = .int .i64 j ∧ wr.ownsRow (w.heap.size + 1) 2 1 v (lostL st (zs.take j)).length ((lostL st (zs.take j)).map intV) ∧ Below (w.heap.size + 1) (w.alloc (.cells #[.slice a xss.length c] 29)) wr) (fun _ i _ => zs.length - (intOf i).toNat)
  case atStart => exact ⟨0, _, rfl, Nat.zero_le _, rfl, ho1.out, hD1.out⟩
  case round =>
    clear ho1 hD1
    obtain ⟨j, v, rfl, hj, rfl, hown, hD⟩ := hrel
    obtain ⟨bp, op, ai, ci, zs', rfl, hcell0, hzz, hgk⟩ := ha.one hpl
    obtain rfl : zs' = zs := by have := hgk.out; rw [HP.out] at this; exact (Option.some.inj this).symm
    have hB := hHB.out.trans (hD.mono (by omega))
    have hbk := (hD.cell (p := ⟨w.heap.size, 0, none⟩) (by simp)).trans hbox
    have hck := cell_keep hB hcell0
    by_cases hlt : j < zs'.length
    · obtain ⟨bz, oz, z, rfl, hcz, hzj⟩ := (hzz.keep hB).one hlt
      have hzr := HZ.out z (mem_of_get hzj.out)
      obtain ⟨q, rfl⟩ := Int.eq_ofNat_of_zero_le hzr.1
      have hqn : q < n := by omega
      obtain ⟨bw, ow, x, rfl, hcw, hwq⟩ := (hb.keep hB).one (k := q) (by rw [HN.out]; exact hqn)
      have hsq : st q = x := by rw [HST.out]; simp [hwq.out]
      have hel : (lostL st (zs'.take j)).length ≤ j := Nat.le_trans (lostL_le _ _) (by simp; omega)
      have hszw : w.heap.size + 1 ≤ wr.heap.size := by have := hD.size; simpa using this
      clear ha hb hcell0
      cases x
      · have hE := hide (lostL_yes st hzj.out hsq)
        clear hsq
        go_wp2_with (at_builtin; refine wpList_append_own _ rfl _ _ 26 rfl (w.heap.size + 1) 2 i0 (.int .i64 0) 1 8 Try.underlying26 hi hz0 hz1 hz2 rfl (by decide) _ _ _ rfl (hown.alloc _) ⟨wr.heap.size, 0, none⟩ 1 1 [.int .i64 q] rfl rfl (cell_one_new _ _ _) (by simp [Value.oneCell']) (by unfold maxLen; omega) (by omega) (by simp; omega) ?_)
        intro v' w4 hown' hgrow _
        have hD4 : Below (w.heap.size + 1) (w.alloc (.cells #[.slice (some ⟨bp, op, none⟩) xss.length c] 29)) w4 := (hD.alloc hszw _).grown hgrow (by have := hszw; simp; omega) (fun j hj => ((hown.alloc (.cells #[Value.int .i64 q] 2)).lt j hj).1)
        have ho4 : Hid (w4.ownsRow (w.heap.size + 1) 2 1 v' (lostL st (zs'.take (j + 1))).length ((lostL st (zs'.take (j + 1))).map intV)) := by
          refine hide ?_
          rw [hE.out]
          simpa [intV] using hown'
        clear hown' hgrow hown hB hD
        go_wp2_with fail
        go_roundw
        case rel => exact ⟨j + 1, _, rfl, by omega, by go_num, ho4.out, hD4⟩
        case measure => simp [intOf]; omega
      · have ho4 : Hid (wr.ownsRow (w.heap.size + 1) 2 1 v (lostL st (zs'.take (j + 1))).length ((lostL st (zs'.take (j + 1))).map intV)) := by
          refine hide ?_
          rw [lostL_no st hzj.out hsq]
          exact hown
        clear hown hsq
        go_wp2_with fail
        go_roundw
        case rel => exact ⟨j + 1, _, rfl, by omega, by go_num, ho4.out, hD⟩
        case measure => simp [intOf]; omega
    · obtain rfl : j = zs'.length := by omega
      rw [List.take_length] at hown
      have hf := hide (HF.out v wr hown hB)
      clear hown
      go_wp2_with fail
      go_ret
      exact hf.out
end Go.Proofs.Ytailjbenichiaab.B
