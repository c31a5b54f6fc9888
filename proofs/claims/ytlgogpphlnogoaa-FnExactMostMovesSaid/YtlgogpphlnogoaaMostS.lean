/-
  MostMoves: the model's text against the plain function.
-/
import Derived.Test.YtlgogpphlnogoaaMostI
namespace Go.Proofs.Ytlgogpphlnogoaa.M
open Go.RowKit Go.Shelf

set_option maxRecDepth 100000 in
set_option maxHeartbeats 4000000 in
theorem spec_any (a : Option Addr) (c : Nat) (xss : List (List Int)) (w : World) (ha : RowsAt w a xss) (hs : Small xss) :
    Calls Try.prog 19 #[.agg #[.slice a xss.length c]] w (NewList (chkR (oneMore maxL) xss) w) := by
  have hB0 : Below w.heap.size w (w.alloc (.cells #[.slice a xss.length c] 29)) := (Below.refl _ _).alloc (Nat.le_refl _) _
  have hbox : (w.alloc (.cells #[.slice a xss.length c] 29)).cell? ⟨w.heap.size, 0, none⟩ = some (.slice a xss.length c) := by simp [go_sem]
  unfold chkR
  cases hg : isGameB xss
  · have hfin : ∀ w' : World, Below w.heap.size w w' → NewList (if false = true then (valsL 0 (oneMore maxL) xss, 0) else ([], 1)) w (.returned (.tuple #[.slice none 0 0, .int .i64 1])) w' := fun w' h => ⟨none, 0, rfl, World.ownsRow_nil _ _ _ _, h⟩
    have HF := hide hfin
    clear hfin
    go_enter Try.func19, Try.ntmps19
    go_wp2_with fail
    refine (l01Is_any _ _ xss _ (ha.keep hB0) hs).mono ?_
    rw [hg]
    rintro e w1 ⟨rfl, hB1⟩
    go_wp2_with fail
    go_ret2
    exact HF.out _ (Below.trans' hB0 hB1)
  · have HG := hide hg
    have hlen := game_len hg
    clear hg
    have hfin : ∀ (b : Nat) (w' : World), w.heap.size ≤ b → w'.rowIs b 2 xss.length (fun i => .int .i64 (stL 0 (oneMore maxL) xss (downs xss.length xss.length (Nat.le_refl _)) i)) → Below w.heap.size w w' →
        NewList (if true = true then (valsL 0 (oneMore maxL) xss, 0) else ([], 1)) w (.returned (.tuple #[.slice (some ⟨b, 0, none⟩) xss.length xss.length, .int .i64 0])) w' := by
      intro b w' hb hr hB
      have hl : (valsL 0 (oneMore maxL) xss).length = xss.length := by simp [valsL]
      have := rowIs_owns (base := w.heap.size) (vs := (valsL 0 (oneMore maxL) xss).map intV) hr hb (by unfold maxLen; omega) (by simp [hl]) (fun i hi => by simp [valsL, hi, intV])
      refine ⟨some ⟨b, 0, none⟩, xss.length, ?_, ?_, hB⟩
      · show _ = Ending.returned (.tuple #[.slice (some ⟨b, 0, none⟩) (valsL 0 (oneMore maxL) xss).length xss.length, .int .i64 0])
        rw [hl]
      · show w'.ownsRow w.heap.size 2 1 (.slice (some ⟨b, 0, none⟩) (valsL 0 (oneMore maxL) xss).length xss.length) (valsL 0 (oneMore maxL) xss).length ((valsL 0 (oneMore maxL) xss).map intV)
        rw [hl]
        exact this
    have HF := hide hfin
    clear hfin
    go_enter Try.func19, Try.ntmps19
    go_wp2_with fail
    refine (l01Is_any _ _ xss _ (ha.keep hB0) hs).mono ?_
    rw [HG.out]
    rintro e w0 ⟨rfl, hBi⟩
    have hbi := cell_keep hBi hbox
    have hB0i := Below.trans' hB0 hBi
    clear hbox hBi hB0
    go_wp2_with fail
    refine (l01N_any _ _ _ _).mono ?_
    rintro e w1 ⟨rfl, hBn⟩
    have hb1 := cell_keep hBn hbi
    have hBB := Below.trans' hB0i hBn
    have hlt1 : w.heap.size < w1.heap.size := World.block_lt_of_cell? w1 _ hb1
    clear hbi hBn hB0i
    go_wp2_with (at_make; refine wpList_make_fresh _ rfl _ _ 26 rfl 2 (.int .i64 0) 8 Try.underlying26 Try.info2 rfl .i64 .i64 xss.length rfl rfl (by omega) (by omega) ?_; intro w2 hr2 hB2; have hb2 := cell_keep hB2 hb1)
    refine (l01N_any _ _ _ _).mono ?_
    rintro e w3 ⟨rfl, hB3⟩
    have hr3 := hide (hr2.of_block (hB3.block _ hr2.lt))
    have hD3 := hide (hB2.trans (hB3.mono hB2.size))
    clear hb2 hr2 hB2 hB3
    go_wp2_with fail
    go_loopw [5] (fun p wr => ∃ (k : Nat) (hk : k ≤ xss.length), p = .int .i64 ((xss.length : Int) - 1 - k) ∧ wr.rowIs w1.heap.size 2 xss.length (fun i => .int .i64 (stL 0 (oneMore maxL) xss (downs xss.length k hk) i)) ∧ Below w1.heap.size w1 wr) (fun p _ => (intOf p + 1).toNat)
    case atStart => exact ⟨0, Nat.zero_le _, by simp, hr3.out, hD3.out⟩
    case round =>
      clear hr3 hD3
      obtain ⟨k, hk, rfl, hr, hD⟩ := hrel
      by_cases hlt : k < xss.length
      · obtain ⟨xp, hxp⟩ : ∃ xp, xp = xss.length - 1 - k := ⟨_, rfl⟩
        have hxn : xp < xss.length := by omega
        have ei : ((xss.length : Int) - 1 - (k : Int)) = (xp : Int) := by omega
        rw [ei]
        obtain ⟨st, hst⟩ : ∃ st, st = stL 0 (oneMore maxL) xss (downs xss.length k hk) := ⟨_, rfl⟩
        have hst0 : st xp = 0 := by rw [hst]; exact stL_zero k hk xp (by omega)
        have hbd : ∀ i, 0 ≤ st i ∧ st i ≤ 40 := by
          intro i
          have := (stL_same (R1 := oneMoreW maxL) (R2 := oneMore maxL) (xss := xss) (fun k vs hk hv => oneMore_same pickBd k vs hk hv) (by omega) k hk).2 i
          rw [hst]
          omega
        rw [← hst] at hr
        obtain ⟨b, off, ai, ci, zs, rfl, hcell0, hzz, hgk⟩ := ha.one hxn
        have hzl := game_row_len HG.out hgk.out
        have hrow := hide (game_row HG.out hgk.out)
        have hX := hide hxp
        have HEND : Hid (∀ i, stL 0 (oneMore maxL) xss (downs xss.length (k + 1) hlt) i = upd st xp (oneMore maxL (afterOf st zs)) i) := by
          refine hide ?_
          intro i
          rw [downs, stL_snoc, ← hst]
          have e1 : rowOf xss (xss.length - 1 - k) = zs := by unfold rowOf; rw [← hxp, hgk.out]; rfl
          show upd st (xss.length - 1 - k) (oneMore maxL (afterOf st (rowOf xss (xss.length - 1 - k)))) i = _
          rw [e1, ← hxp]
        have HST0 := hide hst0
        have HBD := hide hbd
        have hr1 := hide (show wr.rowIs w1.heap.size 2 xss.length (fun i => .int .i64 (upd st xp (oneMore maxL (afterOf st (zs.take 0))) i)) from hr.congr (fun i _ => by
          unfold upd
          split
          · rename_i e; subst e; rw [HST0.out]; rfl
          · rfl))
        have hDD := hide hD
        clear hst hst0 hxp ei ha hbd hr hD
        go_wp2_with fail
        go_loopw [6] (fun i wr => ∃ j : Nat, i = .int .i64 j ∧ j ≤ zs.length ∧ wr.rowIs w1.heap.size 2 xss.length (fun i => .int .i64 (upd st xp (oneMore maxL (afterOf st (zs.take j))) i)) ∧ Below w1.heap.size w1 wr) (fun i _ => zs.length - (intOf i).toNat)
        case atStart => exact ⟨0, rfl, Nat.zero_le _, hr1.out, hDD.out⟩
        case round =>
          clear hr1 hDD
          obtain ⟨j, rfl, hj, hrj, hDj⟩ := hrel
          have hBj := hBB.trans (hDj.mono (by omega))
          have hbj := (hDj.cell (p := ⟨w.heap.size, 0, none⟩) hlt1).trans hb1
          have hcj := cell_keep hBj hcell0
          by_cases hjlt : j < zs.length
          · obtain ⟨bz, oz, z, rfl, hcz, hzj⟩ := (hzz.keep hBj).one hjlt
            have hzr := hrow.out z (mem_of_get hzj.out)
            obtain ⟨q, rfl⟩ := Int.eq_ofNat_of_zero_le (show 0 ≤ z by omega)
            have hqn : q < xss.length := by omega
            have hqx : q ≠ xp := by omega
            obtain ⟨s0, hs0⟩ : ∃ s0, s0 = oneMore maxL (afterOf st (zs.take j)) := ⟨_, rfl⟩
            obtain ⟨sq, hsq⟩ : ∃ sq, sq = st q := ⟨_, rfl⟩
            have hq0b := HBD.out q
            rw [← hsq] at hq0b
            have hcp : wr.cell? ⟨w1.heap.size, xp, none⟩ = some (.int .i64 s0) := by rw [hrj.cell hxn, hs0]; simp [upd]
            have hcq : wr.cell? ⟨w1.heap.size, q, none⟩ = some (.int .i64 sq) := by rw [hrj.cell hqn, hsq]; simp [upd, hqx]
            have hfp := hrj.frozen xp
            have hnew : Hid (∀ v, v = oneMore maxL (afterOf st (zs.take (j + 1))) → (wr.setCell ⟨w1.heap.size, xp, none⟩ (.int .i64 v)).rowIs w1.heap.size 2 xss.length (fun i => .int .i64 (upd st xp (oneMore maxL (afterOf st (zs.take (j + 1)))) i))) := by
              refine hide ?_
              rintro v rfl
              refine (hrj.set xp _).congr ?_
              intro i _
              unfold upd
              split <;> rfl
            have hDn : Hid (∀ v, Below w1.heap.size w1 (wr.setCell ⟨w1.heap.size, xp, none⟩ (.int .i64 v))) := hide (fun v => hDj.setCell (p := ⟨w1.heap.size, xp, none⟩) (Nat.le_refl _) (.int .i64 v))
            have hv : Hid ((if s0 < sq + 1 then sq + 1 else s0) = oneMore maxL (afterOf st (zs.take (j + 1)))) := by
              refine hide ?_
              rw [show (if s0 < sq + 1 then sq + 1 else s0) = max s0 (sq + 1) by split <;> omega, afterOf_snoc st hzj.out, most_snoc _ _ (by rw [← hsq]; omega), ← hs0, ← hsq]
            have hp0 : (0 : Int) ≤ (xp : Int) := by omega
            have hq0 : (0 : Int) ≤ (q : Int) := by omega
            have hpn : (xp : Int) < (xss.length : Int) := by omega
            have hqn' : (q : Int) < (xss.length : Int) := by omega
            have hjn : (j : Int) < (zs.length : Int) := by omega
            have hj0 : (0 : Int) ≤ (j : Int) := by omega
            have hwr : IntKind.i64.wrap (sq + 1) = sq + 1 := IntWalk.i64_in _ (by omega)
            clear hs0 hsq hrj hDj hBj hcell0 hzr hqx
            go_wp2_with fail
            go_still_tail 20, (by kernel_rfl)
            go_wp2_with fail
            all_goals
              go_roundw
              case rel => exact ⟨j + 1, by go_num, by omega, (hnew.out _ hv.out).drew, (hDn.out _).drew⟩
              case measure => simp [intOf]; omega
          · obtain rfl : j = zs.length := by omega
            have hfinr : Hid (wr.rowIs w1.heap.size 2 xss.length (fun i => .int .i64 (stL 0 (oneMore maxL) xss (downs xss.length (k + 1) hlt) i))) := by
              refine hide (hrj.congr ?_)
              intro i _
              rw [HEND.out i, List.take_length]
            clear hrj hcell0
            go_wp2_with fail
            go_roundw
            case rel => exact ⟨k + 1, hlt, by have := hX.out; congr 1; omega, hfinr.out, hDj⟩
            case measure => simp [intOf]
      · obtain rfl : k = xss.length := by omega
        have ei : ((xss.length : Int) - 1 - (xss.length : Int)) = -1 := by omega
        have hf := hide (HF.out w1.heap.size wr (by omega) hr (hBB.trans (hD.mono (by omega))))
        rw [ei]
        clear hr hD ei ha
        go_wp2_with fail
        go_ret2
        exact hf.out
end Go.Proofs.Ytlgogpphlnogoaa.M
