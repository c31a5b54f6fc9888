/-
  LengthsOf: the model's text against the plain function.
-/
import Derived.Test.YtlgogpphlnogoaaLenI
import Derived.Test.YtlgogpphlnogoaaWonG
namespace Go.Proofs.Ytlgogpphlnogoaa.L
open Go.RowKit Go.Shelf

theorem bestF_bd {wf : Nat → Bool} {lst : Nat → Int} {wp : Bool} (h : ∀ i, 0 ≤ lst i ∧ lst i ≤ 40) (zs : List Int) : -1 ≤ bestF wf lst wp zs ∧ bestF wf lst wp zs ≤ 40 := by
  refine foldl_inv (bestStep wf lst wp) (fun b => -1 ≤ b ∧ b ≤ 40) zs (-1) ⟨by omega, by omega⟩ ?_
  intro b q _ hb
  have := h q.toNat
  unfold bestStep
  split
  · omega
  · split <;> omega

set_option maxRecDepth 100000 in
set_option maxHeartbeats 4000000 in
theorem spec_any (a : Option Addr) (c : Nat) (xss : List (List Int)) (w : World) (ha : RowsAt w a xss) (hs : Small xss) :
    Calls Try.prog 21 #[.agg #[.slice a xss.length c]] w (NewList (chkR lenV xss) w) := by
  have hB0 : Below w.heap.size w (w.alloc (.cells #[.slice a xss.length c] 29)) := (Below.refl _ _).alloc (Nat.le_refl _) _
  have hbox : (w.alloc (.cells #[.slice a xss.length c] 29)).cell? ⟨w.heap.size, 0, none⟩ = some (.slice a xss.length c) := by simp [go_sem]
  unfold chkR
  cases hg : isGameB xss
  · have hfin : ∀ w' : World, Below w.heap.size w w' → NewList (if false = true then (valsL 0 lenV xss, 0) else ([], 1)) w (.returned (.tuple #[.slice none 0 0, .int .i64 1])) w' := fun w' h => ⟨none, 0, rfl, World.ownsRow_nil _ _ _ _, h⟩
    have HF := hide hfin
    clear hfin
    go_enter Try.func21, Try.ntmps21
    go_wp2_with fail
    refine (l01Is_any _ _ xss _ (ha.keep hB0) hs).mono ?_
    rw [hg]
    rintro e w1 ⟨rfl, hB1⟩
    go_wp2_with fail
    go_ret2
    exact HF.out _ (Below.trans' hB0 hB1)
  · have HG := hide hg
    have hlen := game_len hg
    have hgg := hg
    clear hg
    have hfin : ∀ (b : Nat) (w' : World), w.heap.size ≤ b → w'.rowIs b 2 xss.length (fun i => .int .i64 (stL 0 lenV xss (downs xss.length xss.length (Nat.le_refl _)) i)) → Below w.heap.size w w' →
        NewList (if true = true then (valsL 0 lenV xss, 0) else ([], 1)) w (.returned (.tuple #[.slice (some ⟨b, 0, none⟩) xss.length xss.length, .int .i64 0])) w' := by
      intro b w' hb hr hB
      have hl : (valsL 0 lenV xss).length = xss.length := by simp [valsL]
      have := rowIs_owns (base := w.heap.size) (vs := (valsL 0 lenV xss).map intV) hr hb (by unfold maxLen; omega) (by simp [hl]) (fun i hi => by simp [valsL, hi, intV])
      refine ⟨some ⟨b, 0, none⟩, xss.length, ?_, ?_, hB⟩
      · show _ = Ending.returned (.tuple #[.slice (some ⟨b, 0, none⟩) (valsL 0 lenV xss).length xss.length, .int .i64 0])
        rw [hl]
      · show w'.ownsRow w.heap.size 2 1 (.slice (some ⟨b, 0, none⟩) (valsL 0 lenV xss).length xss.length) (valsL 0 lenV xss).length ((valsL 0 lenV xss).map intV)
        rw [hl]
        exact this
    have HF := hide hfin
    clear hfin hgg
    have hmk := run_make_row' (P := Try.prog) 26 2 (.int .i64 0) 8 Try.underlying26 Try.info2 rfl .i64 .i64 xss.length (by omega) (by omega)
    go_enter Try.func21, Try.ntmps21
    go_wp2_with fail
    refine (l01Is_any _ _ xss _ (ha.keep hB0) hs).mono ?_
    rw [HG.out]
    rintro e w0 ⟨rfl, hBi⟩
    have hbi := cell_keep hBi hbox
    have hB0i := Below.trans' hB0 hBi
    clear hbox hBi hB0
    go_wp2_with fail
    have hd0 : Below w0.heap.size w0 w0.drew := Below.drew (Below.refl _ _)
    have hbd := cell_keep hd0 hbi
    have had := ha.keep (Below.trans' hB0i hd0)
    go_region_held3 (fun W => W.cell? ⟨w.heap.size, 0, none⟩ = some (.slice a xss.length c)) (first | (exact hbd) | (exact cell_keep hB1 hbd) | (exact cell_keep hB2 (cell_keep hB1 hbd)) | go_keep) (first | (go_at_call 59; refine (B.l01Won_f _ _ xss _ had hs HG.out).mono ?_; rintro e w1 ⟨gw, cw, rfl, how, hB1⟩) | (go_at_call 51; refine (l01N_any _ _ _ _).mono ?_; rintro e w2 ⟨rfl, hB2⟩))
    have hl : (valsL false (B.wonV false) xss).length = xss.length := by simp [valsL]
    have how2 := ownsRow_keep how hB2
    have hwc : ∀ i, i < xss.length → w2.cell? ⟨gw, i, none⟩ = some (.bool (stL false (B.wonV false) xss (downs xss.length xss.length (Nat.le_refl _)) i)) := by
      intro i hi
      rw [how2.cellAt i (by rw [hl]; omega)]
      simp [valsL, hi, boolV]
    have hgw : gw < w2.heap.size := (how2.lt gw rfl).2
    obtain ⟨wf, hwf⟩ : ∃ wf : Nat → Bool, wf = fun i => stL false (B.wonV false) xss (downs xss.length xss.length (Nat.le_refl _)) i := ⟨_, rfl⟩
    have hwc' : ∀ i, i < xss.length → w2.cell? ⟨gw, i, none⟩ = some (.bool (wf i)) := by rw [hwf]; exact hwc
    have HWF := hide hwf
    have HWC := hide hwc'
    have hr3 := World.rowIs_made w2 (.int .i64 0) xss.length 2
    have hB23 := (Below.refl w2.heap.size w2).alloc (Nat.le_refl _) (.cells (madeCells #[Value.int IntKind.i64 0] xss.length) 2)
    have hBB := Below.trans' (Below.trans' (Below.trans' hB0i hd0) hB1) hB2
    have hb2 := cell_keep hB2 (cell_keep hB1 hbd)
    have hb3 := cell_keep hB23 hb2
    have hlt2 : w.heap.size < w2.heap.size := World.block_lt_of_cell? w2 _ hb2
    rw [hl]
    obtain ⟨W3, hW3⟩ : ∃ W3, W3 = w2.alloc (.cells (madeCells #[Value.int IntKind.i64 0] xss.length) 2) := ⟨_, rfl⟩
    have hr3' : W3.rowIs w2.heap.size 2 xss.length (fun _ => .int .i64 0) := by rw [hW3]; exact hr3
    have hB3' : Below w2.heap.size w2 W3 := by rw [hW3]; exact hB23
    have hb3' : W3.cell? ⟨w.heap.size, 0, none⟩ = some (.slice a xss.length c) := by rw [hW3]; exact hb3
    rw [← hW3]
    clear hr3 hB23 hb3 hW3 how how2 hwc hwc' hwf hl hB1 hB2 hbd hbi had hd0 hB0i hmk
    go_wp2_with fail
    refine (l01N_any _ _ _ _).mono ?_
    rintro e w4 ⟨rfl, hB4⟩
    have hr4 := hide (hr3'.of_block (hB4.block _ hr3'.lt))
    have hD4 := hide (hB3'.trans (hB4.mono hB3'.size))
    clear hr3' hB3' hb3' hB4
    go_wp2_with fail
    go_loopw [6] (fun p wr => ∃ (k : Nat) (hk : k ≤ xss.length), p = .int .i64 ((xss.length : Int) - 1 - k) ∧ wr.rowIs w2.heap.size 2 xss.length (fun i => .int .i64 (stL 0 lenV xss (downs xss.length k hk) i)) ∧ Below w2.heap.size w2 wr) (fun p _ => (intOf p + 1).toNat)
    case atStart => exact ⟨0, Nat.zero_le _, by simp, hr4.out, hD4.out⟩
    case round =>
      clear hr4 hD4
      obtain ⟨k, hk, rfl, hr, hD⟩ := hrel
      by_cases hlt : k < xss.length
      · obtain ⟨xp, hxp⟩ : ∃ xp, xp = xss.length - 1 - k := ⟨_, rfl⟩
        have hxn : xp < xss.length := by omega
        have ei : ((xss.length : Int) - 1 - (k : Int)) = (xp : Int) := by omega
        rw [ei]
        obtain ⟨st, hst⟩ : ∃ st, st = stL 0 lenV xss (downs xss.length k hk) := ⟨_, rfl⟩
        have hbd : ∀ i, 0 ≤ st i ∧ st i ≤ 40 := by
          intro i
          have := (stL_same (R1 := lenW) (R2 := lenV) (xss := xss) len_same (by omega) k hk).2 i
          rw [hst]
          omega
        rw [← hst] at hr
        obtain ⟨b, off, ai, ci, zs, rfl, hcell0, hzz, hgk⟩ := ha.one hxn
        have hzl := game_row_len HG.out hgk.out
        have hrow := hide (game_row HG.out hgk.out)
        have e1 : rowOf xss (xss.length - 1 - k) = zs := by unfold rowOf; rw [← hxp, hgk.out]; rfl
        have hbl : bestF wf st (wf xp) zs + 1 = lenV (afterOf st zs) := by
          have := best_len (xss := xss) (n := xss.length) (k := k) (by omega) hlt (wf := wf) (fun i => by rw [HWF.out]) e1 (fun q hq => by rw [← hxp]; exact (hrow.out q hq).1)
          rw [← hst, ← hxp] at this
          exact this
        have hBL := hide hbl
        have hX := hide hxp
        have HEND : Hid (∀ i, stL 0 lenV xss (downs xss.length (k + 1) hlt) i = upd st xp (lenV (afterOf st zs)) i) := by
          refine hide ?_
          intro i
          rw [downs, stL_snoc, ← hst]
          show upd st (xss.length - 1 - k) (lenV (afterOf st (rowOf xss (xss.length - 1 - k)))) i = _
          rw [e1, ← hxp]
        have HBD := hide hbd
        have hBk := hBB.trans (hD.mono (by omega))
        have hbk := (hD.cell (p := ⟨w.heap.size, 0, none⟩) hlt2).trans hb2
        have hck := cell_keep hBk hcell0
        have hcw := (hD.cell (p := ⟨gw, xp, none⟩) hgw).trans (HWC.out xp hxn)
        have hcx := hr.cell hxn
        have hfx := hr.frozen xp
        obtain ⟨wp, hwp⟩ : ∃ wp, wp = wf xp := ⟨_, rfl⟩
        rw [← hwp] at hcw hBL
        have HWP := hide hwp
        have hzk := hzz.keep hBk
        clear hst hxp ei ha hbd hbl e1 hwp hcell0 hzz hBk
        go_wp2_with fail
        go_loop [7, 8] (fun v i => ∃ (j : Nat) (x : Int), v = .int .i64 x ∧ i = .int .i64 j ∧ j ≤ zs.length ∧ Hid (x = bestF wf st wp (zs.take j)) ∧ -1 ≤ x ∧ x ≤ 40) (fun _ i => zs.length - (intOf i).toNat)
        case atStart => exact ⟨0, -1, rfl, rfl, Nat.zero_le _, rfl, by omega, by omega⟩
        case round =>
          obtain ⟨j, x, rfl, rfl, hj, HXX, hx0, hx1⟩ := hrel
          by_cases hjlt : j < zs.length
          · obtain ⟨bz, oz, z, rfl, hcz, hzj⟩ := hzk.one hjlt
            have hzr := hrow.out z (mem_of_get hzj.out)
            obtain ⟨q, rfl⟩ := Int.eq_ofNat_of_zero_le (show 0 ≤ z by omega)
            have hqn : q < xss.length := by omega
            have hcq := hr.cell hqn
            have hcwq := (hD.cell (p := ⟨gw, q, none⟩) hgw).trans (HWC.out q hqn)
            obtain ⟨oq, hoq⟩ : ∃ oq, oq = st q := ⟨_, rfl⟩
            obtain ⟨wq, hwq⟩ : ∃ wq, wq = wf q := ⟨_, rfl⟩
            have hob := HBD.out q
            rw [← hoq] at hcq hob
            rw [← hwq] at hcwq
            have hS : Hid (bestF wf st wp (zs.take (j + 1)) = if wp = true ∧ wq = false ∧ (x < 0 ∨ oq < x) then oq else if wp = false ∧ x < oq then oq else x) := by
              refine hide ?_
              rw [bestF_snoc wf st wp hzj.out, ← HXX.out, hoq, hwq]
              rfl
            clear hoq hwq hzr HXX
            cases wp
            · by_cases hlt2 : x < oq
              · have hN : Hid (oq = bestF wf st false (zs.take (j + 1))) := by refine hide ?_; rw [hS.out, if_neg (by simp), if_pos ⟨rfl, hlt2⟩]
                clear hS
                go_wp2_with fail
                go_round
                case rel => exact ⟨j + 1, _, rfl, by go_num, by omega, hN, by omega, by omega⟩
                case measure => simp [intOf]; omega
              · have hN : Hid (x = bestF wf st false (zs.take (j + 1))) := by refine hide ?_; rw [hS.out, if_neg (by simp), if_neg (by rintro ⟨_, h⟩; exact hlt2 h)]
                clear hS
                go_wp2_with fail
                go_round
                case rel => exact ⟨j + 1, _, rfl, by go_num, by omega, hN, by omega, by omega⟩
                case measure => simp [intOf]; omega
            · cases wq
              · by_cases hxneg : x < 0
                · have hN : Hid (oq = bestF wf st true (zs.take (j + 1))) := by refine hide ?_; rw [hS.out, if_pos ⟨rfl, rfl, .inl hxneg⟩]
                  clear hS
                  go_wp2_with fail
                  go_round
                  case rel => exact ⟨j + 1, _, rfl, by go_num, by omega, hN, by omega, by omega⟩
                  case measure => simp [intOf]; omega
                · by_cases hlt2 : oq < x
                  · have hN : Hid (oq = bestF wf st true (zs.take (j + 1))) := by refine hide ?_; rw [hS.out, if_pos ⟨rfl, rfl, .inr hlt2⟩]
                    clear hS
                    go_wp2_with fail
                    go_round
                    case rel => exact ⟨j + 1, _, rfl, by go_num, by omega, hN, by omega, by omega⟩
                    case measure => simp [intOf]; omega
                  · have hN : Hid (x = bestF wf st true (zs.take (j + 1))) := by refine hide ?_; rw [hS.out, if_neg (by rintro ⟨_, _, h | h⟩ <;> omega), if_neg (by simp)]
                    clear hS
                    go_wp2_with fail
                    go_round
                    case rel => exact ⟨j + 1, _, rfl, by go_num, by omega, hN, by omega, by omega⟩
                    case measure => simp [intOf]; omega
              · have hN : Hid (x = bestF wf st true (zs.take (j + 1))) := by refine hide ?_; rw [hS.out, if_neg (by simp), if_neg (by simp)]
                clear hS
                go_wp2_with fail
                go_round
                case rel => exact ⟨j + 1, _, rfl, by go_num, by omega, hN, by omega, by omega⟩
                case measure => simp [intOf]; omega
          · obtain rfl : j = zs.length := by omega
            have hv : Hid (x + 1 = lenV (afterOf st zs)) := by
              refine hide ?_
              rw [← hBL.out, HXX.out, List.take_length]
            have hrN : Hid ((wr.setCell ⟨w2.heap.size, xp, none⟩ (.int .i64 (x + 1))).rowIs w2.heap.size 2 xss.length (fun i => .int .i64 (stL 0 lenV xss (downs xss.length (k + 1) hlt) i))) := by
              refine hide ((hr.set xp _).congr ?_)
              intro i _
              rw [HEND.out i, hv.out]
              unfold upd
              split <;> rfl
            have hDN := hide (hD.setCell (p := ⟨w2.heap.size, xp, none⟩) (Nat.le_refl _) (.int .i64 (x + 1)))
            clear hr hD hzk
            go_wp2_with fail
            go_roundw
            case rel => exact ⟨k + 1, hlt, by have := hX.out; congr 1; omega, hrN.out, hDN.out⟩
            case measure => simp [intOf]
      · obtain rfl : k = xss.length := by omega
        have ei : ((xss.length : Int) - 1 - (xss.length : Int)) = -1 := by omega
        have hf := hide (HF.out w2.heap.size wr (by omega) hr (hBB.trans (hD.mono (by omega))))
        rw [ei]
        clear hr hD ei ha
        go_wp2_with fail
        go_ret2
        exact hf.out
end Go.Proofs.Ytlgogpphlnogoaa.L
