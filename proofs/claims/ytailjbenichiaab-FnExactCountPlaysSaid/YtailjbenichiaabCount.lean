/-
  CountPlays: both texts against one plain function.
-/
import Derived.Test.YtailjbenichiaabRuled
import Derived.StillTailTactics
namespace Go.Proofs.Ytailjbenichiaab
open Go.RowKit Go.Shelf

theorem stL_zero {β : Type} {z : β} {R : List β → β} {xss : List (List Int)} {n : Nat} : ∀ (k : Nat) (h : k ≤ n) (i : Nat), i < n - k → stL z R xss (downs n k h) i = z
  | 0, _, _, _ => rfl
  | k + 1, h, i, hi => by
    rw [downs, stL_snoc]
    unfold upd
    have : ¬ i = n - 1 - k := by omega
    show (if i = n - 1 - k then _ else _) = z
    rw [if_neg this]
    exact stL_zero k (by omega) i (by omega)

theorem afterOf_snoc {β : Type} (st : Nat → β) {zs : List Int} {j q : Nat} (h : zs[j]? = some (q : Int)) : afterOf st (zs.take (j + 1)) = afterOf st (zs.take j) ++ [st q] := by
  rw [List.take_add_one, h]
  simp [afterOf]

def cntF (vs : List Int) : Int := vs.foldl (fun s v => wrap64 (s + v)) 0
theorem cntF_snoc (vs : List Int) (v : Int) : cntF (vs ++ [v]) = wrap64 (cntF vs + v) := by simp [cntF]
def cntV (vs : List Int) : Int := if vs = [] then 1 else cntF vs

set_option maxRecDepth 100000 in
set_option maxHeartbeats 1000000 in
theorem countRule_any (a : Option Addr) (c : Nat) (vs : List Int) (w : World) (ha : IntsAt w a vs) (hl : vs.length ≤ 40) :
    Calls Try.prog 38 #[.slice a vs.length c] w fun e w' => e = .returned (.int .i64 (cntV vs)) ∧ Below w.heap.size w w' := by
  by_cases h0 : vs = []
  · subst h0
    go_enter Try.func38, Try.ntmps38
    go_wp2
    go_ret
    exact ⟨rfl, Below.refl _ _⟩
  · have hv : cntV vs = cntF vs := by unfold cntV; rw [if_neg h0]
    have hpos : 0 < vs.length := List.length_pos_iff.2 h0
    have hne : ((vs.length : Int) == 0) = false := by simp; exact h0
    rw [hv]
    clear hv
    go_enter Try.func38, Try.ntmps38
    go_wp2
    go_loopw [3, 11] (fun s i wr => ∃ k : Nat, k ≤ vs.length ∧ s = .int .i64 (cntF (vs.take k)) ∧ i = .int .i64 k ∧ Below w.heap.size w wr) (fun _ i _ => vs.length - (intOf i).toNat)
    case atStart => exact ⟨0, Nat.zero_le _, rfl, rfl, Below.refl _ _⟩
    case round =>
      obtain ⟨k, hk, rfl, rfl, hB⟩ := hrel
      by_cases hlt : k < vs.length
      · obtain ⟨b1, o1, z, rfl, h1, hz⟩ := (ha.keep hB).one hlt
        have hE : cntF (vs.take (k + 1)) = wrap64 (cntF (vs.take k) + z) := by rw [List.take_add_one, hz.out]; exact cntF_snoc _ _
        have HE := hide hE
        obtain ⟨s0, hs0⟩ : ∃ s0, s0 = cntF (vs.take k) := ⟨_, rfl⟩
        rw [← hs0] at HE ⊢
        clear ha hE hs0
        go_wp2
        go_roundw
        case rel => exact ⟨k + 1, by omega, by rw [HE.out], by go_num, hB⟩
        case measure => simp [intOf]; omega
      · obtain rfl : k = vs.length := by omega
        go_wp2
        go_ret
        exact ⟨ret_int (by rw [List.take_length]), hB⟩

set_option maxRecDepth 100000 in
theorem implCount_any (a : Option Addr) (c : Nat) (xss : List (List Int)) (w : World) (ha : RowsAt w a xss) (hs : Small xss) :
    Calls Try.prog 13 #[.agg #[.slice a xss.length c]] w (NewList (chkR cntV xss) w) := by
  have hB0 : Below w.heap.size w (w.alloc (.cells #[.slice a xss.length c] 29)) := (Below.refl _ _).alloc (Nat.le_refl _) _
  have hfin : ∀ (e : Ending) (w' : World), NewList (chkR cntV xss) (w.alloc (.cells #[.slice a xss.length c] 29)) e w' → ∃ v1 v2, e = .returned (.tuple #[v1, .int .i64 v2]) ∧ NewList (chkR cntV xss) w (.returned (.tuple #[v1, .int .i64 v2])) w' := by
    rintro e w' ⟨a', c', rfl, ho, hB'⟩
    exact ⟨_, _, rfl, _, _, rfl, ownsRow_base ho (by simp), Below.trans' hB0 hB'⟩
  have HF := hide hfin
  clear hfin
  go_enter Try.func13, Try.ntmps13
  go_wp2_with fail
  refine (checkedValues_any 38 #[] cntV (fun _ => True) a c xss _ (ha.keep hB0) hs (enters_of Try.func38 (by kernel_rfl) rfl) trivial (fun _ _ _ => trivial) (fun a c vs W _ hi hl _ => by rw [Array.append_empty]; exact countRule_any a c vs W hi hl)).mono ?_
  intro e w2 hN
  obtain ⟨v1, v2, rfl, hfin⟩ := HF.out e w2 hN
  have HFIN := hide hfin
  clear hN hfin
  go_wp2_with fail
  go_ret2
  exact HFIN.out

set_option maxRecDepth 100000 in
set_option maxHeartbeats 4000000 in
theorem specCount_any (a : Option Addr) (c : Nat) (xss : List (List Int)) (w : World) (ha : RowsAt w a xss) (hs : Small xss) :
    Calls Try.prog 11 #[.agg #[.slice a xss.length c]] w (NewList (chkR cntV xss) w) := by
  have hB0 : Below w.heap.size w (w.alloc (.cells #[.slice a xss.length c] 29)) := (Below.refl _ _).alloc (Nat.le_refl _) _
  have hbox : (w.alloc (.cells #[.slice a xss.length c] 29)).cell? ⟨w.heap.size, 0, none⟩ = some (.slice a xss.length c) := by simp [go_sem]
  unfold chkR
  cases hg : isGameB xss
  · have hfin : ∀ w' : World, Below w.heap.size w w' → NewList (if false = true then (valsL 0 cntV xss, 0) else ([], 1)) w (.returned (.tuple #[.slice none 0 0, .int .i64 1])) w' := fun w' h => ⟨none, 0, rfl, World.ownsRow_nil _ _ _ _, h⟩
    have HF := hide hfin
    clear hfin
    go_enter Try.func11, Try.ntmps11
    go_wp2_with fail
    refine (l01Is_any _ _ xss _ (ha.keep hB0) hs).mono ?_
    rw [hg]
    rintro e w1 ⟨rfl, hB1⟩
    go_wp2_with fail
    go_ret2
    exact HF.out _ (Below.trans' hB0 hB1)
  · have HG := hide hg
    have hlen := game_len hg
    clear hg
    have hfin : ∀ (b : Nat) (w' : World), w.heap.size ≤ b → w'.rowIs b 2 xss.length (fun i => .int .i64 (stL 0 cntV xss (downs xss.length xss.length (Nat.le_refl _)) i)) → Below w.heap.size w w' →
        NewList (if true = true then (valsL 0 cntV xss, 0) else ([], 1)) w (.returned (.tuple #[.slice (some ⟨b, 0, none⟩) xss.length xss.length, .int .i64 0])) w' := by
      intro b w' hb hr hB
      have hl : (valsL 0 cntV xss).length = xss.length := by simp [valsL]
      have := rowIs_owns (base := w.heap.size) (vs := (valsL 0 cntV xss).map intV) hr hb (by unfold maxLen; omega) (by simp [hl]) (fun i hi => by simp [valsL, hi, intV])
      refine ⟨some ⟨b, 0, none⟩, xss.length, ?_, ?_, hB⟩
      · show _ = Ending.returned (.tuple #[.slice (some ⟨b, 0, none⟩) (valsL 0 cntV xss).length xss.length, .int .i64 0])
        rw [hl]
      · show w'.ownsRow w.heap.size 2 1 (.slice (some ⟨b, 0, none⟩) (valsL 0 cntV xss).length xss.length) (valsL 0 cntV xss).length ((valsL 0 cntV xss).map intV)
        rw [hl]
        exact this
    have HF := hide hfin
    clear hfin
    go_enter Try.func11, Try.ntmps11
    go_wp2_with fail
    refine (l01Is_any _ _ xss _ (ha.keep hB0) hs).mono ?_
    rw [HG.out]
    rintro e w0 ⟨rfl, hBi⟩
    have hbi := cell_keep hBi hbox
    have hB0i := Below.trans' hB0 hBi
    clear hbox hBi hB0
    go_wp2_with fail
    refine (l01N_any _ _ _ _).mono ?_
    rintro e w1 ⟨rfl, hBn⟩
    have hb1 := cell_keep hBn hbi
    have hBB := Below.trans' hB0i hBn
    have hlt1 : w.heap.size < w1.heap.size := World.block_lt_of_cell? w1 _ hb1
    clear hbi hBn hB0i
    go_wp2_with (at_make; refine wpList_make_fresh _ rfl _ _ 26 rfl 2 (.int .i64 0) 8 Try.underlying26 Try.info2 rfl .i64 .i64 xss.length rfl rfl (by omega) (by omega) ?_; intro w2 hr2 hB2; have hb2 := cell_keep hB2 hb1)
    refine (l01N_any _ _ _ _).mono ?_
    rintro e w3 ⟨rfl, hB3⟩
    have hr3 := hide (hr2.of_block (hB3.block _ hr2.lt))
    have hD3 := hide (hB2.trans (hB3.mono hB2.size))
    clear hb2 hr2 hB2 hB3
    go_wp2_with fail
    go_loopw [5] (fun p wr => ∃ (k : Nat) (hk : k ≤ xss.length), p = .int .i64 ((xss.length : Int) - 1 - k) ∧ wr.rowIs w1.heap.size 2 xss.length (fun i => .int .i64 (stL 0 cntV xss (downs xss.length k hk) i)) ∧ Below w1.heap.size w1 wr) (fun p _ => (intOf p + 1).toNat)
    case atStart => exact ⟨0, Nat.zero_le _, by simp, hr3.out, hD3.out⟩
    case round =>
      clear hr3 hD3
      obtain ⟨k, hk, rfl, hr, hD⟩ := hrel
      by_cases hlt : k < xss.length
      · obtain ⟨xp, hxp⟩ : ∃ xp, xp = xss.length - 1 - k := ⟨_, rfl⟩
        have hxn : xp < xss.length := by omega
        have ei : ((xss.length : Int) - 1 - (k : Int)) = (xp : Int) := by omega
        rw [ei]
        obtain ⟨st, hst⟩ : ∃ st, st = stL 0 cntV xss (downs xss.length k hk) := ⟨_, rfl⟩
        have hst0 : st xp = 0 := by rw [hst]; exact stL_zero k hk xp (by omega)
        rw [← hst] at hr
        obtain ⟨b, off, ai, ci, zs, rfl, hcell0, hzz, hgk⟩ := ha.one hxn
        have hzl := game_row_len HG.out hgk.out
        have hrow := hide (game_row HG.out hgk.out)
        have hBk := hBB.trans (hD.mono (by omega))
        have hbk := (hD.cell (p := ⟨w.heap.size, 0, none⟩) hlt1).trans hb1
        have hck := cell_keep hBk hcell0
        have hcx := hr.cell hxn
        have hfx := hr.frozen xp
        have HX := hide hxp
        have HEND : Hid (∀ i, stL 0 cntV xss (downs xss.length (k + 1) hlt) i = upd st xp (cntV (afterOf st zs)) i) := by
          refine hide ?_
          intro i
          rw [downs, stL_snoc, ← hst]
          have e1 : rowOf xss (xss.length - 1 - k) = zs := by unfold rowOf; rw [← hxp, hgk.out]; rfl
          show upd st (xss.length - 1 - k) (cntV (afterOf st (rowOf xss (xss.length - 1 - k)))) i = _
          rw [e1, ← hxp]
        have HST0 := hide hst0
        clear hst hst0 hxp ei ha hBk
        by_cases hz0 : zs.length = 0
        · have hze : zs = [] := List.eq_nil_of_length_eq_zero hz0
          have hr1 := hide (hr.set xp (.int .i64 1))
          have hD1 := hide (hD.setCell (p := ⟨w1.heap.size, xp, none⟩) (Nat.le_refl _) (.int .i64 1))
          have hb4 := ((hD1.out).cell (p := ⟨w.heap.size, 0, none⟩) hlt1).trans hb1
          have hc4 := cell_keep (hBB.trans ((hD1.out).mono (by omega))) hcell0
          have hfinr : Hid ((wr.setCell ⟨w1.heap.size, xp, none⟩ (.int .i64 1)).rowIs w1.heap.size 2 xss.length (fun i => .int .i64 (stL 0 cntV xss (downs xss.length (k + 1) hlt) i))) := by
            refine hide ((hr1.out).congr ?_)
            intro i _
            rw [HEND.out i, hze]
            simp only [upd, afterOf, List.map_nil, cntV, if_true]
            split <;> rfl
          have hze' : zs.length = 0 := hz0
          subst hze
          clear hr hD hz0 hze' hcell0
          go_wp2_with fail
          refine wp_loop_rounds 1 ?_
          rw [rounds_succ]
          go_wp2_with fail
          go_roundw
          case rel => exact ⟨k + 1, hlt, by have := HX.out; congr 1; omega, hfinr.out, hD1.out⟩
          case measure => simp [intOf]
        · have hne : ((zs.length : Int) == 0) = false := by simp; intro h; exact hz0 (by rw [h]; rfl)
          have hr1 := hide (show wr.rowIs w1.heap.size 2 xss.length (fun i => .int .i64 (upd st xp (cntF (afterOf st (zs.take 0))) i)) from hr.congr (fun i _ => by
            unfold upd
            split
            · rename_i e; subst e; rw [HST0.out]; rfl
            · rfl))
          have hDD := hide hD
          clear hr hD
          go_wp2_with fail
          go_loopw [6] (fun i wr => ∃ j : Nat, i = .int .i64 j ∧ j ≤ zs.length ∧ wr.rowIs w1.heap.size 2 xss.length (fun i => .int .i64 (upd st xp (cntF (afterOf st (zs.take j))) i)) ∧ Below w1.heap.size w1 wr) (fun i _ => zs.length - (intOf i).toNat)
          case atStart => exact ⟨0, rfl, Nat.zero_le _, hr1.out, hDD.out⟩
          case round =>
            clear hr1 hDD hck hbk hcx hfx
            obtain ⟨j, rfl, hj, hrj, hDj⟩ := hrel
            have hBj := hBB.trans (hDj.mono (by omega))
            have hbj := (hDj.cell (p := ⟨w.heap.size, 0, none⟩) hlt1).trans hb1
            have hcj := cell_keep hBj hcell0
            by_cases hjlt : j < zs.length
            · obtain ⟨bz, oz, z, rfl, hcz, hzj⟩ := (hzz.keep hBj).one hjlt
              have hzr := hrow.out z (mem_of_get hzj.out)
              obtain ⟨q, rfl⟩ := Int.eq_ofNat_of_zero_le (show 0 ≤ z by omega)
              have hqn : q < xss.length := by omega
              have hqx : q ≠ xp := by omega
              obtain ⟨s0, hs0⟩ : ∃ s0, s0 = cntF (afterOf st (zs.take j)) := ⟨_, rfl⟩
              obtain ⟨sq, hsq⟩ : ∃ sq, sq = st q := ⟨_, rfl⟩
              have hcp : wr.cell? ⟨w1.heap.size, xp, none⟩ = some (.int .i64 s0) := by rw [hrj.cell hxn, hs0]; simp [upd]
              have hcq : wr.cell? ⟨w1.heap.size, q, none⟩ = some (.int .i64 sq) := by rw [hrj.cell hqn, hsq]; simp [upd, hqx]
              have hfp := hrj.frozen xp
              have hr2 : Hid ((wr.setCell ⟨w1.heap.size, xp, none⟩ (.int .i64 (wrap64 (s0 + sq)))).rowIs w1.heap.size 2 xss.length (fun i => .int .i64 (upd st xp (cntF (afterOf st (zs.take (j + 1)))) i))) := by
                refine hide ((hrj.set xp (.int .i64 (wrap64 (s0 + sq)))).congr ?_)
                intro i _
                rw [afterOf_snoc st hzj.out, cntF_snoc, ← hs0, ← hsq]
                unfold upd
                split <;> rfl
              have hD2 := hide (hDj.setCell (p := ⟨w1.heap.size, xp, none⟩) (Nat.le_refl _) (.int .i64 (wrap64 (s0 + sq))))
              have HWR := hide (IntKind.wrap_i64 (s0 + sq))
              have hp0 : (0 : Int) ≤ (xp : Int) := by omega
              have hq0 : (0 : Int) ≤ (q : Int) := by omega
              have hpn : (xp : Int) < (xss.length : Int) := by omega
              have hqn' : (q : Int) < (xss.length : Int) := by omega
              have hjn : (j : Int) < (zs.length : Int) := by omega
              have hj0 : (0 : Int) ≤ (j : Int) := by omega
              clear hs0 hsq hrj hDj hBj hcell0 hzr hqx
              go_wp2_with fail
              go_still_tail 19, (by kernel_rfl)
              go_wp2_with fail
              go_roundw
              case rel => exact ⟨j + 1, by go_num, by omega, by first | exact hr2.out.drew | (rw [HWR.out]; exact hr2.out.drew) | (simp only [HWR.out]; exact hr2.out.drew), by first | exact hD2.out.drew | (simp only [HWR.out]; exact hD2.out.drew)⟩
              case measure => simp [intOf]; omega
            · obtain rfl : j = zs.length := by omega
              have hfinr : Hid (wr.rowIs w1.heap.size 2 xss.length (fun i => .int .i64 (stL 0 cntV xss (downs xss.length (k + 1) hlt) i))) := by
                refine hide (hrj.congr ?_)
                intro i _
                rw [HEND.out i, List.take_length]
                have : cntV (afterOf st zs) = cntF (afterOf st zs) := by
                  unfold cntV
                  rw [if_neg]
                  intro h
                  simp [afterOf] at h
                  exact hz0 (by rw [h]; rfl)
                rw [this]
              clear hrj hcell0
              go_wp2_with fail
              go_roundw
              case rel => exact ⟨k + 1, hlt, by have := HX.out; congr 1; omega, hfinr.out, hDj⟩
              case measure => simp [intOf]
      · obtain rfl : k = xss.length := by omega
        have ei : ((xss.length : Int) - 1 - (xss.length : Int)) = -1 := by omega
        have hf := hide (HF.out w1.heap.size wr (by omega) hr (hBB.trans (hD.mono (by omega))))
        rw [ei]
        clear hr hD ei ha
        go_wp2_with fail
        go_ret2
        exact hf.out
end Go.Proofs.Ytailjbenichiaab
