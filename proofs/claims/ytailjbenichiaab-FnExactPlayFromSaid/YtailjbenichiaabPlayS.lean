/-
  PlayFrom: the model's text.
-/
import Derived.Test.YtailjbenichiaabPlayP
namespace Go.Proofs.Ytailjbenichiaab.B
open Go.RowKit Go.Shelf

set_option maxRecDepth 100000 in
set_option maxHeartbeats 2000000 in
theorem specPlay_any (a : Option Addr) (c : Nat) (xss : List (List Int)) (p : Int) (w : World) (ha : RowsAt w a xss) (hs : Small xss) (_hp : (Lit.int .i64 p).wf = true) :
    Calls Try.prog 23 #[.agg #[.slice a xss.length c], .int .i64 p] w (NewList (playR xss p) w) := by
  obtain ⟨i0, hi, hz0, hz1, hz2⟩ := info_parts Try.info2
  have hB0 : Below w.heap.size w (w.alloc (.cells #[.slice a xss.length c] 29)) := (Below.refl _ _).alloc (Nat.le_refl _) _
  have hbox : (w.alloc (.cells #[.slice a xss.length c] 29)).cell? ⟨w.heap.size, 0, none⟩ = some (.slice a xss.length c) := by simp [go_sem]
  by_cases hc : placeCode xss p = 0
  · obtain ⟨hg, h0, h1⟩ := placeCode_zero hc
    obtain ⟨pn, rfl⟩ := Int.eq_ofNat_of_zero_le h0
    have hpn : pn < xss.length := by omega
    obtain ⟨ws, hws⟩ : ∃ ws, ws = valsL false (wonV false) xss := ⟨_, rfl⟩
    obtain ⟨st, hst⟩ : ∃ st : Nat → Bool, st = fun i => ws[i]?.getD false := ⟨_, rfl⟩
    obtain ⟨R, hRR⟩ : ∃ R, R = playL st xss xss.length pn := ⟨_, rfl⟩
    have hR : playR xss (pn : Int) = (R, 0) := by
      unfold playR
      rw [if_pos hc, Int.toNat_natCast, hRR, hst, hws]
    rw [hR]
    have hwl : ws.length = xss.length := by rw [hws, valsL_length]
    have HG := hide hg
    have HC := hide hc
    have HWL := hide hwl
    have HST := hide hst
    have HWS := hide hws
    have hlen := game_len hg
    have hRl : R.length ≤ 40 := by rw [hRR]; exact Nat.le_trans (playL_len _ _ _ _) hlen.2
    have HP := hide (Played.start st hpn)
    rw [← hRR] at HP
    have hfin : ∀ (v : Value) (base : Nat) (w' : World), w.heap.size ≤ base → w'.ownsRow base 2 1 v R.length (R.map intV) → Below w.heap.size w w' → NewList (R, 0) w (.returned (.tuple #[v, .int .i64 0])) w' := by
      intro v base w' hbase h1 h2
      obtain ⟨a', c', rfl⟩ := own_form h1
      exact ⟨a', c', rfl, ownsRow_base h1 hbase, h2⟩
    have HF := hide hfin
    clear hR hg hc hfin hws hst hRR hwl
    go_enter Try.func23, Try.ntmps23
    go_wp2_with fail
    refine (l01Place_any _ _ xss _ _ (ha.keep hB0) hs).mono ?_
    rw [HC.out]
    rintro e w1 ⟨rfl, hB1⟩
    have hb1 := cell_keep hB1 hbox
    have hBB := Below.trans' hB0 hB1
    clear hbox hB1
    go_wp2_with fail
    refine (l01Won_f _ c xss _ (ha.keep hBB) hs HG.out).mono ?_
    rw [← HWS.out]
    rintro e w2 ⟨a2, c2, rfl, ho2, hB2⟩
    have hb2 := cell_keep hB2 hb1
    have hBB2 := Below.trans' hBB hB2
    have hw2 := boolsAt_of_ownsRow ho2
    clear hb1 hBB hB2 ho2 hB0
    have hlt2 : w.heap.size < w2.heap.size := World.block_lt_of_cell? w2 _ hb2
    go_wp2_with fail
    have ho1 := hide (show (w2.alloc (.cells #[] 2)).ownsRow w2.heap.size 2 1 (.slice (some ⟨w2.heap.size, 0, none⟩) 0 0) ([] : List Int).length (([] : List Int).map intV) by
      have := World.ownsRow_made (e := 2) (size := 1) (base := w2.heap.size) w2 #[] 0 (Nat.le_refl _) (Nat.zero_le _) rfl
      simpa using this)
    have hD1 := hide ((Below.refl w2.heap.size w2).alloc (Nat.le_refl _) (.cells #[] 2))
    go_loopw [1, 8] (fun i v wr => ∃ (k : Nat) (out : List Int) (v0 : Value), v0 = v ∧ i = .int .i64 k ∧ Hid (Played st xss R out k) ∧ wr.ownsRow w2.heap.size 2 1 v out.length (out.map intV) ∧ Below w2.heap.size w2 wr) (fun i _ _ => xss.length - (intOf i).toNat)
    case atStart => exact ⟨pn, [], _, rfl, rfl, HP, ho1.out, hD1.out⟩
    case round =>
      clear ho1 hD1
      obtain ⟨k, out, v, rfl, rfl, hpl, hown, hD⟩ := hrel
      have hkn : k < xss.length := hpl.out.1
      obtain ⟨bp, op, ai, ci, zs, rfl, hcell0, hzz, hgk⟩ := ha.one hkn
      have hB := hBB2.trans (hD.mono (by omega))
      have hbk := (hD.cell (p := ⟨w.heap.size, 0, none⟩) hlt2).trans hb2
      have hck := cell_keep hB hcell0
      have hro : rowOf xss k = zs := by unfold rowOf; rw [hgk.out]; rfl
      have hzl := game_row_len HG.out hgk.out
      have hrow := hide (fun (z : Int) (hz : z ∈ zs) => show 0 ≤ z ∧ z < (ws.length : Int) by
        rw [HWL.out]
        have := game_row HG.out hgk.out z hz
        omega)
      have hwk := hw2.keep hD
      have hzw := hzz.keep hB
      by_cases hze : zs = []
      · subst hze
        have hRo := hpl.out.done hro
        have hf := hide (HF.out v w2.heap.size wr (by omega) (by rw [← hRo]; exact hown) hB)
        simp only [List.length_nil] at hck
        clear hown hRo ha hb2 hw2 hwk hzw hzz hcell0
        go_wp2_with fail
        go_ret2
        exact hf.out
      · have hzp : 0 < zs.length := List.length_pos_iff.2 hze
        obtain ⟨b0, o0, z, rfl, hz0c, hzg⟩ := hzw.one hzp
        have hol : out.length ≤ 40 := Nat.le_trans hpl.out.le hRl
        have HRO := hide hro
        have HZE := hide hze
        have haw := ha.keep hB
        clear hro hze ha hb2 hw2 hcell0 hzz
        go_wp2_with fail
        refine (l01Best_any _ _ c c2 k ws.length xss zs ws _ haw hwk rfl hgk.out hzl hrow.out).mono ?_
        rw [← HST.out]
        rintro e w3 ⟨a3, c3, rfl, ho3, hB3⟩
        have hown3 := ownsRow_keep hown hB3
        have hD3 := Below.trans' hD hB3
        have hsz3 : w2.heap.size ≤ w3.heap.size := hD3.size
        have hz3 := cell_keep hB3 hz0c
        have hb3 := cell_keep hB3 hbk
        have hc3 := cell_keep hB3 hck
        have hL3 := intsAt_of_ownsRow ho3
        clear ho3 hown hD hB3 hz0c hbk hck hwk hzw haw
        obtain ⟨L, hL⟩ : ∃ L, L = lostL st zs := ⟨_, rfl⟩
        rw [← hL] at hL3
        rw [← hL]
        by_cases hLe : L = []
        · subst hLe
          obtain ⟨q, hqz⟩ := Int.eq_ofNat_of_zero_le (hrow.out z (mem_of_get hzg.out)).1
          subst hqz
          have hnext := hide (hpl.out.next (q := q) HG.out (by rw [HRO.out]; exact HZE.out) (by rw [HRO.out]; exact nextOf_none hL.symm hzg.out))
          clear hL hL3
          simp only [List.length_nil]
          rw [Nat.add_zero] at hz3
          go_wp2_with (at_builtin; refine wpList_append_own _ rfl _ _ 26 rfl w2.heap.size 2 i0 (.int .i64 0) 1 8 Try.underlying26 hi hz0 hz1 hz2 rfl (by decide) _ _ _ rfl (hown3.alloc _) ⟨w3.heap.size, 0, none⟩ 1 1 [.int .i64 q] rfl rfl (cell_one_new _ _ _) (by simp [Value.oneCell']) (by unfold maxLen; omega) (by omega) (by simp; omega) ?_)
          intro v' w4 hown' hgrow _
          have hD4 : Below w2.heap.size w2 w4 := (hD3.alloc hsz3 _).grown hgrow (by simp; omega) (fun j hj => ((hown3.alloc (.cells #[Value.int .i64 q] 2)).lt j hj).1)
          have ho4 : Hid (w4.ownsRow w2.heap.size 2 1 v' (out ++ [(q : Int)]).length ((out ++ [(q : Int)]).map intV)) := by
            refine hide ?_
            simpa [intV] using hown'
          clear hown' hgrow hown3 hD3
          go_wp2_with fail
          go_roundw
          case rel => exact ⟨q, out ++ [(q : Int)], _, rfl, rfl, hide hnext.out.2, ho4.out, hD4⟩
          case measure => have := hnext.out.1; simp [intOf]; omega
        · have hLp : 0 < L.length := List.length_pos_iff.2 hLe
          obtain ⟨b1, o1, z1, rfl, hz1c, hzg1⟩ := hL3.one hLp
          have hz1g := hzg1.out
          rw [hL] at hz1g
          obtain ⟨q, hqz⟩ := Int.eq_ofNat_of_zero_le (hrow.out z1 ((List.mem_filter.1 (mem_of_get hz1g)).1)).1
          subst hqz
          have hnext := hide (hpl.out.next (q := q) HG.out (by rw [HRO.out]; exact HZE.out) (by rw [HRO.out]; exact nextOf_some hz1g))
          clear hL hL3 hLe hz1g hzg1
          rw [Nat.add_zero] at hz1c
          go_wp2_with (at_builtin; refine wpList_append_own _ rfl _ _ 26 rfl w2.heap.size 2 i0 (.int .i64 0) 1 8 Try.underlying26 hi hz0 hz1 hz2 rfl (by decide) _ _ _ rfl (hown3.alloc _) ⟨w3.heap.size, 0, none⟩ 1 1 [.int .i64 q] rfl rfl (cell_one_new _ _ _) (by simp [Value.oneCell']) (by unfold maxLen; omega) (by omega) (by simp; omega) ?_)
          intro v' w4 hown' hgrow _
          have hD4 : Below w2.heap.size w2 w4 := (hD3.alloc hsz3 _).grown hgrow (by simp; omega) (fun j hj => ((hown3.alloc (.cells #[Value.int .i64 q] 2)).lt j hj).1)
          have ho4 : Hid (w4.ownsRow w2.heap.size 2 1 v' (out ++ [(q : Int)]).length ((out ++ [(q : Int)]).map intV)) := by
            refine hide ?_
            simpa [intV] using hown'
          clear hown' hgrow hown3 hD3
          go_wp2_with fail
          go_roundw
          case rel => exact ⟨q, out ++ [(q : Int)], _, rfl, rfl, hide hnext.out.2, ho4.out, hD4⟩
          case measure => have := hnext.out.1; simp [intOf]; omega
  · have hR : playR xss p = ([], placeCode xss p) := by unfold playR; rw [if_neg hc]
    rw [hR]
    have hcc := placeCode_cases xss p
    obtain ⟨cd, hcd⟩ : ∃ cd, cd = placeCode xss p := ⟨_, rfl⟩
    rw [← hcd] at hc hcc ⊢
    have HCD := hide hcd
    clear hR hcd
    have hne : ((cd : Int) != 0) = true := by simpa using hc
    have hfin : ∀ w' : World, Below w.heap.size w w' → NewList ([], cd) w (.returned (.tuple #[.slice none 0 0, .int .i64 cd])) w' := fun w' h => ⟨none, 0, rfl, World.ownsRow_nil _ _ _ _, h⟩
    have HF := hide hfin
    clear hfin hc hcc
    go_enter Try.func23, Try.ntmps23
    go_wp2_with fail
    refine (l01Place_any _ _ xss _ _ (ha.keep hB0) hs).mono ?_
    rw [← HCD.out]
    rintro e w1 ⟨rfl, hB1⟩
    go_wp2_with fail
    go_ret2
    exact HF.out _ (Below.trans' hB0 hB1)
end Go.Proofs.Ytailjbenichiaab.B
