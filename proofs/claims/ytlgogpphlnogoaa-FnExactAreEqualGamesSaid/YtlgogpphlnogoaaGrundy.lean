/-
  GrundyOf: both texts against one plain function.
-/
import Derived.Test.YtlgogpphlnogoaaVals
import Derived.Test.YtlgogpphlnogoaaMex
namespace Go.Proofs.Ytlgogpphlnogoaa
open Go.RowKit

def mexV (vs : List Int) : Int := (mexN vs : Int)
def MexG (v : Int) : Prop := 0 ≤ v ∧ v ≤ 40
theorem mexV_good (vs : List Int) (h : vs.length ≤ 40) (_ : ∀ v ∈ vs, MexG v) : MexG (mexV vs) := by
  have := mexN_le vs
  unfold MexG mexV
  omega
theorem mexG_zero : MexG 0 := by unfold MexG; omega
theorem mexG_i64s {vs : List Int} (h : ∀ v ∈ vs, MexG v) : I64s vs := fun z hz => by
  have := h z hz
  unfold MexG at this
  exact WalkArith.wf_i64 (by omega)
def grundyR (xss : List (List Int)) : List Int × Int := if isGameB xss then (valsL 0 mexV xss, 0) else ([], 1)
theorem grundyR_le (xss : List (List Int)) (hs : Small xss) : (grundyR xss).1.length ≤ 1048576 := by
  unfold grundyR
  split
  · have := hs.1
    show (valsL 0 mexV xss).length ≤ 1048576
    simp [valsL]; omega
  · simp
theorem afterOf_snoc {β : Type} (st : Nat → β) {zs : List Int} {j q : Nat} (h : zs[j]? = some (q : Int)) : afterOf st (zs.take (j + 1)) = afterOf st (zs.take j) ++ [st q] := by
  rw [List.take_add_one, h]
  simp [afterOf]
theorem afterOf_length {β : Type} (st : Nat → β) (zs : List Int) (j : Nat) (h : j ≤ zs.length) : (afterOf st (zs.take j)).length = j := by simp [afterOf]; omega

set_option maxRecDepth 100000 in
set_option maxHeartbeats 4000000 in
theorem l01Grundy_any (a : Option Addr) (c : Nat) (xss : List (List Int)) (w : World) (ha : RowsAt w a xss) (_hs : Small xss) (hg : isGameB xss = true) :
    Calls Try.prog 70 #[.agg #[.slice a xss.length c]] w (NewInts (valsL 0 mexV xss) w) := by
  have hlen := game_len hg
  obtain ⟨i0, hi, hz0, hz1, hz2⟩ := info_parts Try.info2
  have HG := hide hg
  have hB0 : Below w.heap.size w (w.alloc (.cells #[.slice a xss.length c] 29)) := (Below.refl _ _).alloc (Nat.le_refl _) _
  have hbox : (w.alloc (.cells #[.slice a xss.length c] 29)).cell? ⟨w.heap.size, 0, none⟩ = some (.slice a xss.length c) := by simp [go_sem]
  clear hg
  go_enter Try.func70, Try.ntmps70
  go_wp2_with fail
  refine (l01N_any _ _ _ _).mono ?_
  rintro e w1 ⟨rfl, hBn⟩
  have hb1 := cell_keep hBn hbox
  have hBB := Below.trans' hB0 hBn
  have hlt1 : w.heap.size < w1.heap.size := World.block_lt_of_cell? w1 _ hb1
  clear hbox hBn hB0
  go_wp2_with (at_make; refine wpList_make_fresh _ rfl _ _ 26 rfl 2 (.int .i64 0) 8 Try.underlying26 Try.info2 rfl .i64 .i64 xss.length rfl rfl (by omega) (by omega) ?_; intro w2 hr2 hB2; have hb2 := cell_keep hB2 hb1)
  refine (l01N_any _ _ _ _).mono ?_
  rintro e w3 ⟨rfl, hB3⟩
  have hr3 := hide (hr2.of_block (hB3.block _ hr2.lt))
  have hD3 := hide (hB2.trans (hB3.mono hB2.size))
  have hsz3 : w1.heap.size + 1 ≤ w3.heap.size := Nat.le_trans hr2.lt hB3.size
  clear hb2 hr2 hB2 hB3
  go_wp2_with fail
  go_loopw [4] (fun p wr => ∃ (k : Nat) (hk : k ≤ xss.length), p = .int .i64 ((xss.length : Int) - 1 - k) ∧ wr.rowIs w1.heap.size 2 xss.length (fun i => .int .i64 (stL 0 mexV xss (downs xss.length k hk) i)) ∧ w1.heap.size + 1 ≤ wr.heap.size ∧ Below w1.heap.size w1 wr) (fun p _ => (intOf p + 1).toNat)
  case atStart => exact ⟨0, Nat.zero_le _, by simp, hr3.out, hsz3, hD3.out⟩
  case round =>
    clear hr3 hD3 hsz3
    obtain ⟨k, hk, rfl, hr, hsz, hD⟩ := hrel
    by_cases hlt : k < xss.length
    · obtain ⟨xp, hxp⟩ : ∃ xp, xp = xss.length - 1 - k := ⟨_, rfl⟩
      have hxn : xp < xss.length := by omega
      have ei : ((xss.length : Int) - 1 - (k : Int)) = (xp : Int) := by omega
      rw [ei]
      obtain ⟨st, hst⟩ : ∃ st, st = stL 0 mexV xss (downs xss.length k hk) := ⟨_, rfl⟩
      rw [← hst] at hr
      obtain ⟨b, off, ai, ci, zs, rfl, hcell0, hzz, hgk⟩ := ha.one hxn
      have hzl := game_row_len HG.out hgk.out
      have hrow := hide (game_row HG.out hgk.out)
      have hgood : ∀ i, MexG (st i) := by
        intro i
        rw [hst]
        exact stL_good (z := (0 : Int)) mexG_zero mexV_good (fun zs hz => by obtain ⟨i, hi⟩ := List.mem_iff_getElem?.1 hz; exact game_row_len HG.out hi) _ _ (fun _ => mexG_zero) _
      have HGD := hide hgood
      have HST := hide hst
      have HX := hide hxp
      have hrA := hr.alloc (.cells #[] 2)
      have hDA := hide (hD.alloc hD.size (.cells #[] 2))
      have hoA := hide (World.ownsRow_made (e := 2) (size := 1) (base := w1.heap.size + 1) wr #[] 0 hsz (Nat.zero_le _) rfl)
      have hRA := hide hrA
      clear hst hxp ei hgood hr hD ha hrA
      go_wp2_with fail
      go_loopw [5, 6] (fun v i wr => ∃ (j : Nat) (v0 : Value), v0 = v ∧ i = .int .i64 j ∧ j ≤ zs.length ∧ wr.rowIs w1.heap.size 2 xss.length (fun i => .int .i64 (st i)) ∧ wr.ownsRow (w1.heap.size + 1) 2 1 v (afterOf st (zs.take j)).length ((afterOf st (zs.take j)).map intV) ∧ w1.heap.size + 1 ≤ wr.heap.size ∧ Below w1.heap.size w1 wr) (fun _ i _ => zs.length - (intOf i).toNat)
      case atStart => exact ⟨0, _, rfl, rfl, Nat.zero_le _, hRA.out, by simpa [afterOf] using hoA.out, by simp; omega, hDA.out⟩
      case round =>
        clear hoA hDA hRA
        obtain ⟨j, v, rfl, rfl, hj, hrj, hoj, hszj, hDj⟩ := hrel
        have hBj := hBB.trans (hDj.mono (by omega))
        have hbj := (hDj.cell (p := ⟨w.heap.size, 0, none⟩) hlt1).trans hb1
        have hcj := cell_keep hBj hcell0
        by_cases hjlt : j < zs.length
        · obtain ⟨bz, oz, z, rfl, hcz, hzj⟩ := (hzz.keep hBj).one hjlt
          have hzr := hrow.out z (mem_of_get hzj.out)
          obtain ⟨q, rfl⟩ := Int.eq_ofNat_of_zero_le (show 0 ≤ z by omega)
          have hqn : q < xss.length := by omega
          have hcq := hrj.cell hqn
          obtain ⟨sq, hsq⟩ : ∃ sq, sq = st q := ⟨_, rfl⟩
          rw [← hsq] at hcq
          have HSQ := hide hsq
          have hel := afterOf_length st zs j hj
          have HEL := hide hel
          have hlen40 : (afterOf st (zs.take j)).length ≤ 40 := by rw [hel]; omega
          clear hsq hel hcell0
          go_wp2_with (at_builtin; refine wpList_append_own _ rfl _ _ 26 rfl (w1.heap.size + 1) 2 i0 (.int .i64 0) 1 8 Try.underlying26 hi hz0 hz1 hz2 rfl (by decide) _ _ _ rfl (hoj.alloc _) ⟨wr.heap.size, 0, none⟩ 1 1 [.int .i64 sq] rfl rfl (cell_one_new _ _ _) (by simp [Value.oneCell']) (by unfold maxLen; omega) (by omega) (by simp; omega) ?_)
          intro v' w4 hown' hgrow _
          have hrA := hrj.alloc (.cells #[Value.int .i64 sq] 2)
          have hnb : v.ownBlock ≠ some w1.heap.size := fun e => by have := (hoj.lt _ e).1; omega
          have hr4 := hide (hrA.of_block (hgrow.block _ (by simp; omega) (fun e => hnb e.symm)))
          have hD4 : Below w1.heap.size w1 w4 := (hDj.alloc hDj.size _).grown hgrow (by have := hDj.size; simp; omega) (fun j hj => by have := (hoj.alloc (.cells #[Value.int .i64 sq] 2)).lt j hj; omega)
          have hsz4 : w1.heap.size + 1 ≤ w4.heap.size := by have := hgrow.size; simp at this; omega
          have ho4 : Hid (w4.ownsRow (w1.heap.size + 1) 2 1 v' (afterOf st (zs.take (j + 1))).length ((afterOf st (zs.take (j + 1))).map intV)) := by
            refine hide ?_
            rw [afterOf_snoc st hzj.out, ← HSQ.out]
            simpa [intV] using hown'
          clear hown' hgrow hoj hDj hBj hrj hrA hnb
          go_wp2_with fail
          go_roundw
          case rel => exact ⟨j + 1, _, rfl, by go_num, by omega, hr4.out, ho4.out, hsz4, hD4⟩
          case measure => simp [intOf]; omega
        · obtain rfl : j = zs.length := by omega
          rw [List.take_length] at hoj
          obtain ⟨al, cl, rfl⟩ := own_form hoj
          have hint := intsAt_of_ownsRow hoj
          have hal : (afterOf st zs).length ≤ 40 := by simp [afterOf]; omega
          have hpos : ∀ z ∈ afterOf st zs, 0 ≤ z := by
            intro z hz
            simp only [afterOf, List.mem_map] at hz
            obtain ⟨q, _, rfl⟩ := hz
            exact (HGD.out _).1
          clear hoj hcell0
          go_wp2_with fail
          refine (l01Mex_any _ _ _ _ hint (by omega) hpos).mono ?_
          rintro e w5 ⟨rfl, hB5⟩
          have hr5 := hrj.of_block (hB5.block _ hrj.lt)
          have hc5 := hr5.cell hxn
          have hf5 := hr5.frozen xp
          have hr6 := hide (hr5.set xp (.int .i64 (mexN (afterOf st zs))))
          have hD6 := hide ((hDj.trans (hB5.mono (by omega))).setCell (p := ⟨w1.heap.size, xp, none⟩) (Nat.le_refl _) (.int .i64 (mexN (afterOf st zs))))
          have hsz6 : w1.heap.size + 1 ≤ w5.heap.size := Nat.le_trans hszj hB5.size
          have HR7 : Hid ((w5.setCell ⟨w1.heap.size, xp, none⟩ (.int .i64 (mexN (afterOf st zs)))).rowIs w1.heap.size 2 xss.length (fun i => .int .i64 (stL 0 mexV xss (downs xss.length (k + 1) hlt) i))) := by
            refine hide (hr6.out.congr ?_)
            intro i _
            rw [downs, stL_snoc, ← HST.out]
            have e1 : rowOf xss (xss.length - 1 - k) = zs := by unfold rowOf; rw [← HX.out, hgk.out]; rfl
            show _ = Value.int .i64 (upd st (xss.length - 1 - k) (mexV (afterOf st (rowOf xss (xss.length - 1 - k)))) i)
            rw [e1, ← HX.out]
            unfold upd mexV
            split <;> rfl
          clear hint hpos hrj hDj hBj hB5 hr5 hr6
          go_wp2_with fail
          go_roundw
          case rel => exact ⟨k + 1, hlt, by have := HX.out; congr 1; omega, HR7.out, by simp [World.setCell]; omega, hD6.out⟩
          case measure => have := HX.out; simp [intOf]
    · obtain rfl : k = xss.length := by omega
      have ei : ((xss.length : Int) - 1 - (xss.length : Int)) = -1 := by omega
      have hfin : NewInts (valsL 0 mexV xss) w (.returned (.slice (some ⟨w1.heap.size, 0, none⟩) xss.length xss.length)) wr := by
        have hl : (valsL 0 mexV xss).length = xss.length := by simp [valsL]
        have := rowIs_owns (base := w.heap.size) (vs := (valsL 0 mexV xss).map intV) hr (by omega) (by unfold maxLen; omega) (by simp [hl]) (fun i hi => by simp [valsL, hi, intV])
        refine ⟨w1.heap.size, xss.length, by rw [hl], ?_, hBB.trans (hD.mono (by omega))⟩
        rw [hl]
        exact this
      have HF := hide hfin
      rw [ei]
      clear hr hD ei hfin ha
      go_wp2_with fail
      go_ret
      exact HF.out
end Go.Proofs.Ytlgogpphlnogoaa
