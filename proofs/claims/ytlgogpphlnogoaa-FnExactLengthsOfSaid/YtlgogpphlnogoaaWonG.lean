/-
  l01Won: the model's text against the plain function, with ends lost and with ends won.
-/
import Derived.Test.YtlgogpphlnogoaaWonRule
namespace Go.Proofs.Ytlgogpphlnogoaa.B
open Go.RowKit Go.Shelf

set_option maxRecDepth 100000 in
set_option maxHeartbeats 4000000 in
theorem l01Won_f (a : Option Addr) (c : Nat) (xss : List (List Int)) (w : World) (ha : RowsAt w a xss) (_hs : Small xss) (hg : isGameB xss = true) :
    Calls Try.prog 59 #[.agg #[.slice a xss.length c], .bool false] w (NewBools (valsL false (wonV false) xss) w) := by
  have hlen := game_len hg
  have HG := hide hg
  have hB0 : Below w.heap.size w (w.alloc (.cells #[.slice a xss.length c] 29)) := (Below.refl _ _).alloc (Nat.le_refl _) _
  have hbox : (w.alloc (.cells #[.slice a xss.length c] 29)).cell? ⟨w.heap.size, 0, none⟩ = some (.slice a xss.length c) := by simp [go_sem]
  clear hg
  go_enter Try.func59, Try.ntmps59
  go_wp2_with fail
  refine (l01N_any _ _ _ _).mono ?_
  rintro e w1 ⟨rfl, hBn⟩
  have hb1 := cell_keep hBn hbox
  have hBB := Below.trans' hB0 hBn
  have hlt1 : w.heap.size < w1.heap.size := World.block_lt_of_cell? w1 _ hb1
  clear hbox hBn hB0
  go_wp2_with (at_make; refine wpList_make_fresh _ rfl _ _ 49 rfl 4 (.bool false) 1 Try.underlying49 Try.infoBool rfl .i64 .i64 xss.length rfl rfl (by omega) (by omega) ?_; intro w2 hr2 hB2; have hb2 := cell_keep hB2 hb1)
  refine (l01N_any _ _ _ _).mono ?_
  rintro e w3 ⟨rfl, hB3⟩
  have hr3 := hide (hr2.of_block (hB3.block _ hr2.lt))
  have hD3 := hide (hB2.trans (hB3.mono hB2.size))
  clear hb2 hr2 hB2 hB3
  go_wp2_with fail
  go_loopw [6] (fun p wr => ∃ (k : Nat) (hk : k ≤ xss.length), p = .int .i64 ((xss.length : Int) - 1 - k) ∧ wr.rowIs w1.heap.size 4 xss.length (fun i => .bool (stL false (wonV false) xss (downs xss.length k hk) i)) ∧ Below w1.heap.size w1 wr) (fun p _ => (intOf p + 1).toNat)
  case atStart => exact ⟨0, Nat.zero_le _, by simp, hr3.out, hD3.out⟩
  case round =>
    clear hr3 hD3
    obtain ⟨k, hk, rfl, hr, hD⟩ := hrel
    by_cases hlt : k < xss.length
    · obtain ⟨xp, hxp⟩ : ∃ xp, xp = xss.length - 1 - k := ⟨_, rfl⟩
      have hxn : xp < xss.length := by omega
      have ei : ((xss.length : Int) - 1 - (k : Int)) = (xp : Int) := by omega
      rw [ei]
      obtain ⟨st, hst⟩ : ∃ st, st = stL false (wonV false) xss (downs xss.length k hk) := ⟨_, rfl⟩
      rw [← hst] at hr
      obtain ⟨b, off, ai, ci, zs, rfl, hcell0, hzz, hgk⟩ := ha.one hxn
      have hzl := game_row_len HG.out hgk.out
      have hrow := hide (game_row HG.out hgk.out)
      have hBk := hBB.trans (hD.mono (by omega))
      have hbk := (hD.cell (p := ⟨w.heap.size, 0, none⟩) hlt1).trans hb1
      have hck := cell_keep hBk hcell0
      have hcx := hr.cell hxn
      have hfx := hr.frozen xp
      obtain ⟨z0, hz0⟩ : ∃ z0 : Bool, z0 = decide (zs = []) := ⟨_, rfl⟩
      have hz1 : ((zs.length : Int) == 0) = z0 := by
        rw [hz0]
        by_cases e : zs = []
        · subst e; rfl
        · rw [decide_eq_false e]
          have := List.length_pos_iff.2 e
          simp; exact e
      have HX := hide hxp
      have HEND : Hid (∀ i, stL false (wonV false) xss (downs xss.length (k + 1) hlt) i = upd st xp (false || hasF (afterOf st zs)) i) := by
        refine hide ?_
        intro i
        rw [downs, stL_snoc, ← hst]
        have e1 : rowOf xss (xss.length - 1 - k) = zs := by unfold rowOf; rw [← hxp, hgk.out]; rfl
        show upd st (xss.length - 1 - k) (wonV false (afterOf st (rowOf xss (xss.length - 1 - k)))) i = _
        rw [e1, ← hxp]
        have e2 : wonV false (afterOf st zs) = (false || hasF (afterOf st zs)) := by
          unfold wonV
          by_cases e : zs = []
          · subst e; simp [afterOf, hasF]
          · have : afterOf st zs ≠ [] := by simpa [afterOf] using e
            rw [if_neg this]
            simp
        rw [e2]
      have hr1 := hide (show (wr.setCell ⟨w1.heap.size, xp, none⟩ (.bool false)).rowIs w1.heap.size 4 xss.length (fun i => .bool (upd st xp (false || hasF (afterOf st (zs.take 0))) i)) from (hr.set xp (.bool false)).congr (fun i _ => by
        unfold upd
        split
        · simp [afterOf, hasF]
        · rfl))
      have hD1 := hide (hD.setCell (p := ⟨w1.heap.size, xp, none⟩) (Nat.le_refl _) (.bool false))
      clear hst hxp ei ha hBk hr hD hz0
      go_wp2_with fail
      go_loopw [7] (fun i wr => ∃ j : Nat, i = .int .i64 j ∧ j ≤ zs.length ∧ wr.rowIs w1.heap.size 4 xss.length (fun i => .bool (upd st xp (false || hasF (afterOf st (zs.take j))) i)) ∧ Below w1.heap.size w1 wr) (fun i _ => zs.length - (intOf i).toNat)
      case atStart => exact ⟨0, rfl, Nat.zero_le _, hr1.out, hD1.out⟩
      case round =>
        clear hr1 hD1 hck hbk hcx hfx
        obtain ⟨j, rfl, hj, hrj, hDj⟩ := hrel
        have hBj := hBB.trans (hDj.mono (by omega))
        have hbj := (hDj.cell (p := ⟨w.heap.size, 0, none⟩) hlt1).trans hb1
        have hcj := cell_keep hBj hcell0
        by_cases hjlt : j < zs.length
        · obtain ⟨bz, oz, z, rfl, hcz, hzj⟩ := (hzz.keep hBj).one hjlt
          have hzr := hrow.out z (mem_of_get hzj.out)
          obtain ⟨q, rfl⟩ := Int.eq_ofNat_of_zero_le (show 0 ≤ z by omega)
          have hqn : q < xss.length := by omega
          have hqx : q ≠ xp := by omega
          obtain ⟨s0, hs0⟩ : ∃ s0, s0 = (false || hasF (afterOf st (zs.take j))) := ⟨_, rfl⟩
          obtain ⟨sq, hsq⟩ : ∃ sq, sq = st q := ⟨_, rfl⟩
          have hcp : wr.cell? ⟨w1.heap.size, xp, none⟩ = some (.bool s0) := by rw [hrj.cell hxn, hs0]; simp [upd]
          have hcq : wr.cell? ⟨w1.heap.size, q, none⟩ = some (.bool sq) := by rw [hrj.cell hqn, hsq]; simp [upd, hqx]
          have hfp := hrj.frozen xp
          have hr2 : Hid ((wr.setCell ⟨w1.heap.size, xp, none⟩ (.bool (s0 || !sq))).rowIs w1.heap.size 4 xss.length (fun i => .bool (upd st xp (false || hasF (afterOf st (zs.take (j + 1)))) i))) := by
            refine hide ((hrj.set xp (.bool (s0 || !sq))).congr ?_)
            intro i _
            rw [afterOf_snoc st hzj.out, hasF_snoc, ← Bool.or_assoc, ← hs0, ← hsq]
            unfold upd
            split <;> rfl
          have hD2 := hide (hDj.setCell (p := ⟨w1.heap.size, xp, none⟩) (Nat.le_refl _) (.bool (s0 || !sq)))
          clear hs0 hsq hrj hDj hBj hcell0 hzr hqx
          cases s0
          · go_wp2_with fail
            go_roundw
            case rel => exact ⟨j + 1, by go_num, by omega, by simpa using hr2.out, by simpa using hD2.out⟩
            case measure => simp [intOf]; omega
          · go_wp2_with fail
            go_roundw
            case rel => exact ⟨j + 1, by go_num, by omega, by simpa using hr2.out, by simpa using hD2.out⟩
            case measure => simp [intOf]; omega
        · obtain rfl : j = zs.length := by omega
          have hfinr : Hid (wr.rowIs w1.heap.size 4 xss.length (fun i => .bool (stL false (wonV false) xss (downs xss.length (k + 1) hlt) i))) := by
            refine hide (hrj.congr ?_)
            intro i _
            rw [HEND.out i, List.take_length]
          clear hrj hcell0
          go_wp2_with fail
          go_roundw
          case rel => exact ⟨k + 1, hlt, by have := HX.out; congr 1; omega, hfinr.out, hDj⟩
          case measure => simp [intOf]
    · obtain rfl : k = xss.length := by omega
      have ei : ((xss.length : Int) - 1 - (xss.length : Int)) = -1 := by omega
      have hfin : NewBools (valsL false (wonV false) xss) w (.returned (.slice (some ⟨w1.heap.size, 0, none⟩) xss.length xss.length)) wr := by
        have hl : (valsL false (wonV false) xss).length = xss.length := by simp [valsL]
        have := rowIs_owns (base := w.heap.size) (vs := (valsL false (wonV false) xss).map boolV) hr (by omega) (by unfold maxLen; omega) (by simp [hl]) (fun i hi => by simp [valsL, hi, boolV])
        refine ⟨w1.heap.size, xss.length, by rw [hl], ?_, hBB.trans (hD.mono (by omega))⟩
        rw [hl]
        exact this
      have HF := hide hfin
      rw [ei]
      clear hr hD ei hfin ha
      go_wp2_with fail
      go_ret
      exact HF.out
end Go.Proofs.Ytlgogpphlnogoaa.B
