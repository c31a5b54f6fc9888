/-
  OpenMoves, the model's text.
-/
import Derived.Test.YtmoekjgnichgnaaDoorOp
import Derived.Test.YtmoekjgnichgnaaDoorSv
import Derived.Deep.Cut
namespace Go.Proofs.YtmoekjgnichgnaaDoor
open Go.RowKit
set_option linter.unusedVariables false

theorem Owns.made {B : Nat} {W0 w : World} (h : Below B W0 w) (hs : B ≤ w.heap.size) : Owns B W0 (w.alloc (.cells #[] 2)) (.slice (some ⟨w.heap.size, 0, none⟩) 0 0) [] := by
  refine ⟨⟨rfl, .inr ⟨w.heap.size, 0, #[], rfl, hs, heap_alloc_new w _, Nat.le_refl _, by unfold maxLen; omega, rfl, rfl⟩⟩, h.alloc hs _, by simp; omega⟩

set_option maxRecDepth 100000 in
set_option maxHeartbeats 8000000 in
theorem specOpenMoves_any (a : Option Addr) (c : Nat) (ss : List ByteArray) (x y u v : Int) (W : World) (ha : StrsAt W a ss) (hl : ss.length ≤ 1048576) (hz : ∀ s ∈ ss, s.size ≤ 1048576) :
    Calls Tryd.prog 30 #[.slice a ss.length c, .agg #[.int .i64 x, .int .i64 y, .int .i64 u, .int .i64 v]] W (NewList (omR ss ⟨x, y, u, v⟩) W) := by
  obtain ⟨W0, hW0, hb0, hr0⟩ := carBox W x y u v
  have HB0 := hide hb0
  have HA := hide (ha.keep hb0)
  have HR0 := hide hr0
  have HCC := hide (l08Car_any a c ss x y u v 0 W0 HA.out hl hz)
  have hmc : movC ss ⟨x, y, u, v⟩ 0 = carC ss ⟨x, y, u, v⟩ := by
    unfold movC
    by_cases h : carC ss ⟨x, y, u, v⟩ = 0
    · rw [if_pos h, h]; rfl
    · rw [if_neg h]
  rw [hmc] at HCC
  obtain ⟨d0, d1, d2, d3⟩ := row4 hr0
  rw [hW0] at d0 d1 d2 d3
  obtain ⟨k, hk⟩ : ∃ k, k = carC ss ⟨x, y, u, v⟩ := ⟨_, rfl⟩
  by_cases h0 : k = 0
  · subst h0
    obtain ⟨htk, hok⟩ := carC_zero hk.symm
    have hs := trk_shp htk
    have hfin : Hid (omR ss ⟨x, y, u, v⟩ = (opens ss ⟨x, y, u, v⟩, 0)) := hide (by unfold omR; rw [if_pos hk.symm])
    rw [← hk] at HCC
    rw [hfin.out]
    clear ha hr0 hb0 hl hz hk htk hmc
    obtain ⟨i0, hi0, hz0, hz1, hz2⟩ := info_parts Tryd.info2
    go_enter Tryd.func30, Tryd.ntmps30
    go_wp2_with fail
    rw [← hW0]
    clear hW0
    (try go_wp2_with fail)
    refine HCC.out.mono ?_
    rintro e w1 ⟨rfl, hb1⟩
    have HB1 := hide (Below.trans' HB0.out hb1)
    have HA1 := hide (HA.out.keep hb1)
    have HR1 := hide (box_keep HR0.out hb1)
    clear hb1 d0 d1 d2 d3
    go_wp2_with fail
    go_loopw [7, 8] (fun v7 v8 wr => ∃ (i : Nat) (rv : Value), rv = v7 ∧ v8 = .int .i64 i ∧ i ≤ 9 ∧ Hid (Owns w1.heap.size w1 wr rv (opensTo ss ⟨x, y, u, v⟩ i))) (fun _ v8 _ => 9 - (intOf v8).toNat)
    case atStart => exact ⟨0, _, rfl, rfl, by omega, hide (Owns.made (Below.refl _ _) (Nat.le_refl _))⟩
    case round =>
      obtain ⟨i, rv, rfl, rfl, hi, hO⟩ := hrel
      by_cases hlt : i < 9
      · have hbW := hO.out.old
        obtain ⟨d0, d1, d2, d3⟩ := row4 ((hO.out.old.block _ (block_lt HR1.out)).trans HR1.out)
        have HLM := hide (l08Move_any a c ss x y u v (i : Int) wr (HA1.out.keep hbW) hs hok (by omega) (by omega))
        have hsz := hO.out.size
        cases hop : opn ss ⟨x, y, u, v⟩ (i : Int)
        · have hnx : Hid (opensTo ss ⟨x, y, u, v⟩ (i + 1) = opensTo ss ⟨x, y, u, v⟩ i) := hide (opensTo_no hop)
          have hmv : mvS ss ⟨x, y, u, v⟩ (i : Int) = (Cr.zero, false) := by unfold mvS; rw [if_neg (by rw [hop]; simp)]
          rw [hmv] at HLM
          unfold crV Cr.zero at HLM
          dsimp only at HLM
          clear hop hmv hbW
          go_wp2_with fail
          refine HLM.out.mono ?_
          rintro e w2 ⟨rfl, hb2⟩
          obtain ⟨V2, hV2⟩ : ∃ V2, V2 = w2.alloc (.cells #[.int .i64 0, .int .i64 0, .int .i64 0, .int .i64 0] 28) := ⟨_, rfl⟩
          have HO2 : Hid (Owns w1.heap.size w1 V2 rv (opensTo ss ⟨x, y, u, v⟩ (i + 1))) := hide (by
            rw [hnx.out, hV2]
            exact (hO.out.keep hb2).keep (below_alloc _ _))
          clear hb2 d0 d1 d2 d3
          go_wp2_with fail
          rw [← hV2]
          clear hV2
          (try go_wp2_with fail)
          go_roundw
          case rel => exact ⟨i + 1, _, rfl, by go_num, by omega, HO2⟩
          case measure => simp [intOf]; omega
        · have hnx : Hid (opensTo ss ⟨x, y, u, v⟩ (i + 1) = opensTo ss ⟨x, y, u, v⟩ i ++ [(i : Int)]) := hide (opensTo_yes hop)
          have hmv : mvS ss ⟨x, y, u, v⟩ (i : Int) = ((⟨x, y, u, v⟩ : Cr).go (i : Int), true) := by unfold mvS; rw [if_pos hop]
          rw [hmv] at HLM
          obtain ⟨⟨gx, gy, gu, gv⟩, hK⟩ : ∃ K, K = (⟨x, y, u, v⟩ : Cr).go (i : Int) := ⟨_, rfl⟩
          rw [← hK] at HLM
          unfold crV at HLM
          dsimp only at HLM
          have hl9 := opensTo_len ss ⟨x, y, u, v⟩ i
          obtain ⟨zs, hzs⟩ : ∃ zs, zs = opensTo ss ⟨x, y, u, v⟩ i := ⟨_, rfl⟩
          rw [← hzs] at hl9 hO hnx
          clear hop hmv hbW hK hzs
          go_wp2_with fail
          refine HLM.out.mono ?_
          rintro e w2 ⟨rfl, hb2⟩
          obtain ⟨V2, hV2⟩ : ∃ V2, V2 = w2.alloc (.cells #[.int .i64 gx, .int .i64 gy, .int .i64 gu, .int .i64 gv] 28) := ⟨_, rfl⟩
          have HO2 : Hid (Owns w1.heap.size w1 V2 rv zs) := hide (by
            rw [hV2]
            exact (hO.out.keep hb2).keep (below_alloc _ _))
          clear hb2 d0 d1 d2 d3
          go_upto_region 10 with fail
          rw [← hV2]
          clear hV2
          have hown := HO2.out.own
          have hsz2 := HO2.out.size
          go_wp2_with (at_builtin; refine wpList_append_own _ rfl _ _ 39 rfl (w1.heap.size) 2 i0 (.int .i64 0) 1 8 Tryd.underlying39 hi0 hz0 hz1 hz2 rfl (by decide) _ _ _ rfl (hown.alloc _) ⟨V2.heap.size, 0, none⟩ 1 1 [.int .i64 (i : Int)] rfl rfl (cell_one_new _ _ _) (by simp [Value.oneCell']) (by unfold maxLen; omega) (by omega) (by simp; omega) ?_)
          intro v'0 w5 hown' hgrow _
          have HO5 := hide (HO2.out.snoc (by simpa using hown') hgrow)
          clear hown' hgrow hown
          go_wp2_with fail
          go_roundw
          case rel => exact ⟨i + 1, _, rfl, by go_num, by omega, hide (by rw [hnx.out]; exact HO5.out)⟩
          case measure => simp [intOf]; omega
      · obtain rfl : i = 9 := by omega
        have HF := hide (hO.out.listC HB1.out HB1.out.size 0)
        clear hO
        go_wp2_with fail
        go_ret2
        exact HF.out
  · have hfin : Hid (omR ss ⟨x, y, u, v⟩ = ([], k)) := hide (by unfold omR; rw [if_neg (by rw [← hk]; exact h0), hk])
    rw [← hk] at HCC
    rw [hfin.out]
    clear ha hr0 hb0 hl hz hk hmc
    go_enter Tryd.func30, Tryd.ntmps30
    go_wp2_with fail
    rw [← hW0]
    clear hW0
    (try go_wp2_with fail)
    refine HCC.out.mono ?_
    rintro e w1 ⟨rfl, hb1⟩
    have hfin2 := hide (newList_nil W w1 k (Below.trans' HB0.out hb1))
    clear hb1 d0 d1 d2 d3
    go_wp2_with fail
    go_ret2
    exact hfin2.out
end Go.Proofs.YtmoekjgnichgnaaDoor
