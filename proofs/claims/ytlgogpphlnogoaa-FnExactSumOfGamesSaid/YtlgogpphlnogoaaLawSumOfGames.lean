/-
  FnExactSumOfGames: for every argument the law returns true and leaves its arguments as they were. No condition.
-/
import Derived.Test.YtlgogpphlnogoaaSumS
import Derived.Test.YtlgogpphlnogoaaMarkK
import Derived.Test.YtlgogpphlnogoaaSize
import Derived.Test.YtlgogpphlnogoaaOpen
import Derived.Deep.DeepCutAuto
import Derived.Deep.RegionHeld3
namespace Go.Proofs.Ytlgogpphlnogoaa.LawSumOfGames
open Go.ChangeShapes Go.WideShapes Go.ChangeAt Go.RowKit
set_option linter.unusedVariables false

theorem box_kept {w0 w' : World} {o : Obj} (h : Below (w0.alloc o).heap.size (w0.alloc o) w') : w'.heap[w0.heap.size]? = some o := (h.block _ (by simp)).trans (heap_alloc_new w0 o)
theorem box_keep {w w' : World} {g : Nat} {o : Obj} (h : w.heap[g]? = some o) (hb : Below w.heap.size w w') : w'.heap[g]? = some o := (hb.block _ (block_lt h)).trans h
theorem box_set {w : World} {g : Nat} {v : Value} {t : TypeId} (h : w.heap[g]? = some (.cells #[v] t (0, 0))) (u : Value) : (w.setCell ⟨g, 0, none⟩ u).heap[g]? = some (.cells #[u] t (0, 0)) := by
  have := heap_setCell_same w g 0 _ t u h
  simpa using this

theorem sumR_small (xss yss : List (List Int)) : Small (sumR xss yss).1 := by
  unfold sumR
  split
  · rename_i h
    simp only [Bool.and_eq_true] at h
    split
    · rename_i hb
      refine ⟨by rw [sumRows_length, Nat.mul_comm]; omega, fun zs hz => ?_⟩
      simp [sumRows] at hz
      obtain ⟨p, _, rfl⟩ := hz
      have := sumRow_len (m := yss.length) (i := p / yss.length) (j := p % yss.length) (rowA_len h.1 (p / yss.length)) (rowA_len h.2 (p % yss.length))
      omega
    · exact ⟨by simp, by simp⟩
  · exact ⟨by simp, by simp⟩

set_option maxRecDepth 100000 in
set_option maxHeartbeats 2000000 in
theorem walk (a : Option Addr) (c : Nat) (xss : List (List Int)) (b : Option Addr) (d : Nat) (yss : List (List Int)) (w : World) (ha : RowsAt w a xss) (hn : xss.length ≤ 9223372036854775807) (hf : Fits xss) (hb : RowsAt w b yss) (hm : yss.length ≤ 9223372036854775807) (hg : Fits yss) :
    Calls Try.prog 6 #[.agg #[.slice a xss.length c], .agg #[.slice b yss.length d]] w fun e w' => e = .returned (.bool true) ∧ Below w.heap.size w w' := by
  obtain ⟨s, hs⟩ : ∃ s, s = szAll xss 1048576 := ⟨_, rfl⟩
  have HS := hide hs
  have hsb := szAll_bd xss 1048576
  rw [← hs] at hsb
  clear hs
  have hB0 : Below w.heap.size w ((w.alloc (.cells #[.slice a xss.length c] 24)).alloc (.cells #[.slice b yss.length d] 24)) := ((Below.refl _ _).alloc (Nat.le_refl _) _).alloc (by simp) _
  have hbx : ((w.alloc (.cells #[.slice a xss.length c] 24)).alloc (.cells #[.slice b yss.length d] 24)).cell? ⟨w.heap.size, 0, none⟩ = some (.slice a xss.length c) := by simp [go_sem, World.cell?_alloc_past]
  have hby : ((w.alloc (.cells #[.slice a xss.length c] 24)).alloc (.cells #[.slice b yss.length d] 24)).cell? ⟨w.heap.size + 1, 0, none⟩ = some (.slice b yss.length d) := by simp [go_sem]
  have ha0 := ha.keep hB0
  have hb0 := hb.keep hB0
  clear ha hb
  by_cases hneg : s < 0
  · go_enter Try.func6, Try.ntmps6
    go_wp2_with fail
    refine (szGame_gen _ _ xss 1048576 _ ha0 (by decide) (by decide) hn hf).mono ?_
    rintro e w1 ⟨he, hB1⟩
    rw [← HS.out] at he
    subst he
    have hbx1 := cell_keep hB1 hbx
    have hby1 := cell_keep hB1 hby
    clear hbx hby
    go_wp2_with fail
    go_ret
    exact ⟨rfl, Below.trans' hB0 hB1⟩
  · have hsm : Small xss := szAll_small (by rw [← HS.out]; omega)
    obtain ⟨t, ht⟩ : ∃ t, t = szAll yss s := ⟨_, rfl⟩
    have HT := hide ht
    clear ht
    by_cases hneg2 : t < 0
    · go_enter Try.func6, Try.ntmps6
      go_wp2_with fail
      refine (szGame_gen _ _ xss 1048576 _ ha0 (by decide) (by decide) hn hf).mono ?_
      rintro e w1 ⟨he, hB1⟩
      rw [← HS.out] at he
      subst he
      have hbx1 := cell_keep hB1 hbx
      have hby1 := cell_keep hB1 hby
      clear hbx hby
      go_wp2_with fail
      refine (szGame_gen _ _ yss s _ (hb0.keep hB1) (by omega) (by omega) hm hg).mono ?_
      rintro e w2 ⟨he, hB2⟩
      rw [← HT.out] at he
      subst he
      go_wp2_with fail
      go_ret
      exact ⟨rfl, Below.trans' (Below.trans' hB0 hB1) hB2⟩
    · have hst : Small yss := szAll_small2 (l := s) (by omega) (by rw [← HT.out]; omega)
      obtain ⟨r, hr⟩ : ∃ r, r = sumR xss yss := ⟨_, rfl⟩
      have HR := hide hr
      have hsm2 := sumR_small xss yss
      rw [← hr] at hsm2
      have hrl := hsm2.1
      have HSM := hide hsm2
      clear hr hsm2
      go_enter Try.func6, Try.ntmps6
      go_wp2_with fail
      refine (szGame_gen _ _ xss 1048576 _ ha0 (by decide) (by decide) hn hf).mono ?_
      rintro e w1 ⟨he, hB1⟩
      rw [← HS.out] at he
      subst he
      have hbx1 := cell_keep hB1 hbx
      have hby1 := cell_keep hB1 hby
      clear hbx hby
      go_wp2_with fail
      refine (szGame_gen _ _ yss s _ (hb0.keep hB1) (by omega) (by omega) hm hg).mono ?_
      rintro e w2 ⟨he, hB2⟩
      rw [← HT.out] at he
      subst he
      have hbx2 := cell_keep hB2 hbx1
      have hby2 := cell_keep hB2 hby1
      have hB12 := Below.trans' hB1 hB2
      have ha2 := ha0.keep hB12
      have hb2 := hb0.keep hB12
      have hBa := Below.trans' hB0 hB12
      clear hbx1 hby1 ha0 hb0 hB0 hB1 hB2 hB12
      have hd2 : Below w2.heap.size w2 w2.drew := Below.drew (Below.refl _ _)
      go_upto_region 8 with fail
      go_cut [6, 7] (fun s6 s7 wx => ∃ (g : Nat) (aw : Option Addr) (cw : Nat), s6 = .pointer (some ⟨g, 0, none⟩) ∧ s7 = .int .i64 r.2 ∧ w2.heap.size ≤ g ∧ wx.heap[g]? = some (.cells #[.slice aw r.1.length cw] 29 (0, 0)) ∧ RowsAt wx aw r.1 ∧ Below w2.heap.size w2 wx)
      case first =>
        go_region_held3 (fun W => W.cell? ⟨w.heap.size, 0, none⟩ = some (.slice a xss.length c) ∧ W.cell? ⟨w.heap.size + 1, 0, none⟩ = some (.slice b yss.length d)) (exact ⟨cell_keep (by repeat (first | exact hd2 | exact Below.refl _ _ | refine Below.alloc' ?_ _ | refine Below.drew ?_ | (refine Below.trans' ?_ hB5) | (refine Below.trans' ?_ hB4) | (refine Below.trans' ?_ hB3) | (refine Below.setCell ?_ (by first | exact Nat.le_refl _ | (simp; omega)) _))) hbx2, cell_keep (by repeat (first | exact hd2 | exact Below.refl _ _ | refine Below.alloc' ?_ _ | refine Below.drew ?_ | (refine Below.trans' ?_ hB5) | (refine Below.trans' ?_ hB4) | (refine Below.trans' ?_ hB3) | (refine Below.setCell ?_ (by first | exact Nat.le_refl _ | (simp; omega)) _))) hby2⟩) (first | (go_at_call 12; (with_reducible refine (toGame_any _ _ xss _ (ha2.keep (by repeat (first | exact hd2 | exact Below.refl _ _ | refine Below.alloc' ?_ _ | refine Below.drew ?_ | (refine Below.trans' ?_ hB5) | (refine Below.trans' ?_ hB4) | (refine Below.trans' ?_ hB3) | (refine Below.setCell ?_ (by first | exact Nat.le_refl _ | (simp; omega)) _)))) hsm).mono ?_); rintro e w3 ⟨a3, c3, rfl, hg3, hB3⟩; (have hz3 : w2.heap.size ≤ w3.heap.size := by (have hq := hB3.size); (try simp at hq); omega); (try have hb3 : Hid (w3.heap[w2.heap.size]? = some (.cells #[.slice none 0 0] 29 (0, 0))) := hide (box_keep (w := (w2.alloc (.cells #[.slice none 0 0] 29)).drew) (heap_alloc_new w2 _) hB3))) | (go_at_call 12; (with_reducible refine (toGame_any _ _ yss _ (hb2.keep (by repeat (first | exact hd2 | exact Below.refl _ _ | refine Below.alloc' ?_ _ | refine Below.drew ?_ | (refine Below.trans' ?_ hB5) | (refine Below.trans' ?_ hB4) | (refine Below.trans' ?_ hB3) | (refine Below.setCell ?_ (by first | exact Nat.le_refl _ | (simp; omega)) _)))) hst).mono ?_); rintro e w4 ⟨a4, c4, rfl, hg4, hB4⟩; (have hz4 : w2.heap.size ≤ w4.heap.size := by (have hq := hB4.size); (try simp at hq); omega); (first | have hb4 : Hid (w4.heap[w2.heap.size]? = some (.cells #[.slice none 0 0] 29 (0, 0))) := hide (box_keep hb3.out hB4) | have hb4 : Hid (w4.heap[w3.heap.size]? = some (.cells #[.slice none 0 0] 29 (0, 0))) := hide (box_kept hB4) | skip)) | (go_at_call 23; (with_reducible refine (specSum_any _ _ _ _ xss yss _ (hg3.keep (by repeat (first | exact hd2 | exact Below.refl _ _ | refine Below.alloc' ?_ _ | refine Below.drew ?_ | (refine Below.trans' ?_ hB5) | (refine Below.trans' ?_ hB4) | (refine Below.trans' ?_ hB3) | (refine Below.setCell ?_ (by first | exact Nat.le_refl _ | (simp; omega)) _)))).reads hsm (hg4.keep (by repeat (first | exact hd2 | exact Below.refl _ _ | refine Below.alloc' ?_ _ | refine Below.drew ?_ | (refine Below.trans' ?_ hB5) | (refine Below.trans' ?_ hB4) | (refine Below.trans' ?_ hB3) | (refine Below.setCell ?_ (by first | exact Nat.le_refl _ | (simp; omega)) _)))).reads hst).mono ?_); rw [← HR.out]; rintro e w5 ⟨aw, cw, rfl, hrw, hB5⟩; (have hz5 : w2.heap.size ≤ w5.heap.size := by (have hq := hB5.size); (try simp at hq); omega); (first | have hb5 : Hid (w5.heap[w2.heap.size]? = some (.cells #[.slice none 0 0] 29 (0, 0))) := hide (box_keep hb4.out hB5) | have hb5 : Hid (w5.heap[w3.heap.size]? = some (.cells #[.slice none 0 0] 29 (0, 0))) := hide (box_keep hb4.out hB5) | have hb5 : Hid (w5.heap[w4.heap.size]? = some (.cells #[.slice none 0 0] 29 (0, 0))) := hide (box_kept hB5) | skip); (try have hc5 := (cell_of_row w5 _ 0 _ _ (0, 0) hb5.out).trans rfl); (try have hf5 := frozen_of_row w5 _ 0 _ _ hb5.out)))
        all_goals (go_wp2_with fail; go_meet; first | exact ⟨_, aw, cw, rfl, rfl, by omega, heap_alloc_new w5 _, (hrw w5 (fun _ _ => rfl)).keep (Below.alloc' (Below.refl _ _) _), (by repeat (first | exact hd2 | exact Below.refl _ _ | refine Below.alloc' ?_ _ | refine Below.drew ?_ | (refine Below.trans' ?_ hB5) | (refine Below.trans' ?_ hB4) | (refine Below.trans' ?_ hB3) | (refine Below.setCell ?_ (by first | exact Nat.le_refl _ | (simp; omega)) _)))⟩ | exact ⟨_, aw, cw, rfl, rfl, by omega, box_set hb5.out _, hrw _ (fun k hk => Below.heap_setCell _ _ _ _ (by (try have hl := block_lt hb4.out); (have hq := hk); (try simp at hq); first | omega | (simp; omega))), (by repeat (first | exact hd2 | exact Below.refl _ _ | refine Below.alloc' ?_ _ | refine Below.drew ?_ | (refine Below.trans' ?_ hB5) | (refine Below.trans' ?_ hB4) | (refine Below.trans' ?_ hB3) | (refine Below.setCell ?_ (by first | exact Nat.le_refl _ | (simp; omega)) _)))⟩)
      case rest =>
        obtain ⟨g, aw, cw, rfl, rfl, hg2, hgb, hrw, hB2c⟩ := hcut
        have hbxc := cell_keep hB2c hbx2
        have hbyc := cell_keep hB2c hby2
        have HBXC := hide hbxc
        have HBYC := hide hbyc
        have hac := ha2.keep hB2c
        have hbc := hb2.keep hB2c
        have HAC := hide hac
        have HBC := hide hbc
        have hBb := Below.trans' hBa hB2c
        have HRW := hide hrw
        have HGB := hide hgb
        clear hbx2 hby2 ha2 hb2 hd2 hrw hgb hBa
        go_wp2_with fail
        refine (toGame_any _ _ xss _ hac hsm).mono ?_
        rintro e w6 ⟨a6, c6, rfl, hg6, hB6⟩
        have hBx : Below w6.heap.size w6 (w6.alloc (.cells #[.slice a6 xss.length c6] 29)) := (Below.refl _ _).alloc (Nat.le_refl _) _
        have hx : (w6.alloc (.cells #[.slice a6 xss.length c6] 29)).cell? ⟨w6.heap.size, 0, none⟩ = some (.slice a6 xss.length c6) := by simp [go_sem]
        have hB6x := Below.trans' hB6 hBx
        have hbx6 := cell_keep hB6x hbxc
        have hby6 := cell_keep hB6x hbyc
        have ha6 := hac.keep hB6x
        have hb6 := hbc.keep hB6x
        have hg6' := hg6.keep hBx
        clear hbxc hbyc hac hbc hg6
        go_wp2_with fail
        refine (toGame_any _ _ yss _ hb6 hst).mono ?_
        rintro e w7 ⟨a7, c7, rfl, hg7, hB7⟩
        have hBy : Below w7.heap.size w7 (w7.alloc (.cells #[.slice a7 yss.length c7] 29)) := (Below.refl _ _).alloc (Nat.le_refl _) _
        have hy : (w7.alloc (.cells #[.slice a7 yss.length c7] 29)).cell? ⟨w7.heap.size, 0, none⟩ = some (.slice a7 yss.length c7) := by simp [go_sem]
        have hB7y := Below.trans' hB7 hBy
        have hbx7 := cell_keep hB7y hbx6
        have hby7 := cell_keep hB7y hby6
        have hx7 := cell_keep hB7y hx
        have ha7 := ha6.keep hB7y
        have hb7 := hb6.keep hB7y
        have hg67 := hg6'.keep hB7y
        have hg77 := hg7.keep hBy
        clear hbx6 hby6 ha6 hb6 hg6' hx hg7
        have hcwc : wc.cell? ⟨g, 0, none⟩ = some (.slice aw r.1.length cw) := (cell_of_row wc g 0 _ _ (0, 0) HGB.out).trans rfl
        have HCW := hide hcwc
        have hX6 : (w6.alloc (.cells #[.slice a6 xss.length c6] 29)).heap[w6.heap.size]? = some (.cells #[.slice a6 xss.length c6] 29 (0, 0)) := heap_alloc_new w6 _
        have HX7 := hide (box_keep hX6 hB7y)
        have HY7 := hide (heap_alloc_new w7 (.cells #[.slice a7 yss.length c7] 29))
        have hlo6 : (w6.alloc (.cells #[.slice a6 xss.length c6] 29)).heap.size = w6.heap.size + 1 := by simp
        have hlo7 : (w7.alloc (.cells #[.slice a7 yss.length c7] 29)).heap.size = w7.heap.size + 1 := by simp
        have hs67 := hB7.size
        have hsc6 := hB6.size
        have HGX := hide hg67
        have HGY := hide hg77
        have HVC := hide (Below.trans' hB6x hB7y)
        clear hcwc hX6 hB6 hB7 hB6x hB7y hBx hBy
        go_wp2_with fail
        refine (implSum_any _ _ _ _ xss yss _ HGX.out.reads hsm HGY.out.reads hst).mono ?_
        rw [← HR.out]
        rintro e w8 ⟨ag, cg, ls, rfl, hgl, hB8⟩
        have hBg : Below w8.heap.size w8 (w8.alloc (.cells #[.slice ag r.1.length cg] 29)) := (Below.refl _ _).alloc (Nat.le_refl _) _
        have hB8g := Below.trans' hB8 hBg
        have hs78 := hB8.size
        have HG8 := hide (heap_alloc_new w8 (.cells #[.slice ag r.1.length cg] 29))
        have HGL := hide (hgl.keep hBg)
        have hlen := hgl.len
        have htot := hgl.tot
        have HX8 := hide (box_keep HX7.out hB8g)
        have HY8 := hide (box_keep HY7.out hB8g)
        have HGX8 := hide (HGX.out.keep hB8g)
        have HGY8 := hide (HGY.out.keep hB8g)
        have HV8 := hide (Below.trans' HVC.out hB8g)
        have HBX := hide (cell_keep hB8g hbx7)
        have HBY := hide (cell_keep hB8g hby7)
        have HA8 := hide (ha7.keep hB8g)
        have HB8r := hide (hb7.keep hB8g)
        clear hgl hB8 hBg hB8g hbx7 hby7 ha7 hb7 hg67 hg77 hx7 hy HGX HGY HVC HX7 HY7
        have hs8 : (w8.alloc (.cells #[.slice ag r.1.length cg] 29)).heap.size = w8.heap.size + 1 := by simp
        have hcw8 := cell_keep HV8.out HCW.out
        have hrw8 := HRW.out.keep HV8.out
        go_wp2_with fail
        obtain ⟨W8, hW8⟩ : ∃ W8, W8 = w8.alloc (.cells #[.slice ag r.1.length cg] 29) := ⟨_, rfl⟩
        rw [← hW8] at HG8 HGL HX8 HY8 HGX8 HGY8 HV8 HBX HBY HA8 HB8r hs8 hcw8 hrw8 ⊢
        clear hW8
        refine (eqGame_same _ _ _ _ r.1 _ HGL.out.reads hrw8 HSM.out).mono ?_
        rintro e w9 ⟨rfl, hB9⟩
        clear hcw8 hrw8
        go_wp2_with fail
        have hd9 : Below W8.heap.size W8 w9.drew := Below.drew hB9
        have hbxd := cell_keep hd9 HBX.out
        have hxd : w9.drew.cell? ⟨w6.heap.size, 0, none⟩ = some (.slice a6 xss.length c6) := (cell_of_row _ _ 0 _ _ (0, 0) (box_keep HX8.out hd9)).trans rfl
        have had := HA8.out.keep hd9
        have hrd := (HGX8.out.keep hd9).reads
        go_region_held3 (fun W => W.cell? ⟨w.heap.size, 0, none⟩ = some (.slice a xss.length c) ∧ W.cell? ⟨w6.heap.size, 0, none⟩ = some (.slice a6 xss.length c6) ∧ Below w9.drew.heap.size w9.drew W) (first | (exact ⟨hbxd, hxd, Below.refl _ _⟩) | (exact ⟨cell_keep hB10 hbxd, cell_keep hB10 hxd, hB10⟩) | (exact ⟨cell_keep hB11 (cell_keep hB10 hbxd), cell_keep hB11 (cell_keep hB10 hxd), Below.trans' hB10 hB11⟩)) (first | (go_at_call 12; refine (toGame_any _ _ xss _ had hsm).mono ?_; rintro e w10 ⟨a10, c10, rfl, hg10, hB10⟩) | (go_at_call 15; refine (eqGame_same _ _ _ _ xss _ (hrd.keep hB10) hg10.reads hsm).mono ?_; rintro e w11 ⟨rfl, hB11⟩))
        have hV11 := Below.trans' hd9 (Below.trans' hB10 hB11)
        clear hbxd hxd had hrd hd9 hB9 hg10 hB10 hB11
        go_wp2_with fail
        have hd11 : Below W8.heap.size W8 w11.drew := Below.drew hV11
        have hbyd := cell_keep hd11 HBY.out
        have hyd : w11.drew.cell? ⟨w7.heap.size, 0, none⟩ = some (.slice a7 yss.length c7) := (cell_of_row _ _ 0 _ _ (0, 0) (box_keep HY8.out hd11)).trans rfl
        have hbd := HB8r.out.keep hd11
        have hrd := (HGY8.out.keep hd11).reads
        go_region_held3 (fun W => W.cell? ⟨w.heap.size + 1, 0, none⟩ = some (.slice b yss.length d) ∧ W.cell? ⟨w7.heap.size, 0, none⟩ = some (.slice a7 yss.length c7) ∧ Below w11.drew.heap.size w11.drew W) (first | (exact ⟨hbyd, hyd, Below.refl _ _⟩) | (exact ⟨cell_keep hB12 hbyd, cell_keep hB12 hyd, hB12⟩) | (exact ⟨cell_keep hB13 (cell_keep hB12 hbyd), cell_keep hB13 (cell_keep hB12 hyd), Below.trans' hB12 hB13⟩)) (first | (go_at_call 12; refine (toGame_any _ _ yss _ hbd hst).mono ?_; rintro e w12 ⟨a12, c12, rfl, hg12, hB12⟩) | (go_at_call 15; refine (eqGame_same _ _ _ _ yss _ (hrd.keep hB12) hg12.reads hst).mono ?_; rintro e w13 ⟨rfl, hB13⟩))
        have hV13 := Below.trans' hd11 (Below.trans' hB12 hB13)
        clear hbyd hyd hbd hrd hd11 hV11 hg12 hB12 hB13
        have hs13 := hV13.size
        have hx13 : w13.cell? ⟨w6.heap.size, 0, none⟩ = some (.slice a6 xss.length c6) := (cell_of_row _ _ 0 _ _ (0, 0) (box_keep HX8.out hV13)).trans rfl
        go_wp2_with fail
        -- the arguments' copies marked: the answer is as it was
        have hxl := hsm.1
        have hyl := hst.1
        refine (markGame_k _ _ xss 1 wc.heap.size w6.heap.size _ (HGX8.out.keep hV13) hsm (by omega) (by omega) (by omega)).mono ?_
        rintro e w14 ⟨t1, rfl, ht1, hu1, hM1⟩
        have hBm : Below w13.heap.size w13 (w13.alloc (.cells #[.slice a6 xss.length c6] 29)) := (Below.refl _ _).alloc (Nat.le_refl _) _
        have hVm := Below.trans' hV13 hBm
        have HV14 := hide ((Below.trans' HV8.out hVm).trans (hM1.below (fun k hk => hk.1)))
        have hGY14 := hM1.gridOwn (HGY8.out.keep hVm) (fun k hk => by have := hk.2.1; omega)
        have hk14 : ∀ k, w6.heap.size ≤ k → k < W8.heap.size → w14.heap[k]? = W8.heap[k]? := fun k h1 h2 => (hM1.block k (fun hk => by have := hk.2.1; omega)).trans (hVm.block k h2)
        have hY14 := (hk14 w7.heap.size (by omega) (by omega)).trans HY8.out
        have hy14 : w14.cell? ⟨w7.heap.size, 0, none⟩ = some (.slice a7 yss.length c7) := (cell_of_row _ _ 0 _ _ (0, 0) hY14).trans rfl
        have hs14 : w14.heap.size = w13.heap.size + 1 := by rw [hM1.size]; simp
        have HK14 := hide hk14
        have HGY14 := hide hGY14
        clear hM1 hx13 hBm hVm hGY14 hk14 hY14 hV13
        go_wp2_with fail
        refine (markGame_k _ _ yss t1 (w6.heap.size + 1) w7.heap.size _ (by have := HGY14.out; rwa [hlo6] at this) hst (by omega) (by omega) (by omega)).mono ?_
        rintro e w15 ⟨t2, rfl, ht2, hu2, hM2⟩
        have hBm : Below w14.heap.size w14 (w14.alloc (.cells #[.slice a7 yss.length c7] 29)) := (Below.refl _ _).alloc (Nat.le_refl _) _
        have HV15 := hide ((Below.trans' HV14.out hBm).trans (hM2.below (fun k hk => by have := hk.1; omega)))
        have hk15 : ∀ k, w7.heap.size ≤ k → k < W8.heap.size → w15.heap[k]? = W8.heap[k]? := fun k h1 h2 => ((hM2.block k (fun hk => by have := hk.2.1; omega)).trans (hBm.block k (by omega))).trans (HK14.out k (by omega) h2)
        have hs15 : w15.heap.size = w14.heap.size + 1 := by rw [hM2.size]; simp
        have hG15 := (hk15 w8.heap.size (by omega) (by omega)).trans HG8.out
        have hgl15 := HGL.out.agree (fun k h1 h2 => hk15 k (by omega) h2)
        have hcg15 : w15.cell? ⟨w8.heap.size, 0, none⟩ = some (.slice ag r.1.length cg) := (cell_of_row _ _ 0 _ _ (0, 0) hG15).trans rfl
        have hcw15 := cell_keep HV15.out HCW.out
        have hrw15 := HRW.out.keep HV15.out
        have HG15 := hide hG15
        have HGL15 := hide hgl15
        clear hM2 hy14 hBm hk15 hG15 hgl15 HK14 HGY14 HV14
        go_wp2_with fail
        refine (eqGame_same _ _ _ _ r.1 _ HGL15.out.reads hrw15 HSM.out).mono ?_
        rintro e w16 ⟨rfl, hB16⟩
        have hs16 := hB16.size
        have hG16 := box_keep HG15.out hB16
        have hcg16 : w16.cell? ⟨w8.heap.size, 0, none⟩ = some (.slice ag r.1.length cg) := (cell_of_row _ _ 0 _ _ (0, 0) hG16).trans rfl
        have HG16 := hide hG16
        have HGL16 := hide (HGL15.out.keep hB16)
        have HV16 := hide (HV15.out.trans (hB16.mono HV15.out.size))
        clear hG16 hB16 hcg15 hcw15 hrw15 HV15 HG15 HGL15
        go_wp2_with fail
        -- the answer marked
        refine (markGame_leaves _ _ (w7.heap.size + 1) r.1 ls _ (by have := HGL16.out; rwa [hlo7] at this) hrl (by omega)).mono ?_
        rintro e w17 ⟨rfl, hm17, hrow17, hB17, hK17⟩
        have hG17 := hK17 _ _ _ (by decide) HG16.out
        have hcg17 : w17.cell? ⟨w8.heap.size, 0, none⟩ = some (.slice ag r.1.length cg) := (cell_of_row _ _ 0 _ _ (0, 0) hG17).trans rfl
        have HV17 := hide (HV16.out.trans (hB17.mono (by omega)))
        have HG17 := hide hG17
        have HM17 := hide hm17
        have HRO17 := hide hrow17
        clear hcg16 hB17 hK17 HG16 HGL16 HV16 hG17 hm17 hrow17
        go_wp2_with fail
        refine (heldGame_leaves _ _ _ ls _ hlen HRO17.out HM17.out hrl htot).mono ?_
        rintro e w19 ⟨rfl, hB19⟩
        have HRO19 := hide (HRO17.out.keep hB19)
        have HM19 := hide (HM17.out.keep hB19)
        have HG19 := hide (box_keep HG17.out hB19)
        have HV19 := hide (HV17.out.trans (hB19.mono HV17.out.size))
        have hbx19 := cell_keep HV19.out HBXC.out
        have hby19 := cell_keep HV19.out HBYC.out
        have ha19 := HAC.out.keep HV19.out
        have hb19 := HBC.out.keep HV19.out
        have hd19 : Below w19.heap.size w19 w19.drew := Below.drew (Below.refl _ _)
        clear hcg17 hB19 HV17 HG17 HM17 HRO17
        -- called again
        go_upto_region 31 with fail
        go_cut [15, 16] (fun s15 s16 wx => ∃ (g2 : Nat) (ah : Option Addr) (ch : Nat), s15 = .pointer (some ⟨g2, 0, none⟩) ∧ s16 = .int .i64 r.2 ∧ w19.heap.size ≤ g2 ∧ wx.heap[g2]? = some (.cells #[.slice ah r.1.length ch] 29 (0, 0)) ∧ RowsAt wx ah r.1 ∧ Below w19.heap.size w19 wx)
        case first =>
          go_region_held3 (fun W => W.cell? ⟨w.heap.size, 0, none⟩ = some (.slice a xss.length c) ∧ W.cell? ⟨w.heap.size + 1, 0, none⟩ = some (.slice b yss.length d)) (exact ⟨cell_keep (by repeat (first | exact hd19 | exact Below.refl _ _ | refine Below.alloc' ?_ _ | refine Below.drew ?_ | (refine Below.trans' ?_ hB22) | (refine Below.trans' ?_ hB21) | (refine Below.trans' ?_ hB20) | (refine Below.setCell ?_ (by first | exact Nat.le_refl _ | (simp; omega)) _))) hbx19, cell_keep (by repeat (first | exact hd19 | exact Below.refl _ _ | refine Below.alloc' ?_ _ | refine Below.drew ?_ | (refine Below.trans' ?_ hB22) | (refine Below.trans' ?_ hB21) | (refine Below.trans' ?_ hB20) | (refine Below.setCell ?_ (by first | exact Nat.le_refl _ | (simp; omega)) _))) hby19⟩) (first | (go_at_call 12; (with_reducible refine (toGame_any _ _ xss _ (ha19.keep (by repeat (first | exact hd19 | exact Below.refl _ _ | refine Below.alloc' ?_ _ | refine Below.drew ?_ | (refine Below.trans' ?_ hB22) | (refine Below.trans' ?_ hB21) | (refine Below.trans' ?_ hB20) | (refine Below.setCell ?_ (by first | exact Nat.le_refl _ | (simp; omega)) _)))) hsm).mono ?_); rintro e w20 ⟨a20, c20, rfl, hg20, hB20⟩; (have hz20 : w19.heap.size ≤ w20.heap.size := by (have hq := hB20.size); (try simp at hq); omega); (try have hk20 : Hid (w20.heap[w19.heap.size]? = some (.cells #[.slice none 0 0] 29 (0, 0))) := hide (box_keep (w := (w19.alloc (.cells #[.slice none 0 0] 29)).drew) (heap_alloc_new w19 _) hB20))) | (go_at_call 12; (with_reducible refine (toGame_any _ _ yss _ (hb19.keep (by repeat (first | exact hd19 | exact Below.refl _ _ | refine Below.alloc' ?_ _ | refine Below.drew ?_ | (refine Below.trans' ?_ hB22) | (refine Below.trans' ?_ hB21) | (refine Below.trans' ?_ hB20) | (refine Below.setCell ?_ (by first | exact Nat.le_refl _ | (simp; omega)) _)))) hst).mono ?_); rintro e w21 ⟨a21, c21, rfl, hg21, hB21⟩; (have hz21 : w19.heap.size ≤ w21.heap.size := by (have hq := hB21.size); (try simp at hq); omega); (first | have hk21 : Hid (w21.heap[w19.heap.size]? = some (.cells #[.slice none 0 0] 29 (0, 0))) := hide (box_keep hk20.out hB21) | have hk21 : Hid (w21.heap[w20.heap.size]? = some (.cells #[.slice none 0 0] 29 (0, 0))) := hide (box_kept hB21) | skip)) | (go_at_call 24; (with_reducible refine (implSum_any _ _ _ _ xss yss _ (hg20.keep (by repeat (first | exact hd19 | exact Below.refl _ _ | refine Below.alloc' ?_ _ | refine Below.drew ?_ | (refine Below.trans' ?_ hB22) | (refine Below.trans' ?_ hB21) | (refine Below.trans' ?_ hB20) | (refine Below.setCell ?_ (by first | exact Nat.le_refl _ | (simp; omega)) _)))).reads hsm (hg21.keep (by repeat (first | exact hd19 | exact Below.refl _ _ | refine Below.alloc' ?_ _ | refine Below.drew ?_ | (refine Below.trans' ?_ hB22) | (refine Below.trans' ?_ hB21) | (refine Below.trans' ?_ hB20) | (refine Below.setCell ?_ (by first | exact Nat.le_refl _ | (simp; omega)) _)))).reads hst).mono ?_); rw [← HR.out]; rintro e w22 ⟨ah, ch, lh, rfl, hgh, hB22⟩; (have hz22 : w19.heap.size ≤ w22.heap.size := by (have hq := hB22.size); (try simp at hq); omega); (first | have hk22 : Hid (w22.heap[w19.heap.size]? = some (.cells #[.slice none 0 0] 29 (0, 0))) := hide (box_keep hk21.out hB22) | have hk22 : Hid (w22.heap[w20.heap.size]? = some (.cells #[.slice none 0 0] 29 (0, 0))) := hide (box_keep hk21.out hB22) | have hk22 : Hid (w22.heap[w21.heap.size]? = some (.cells #[.slice none 0 0] 29 (0, 0))) := hide (box_kept hB22) | skip); (try have hc22 := (cell_of_row w22 _ 0 _ _ (0, 0) hk22.out).trans rfl); (try have hf22 := frozen_of_row w22 _ 0 _ _ hk22.out)))
          all_goals (go_wp2_with fail; go_meet; first | exact ⟨_, ah, ch, rfl, rfl, by omega, heap_alloc_new w22 _, hgh.reads.keep (Below.alloc' (Below.refl _ _) _), (by repeat (first | exact hd19 | exact Below.refl _ _ | refine Below.alloc' ?_ _ | refine Below.drew ?_ | (refine Below.trans' ?_ hB22) | (refine Below.trans' ?_ hB21) | (refine Below.trans' ?_ hB20) | (refine Below.setCell ?_ (by first | exact Nat.le_refl _ | (simp; omega)) _)))⟩ | exact ⟨_, ah, ch, rfl, rfl, by omega, box_set hk22.out _, (hgh.agree (fun k hk _ => Below.heap_setCell _ _ _ _ (by (try have hl := block_lt hk21.out); (have hq := hk); (try simp at hq); first | omega | (simp; omega)))).reads, (by repeat (first | exact hd19 | exact Below.refl _ _ | refine Below.alloc' ?_ _ | refine Below.drew ?_ | (refine Below.trans' ?_ hB22) | (refine Below.trans' ?_ hB21) | (refine Below.trans' ?_ hB20) | (refine Below.setCell ?_ (by first | exact Nat.le_refl _ | (simp; omega)) _)))⟩)
        case rest =>
          obtain ⟨g2, ah, ch, rfl, rfl, hg22, hgb2, hrh, hB2d⟩ := hcut
          have hch : wc.cell? ⟨g2, 0, none⟩ = some (.slice ah r.1.length ch) := (cell_of_row _ g2 0 _ _ (0, 0) hgb2).trans rfl
          have HVd := hide (HV19.out.trans (hB2d.mono HV19.out.size))
          have hcwd := cell_keep HVd.out HCW.out
          have hrwd := HRW.out.keep HVd.out
          have HROd := hide (HRO19.out.keep hB2d)
          have HMd := hide (HM19.out.keep hB2d)
          have HGd := hide (box_keep HG19.out hB2d)
          clear hgb2 hB2d hbx19 hby19 ha19 hb19 hd19 HRO19 HM19 HG19 HV19
          go_wp2_with fail
          refine (eqGame_same _ _ _ _ r.1 _ hrh hrwd HSM.out).mono ?_
          rintro e w23 ⟨rfl, hB23⟩
          have hcg23 : w23.cell? ⟨w8.heap.size, 0, none⟩ = some (.slice ag r.1.length cg) := (cell_of_row _ _ 0 _ _ (0, 0) (box_keep HGd.out hB23)).trans rfl
          have hrow23 := HROd.out.keep hB23
          have hm23 := HMd.out.keep hB23
          have HV23 := hide (HVd.out.trans (hB23.mono HVd.out.size))
          clear hch hcwd hrwd hrh hB23 HVd HROd HMd HGd
          go_wp2_with fail
          refine (heldGame_leaves _ _ _ ls _ hlen hrow23 hm23 hrl htot).mono ?_
          rintro e w24 ⟨rfl, hB24⟩
          have hfin : Below w.heap.size w w24 := hBb.trans ((HV23.out.trans (hB24.mono HV23.out.size)).mono hBb.size)
          clear hrow23 hm23 hcg23 hB24 HV23
          go_wp2_with fail
          go_ret
          exact ⟨rfl, hfin⟩

set_option maxRecDepth 100000 in
theorem lifted (os : Os) (started : os.Started) (H : Type) (enc : TypeId × Value → H) :
    ReturnsInHanded {} Try.checked os 6 .any (Rows.fnExactSumOfGamesSpec.pre6 enc Try.prog Try.f6 Rows.fnExactSumOfGamesRow.domain false) (Rows.fnExactSumOfGamesSpec.post enc Try.prog Try.f6 false true false false) := by
  refine returnsInHanded_of_change (C := Try.checked) own started (by kernel_rfl) Try.func6
    (ChangeSpec.witness6 (enc := enc) (C := Try.checked) false ⟨#[], #[.agg #[.slice none 0 0], .agg #[.slice none 0 0]], []⟩ 8 (by kernel_rfl) (by kernel_rfl) (by kernel_rfl) (by kernel_rfl)) ?_
  intro W base args ds gs before hval0 hW hcnd _
  have hval : ∀ (j : Nat) t v, Try.f6.params[j]? = some t → args[j]? = some v → Value.okWide Try.prog W .any base t v := hval0
  have hW' := hW
  obtain ⟨p, q, hA0, hV, rfl, hfz, hnd⟩ := hW
  have hA : DataW.TrodAll enc Try.prog W 0 (fun _ => true) true Try.f6.params.toList args.toList ds p := hA0
  rw [Try.params6] at hA hval
  obtain ⟨v0, vs0, d0, ds0, p0, q0, hargs, rfl, rfl, h0, r0⟩ := trodAll_cons hA
  obtain ⟨v1, vs1, d1, ds1, p1, q1, rfl, rfl, rfl, h1, r1⟩ := trodAll_cons r0
  obtain ⟨rfl, rfl, rfl⟩ := trodAll_nil r1
  obtain rfl : args = #[v0, v1] := by cases args; simp_all
  obtain ⟨rfl, rfl⟩ := trodVars_none hV
  have k0 := h0
  have lt0 : ∀ x ∈ p0, x.block < W.heap.size := by obtain ⟨m, hm⟩ := k0; exact DataW.trod_lt m _ _ _ hm
  obtain ⟨a0, c0, x0, rfl, e0, n0, f0⟩ := open_game (hval 0 24 v0 rfl rfl) h0
  have k1 := h1
  have lt1 : ∀ x ∈ p1, x.block < W.heap.size := by obtain ⟨m, hm⟩ := k1; exact DataW.trod_lt m _ _ _ hm
  obtain ⟨a1, c1, x1, rfl, e1, n1, f1⟩ := open_game (hval 1 24 v1 rfl rfl) h1
  clear hA0 hval0
  refine (walk a0 c0 x0 a1 c1 x1 W e0 n0 f0 e1 n1 f1).mono fun e W' ⟨he, bel⟩ => ?_
  subst he
  exact ⟨_, rfl, _, _, _, [], _, [], hW', trodAll_mk1 (shut_bool Try.underlying4 _), (trodAll_cons_mk (Below.trod laidOut (by kernel_rfl) (of_decide_eq_true (by kernel_rfl)) k0 bel lt0) (trodAll_cons_mk (Below.trod laidOut (by kernel_rfl) (of_decide_eq_true (by kernel_rfl)) k1 bel lt1) trodAll_mk0)), rfl, bel.frame _, fun h => by cases h⟩

theorem over : Rows.fnExactSumOfGamesRow.holds Try.pinned (OpenSpec.ofChange Rows.fnExactSumOfGamesSpec) :=
  OpenClaim.holds_of_wide 6 Try.f6 rfl rfl rfl rfl rfl rfl rfl ⟨rfl, rfl, rfl, rfl, rfl⟩ rfl rfl rfl rfl rfl (by kernel_rfl) Try.func6 (by kernel_rfl)
    (of_decide_eq_true (by kernel_rfl)) (by unfold Func.isWrapper; first | (rw [if_pos (by decide +kernel)]; kernel_rfl) | (rw [if_neg (by decide +kernel)]; exact ⟨rfl, rfl⟩))
    (fun os started H enc _ => lifted os started H enc)

theorem proved : Rows.FnExactSumOfGamesSaid := over
end Go.Proofs.Ytlgogpphlnogoaa.LawSumOfGames
