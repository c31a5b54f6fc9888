/-
  Dots and boxes: best edges, the model's text.
-/
import Derived.Test.YtincdnlinepcgabOb
import Derived.Deep.DeepCutAuto
namespace Go.Proofs.Ytincdnlinepcgab
open Go.RowKit Go.Maps
set_option linter.unusedVariables false

theorem Tab.drew {w h E0 : Int} {W : World} {bK : Nat} (ht : Tab w h E0 W bK) : Tab w h E0 W.drew bK := ht
theorem IntsAt.drew {W : World} {a : Option Addr} {zs : List Int} (h : IntsAt W a zs) : IntsAt W.drew a zs := h
theorem OwnB.drew {B n : Nat} {W0 w : World} {v : Value} {zs : List Int} (h : OwnB B n W0 w v zs) : OwnB B n W0 w.drew v zs := ⟨h.own, ⟨h.old.os, h.old.tape, h.old.output, h.old.size, h.old.block⟩, h.size⟩
theorem But.alloc {n : Nat} {a b : World} (h : But n a b) (o : Obj) : But n a (b.alloc o) := h.trans (But.of_below (below_alloc _ _))
theorem Tab.alloc {w h E0 : Int} {W : World} {bK : Nat} (ht : Tab w h E0 W bK) (o : Obj) : Tab w h E0 (W.alloc o) bK := ht.keep (below_alloc _ _)
theorem IntsAt.alloc {W : World} {a : Option Addr} {zs : List Int} (h : IntsAt W a zs) (o : Obj) : IntsAt (W.alloc o) a zs := h.keep (below_alloc _ _)
theorem OwnB.alloc {B n : Nat} {W0 w : World} {v : Value} {zs : List Int} (h : OwnB B n W0 w v zs) (hn : n < B) (o : Obj) : OwnB B n W0 (w.alloc o) v zs := h.keep hn (But.of_below (below_alloc _ _))
theorem cell_alloc {w : World} {p : Addr} {v : Value} (hc : w.cell? p = some v) (o : Obj) : (w.alloc o).cell? p = some v := cell_keep (below_alloc _ _) hc
theorem cell_drew {w : World} {p : Addr} {v : Value} (hc : w.cell? p = some v) : w.drew.cell? p = some v := hc

theorem own_base {w : World} {B c : Nat} {a : Option Addr} {k : Nat} {vs : List Value} {e : TypeId} (h : w.ownsRow B e 1 (.slice a k c) k vs) : ∀ g off, a = some ⟨g, off, none⟩ → B ≤ g := by
  intro g off ha
  rcases h.2 with ⟨hv, _⟩ | ⟨g', cap, cur, hv, hg, _⟩
  · simp at hv
    rw [hv.1] at ha
    cases ha
  · simp only [Value.slice.injEq] at hv
    rw [hv.1] at ha
    simp at ha
    omega
/-- The row's block is another than the list's. -/
def Apart (al : Option Addr) (v : Value) : Prop := ∀ g off, al = some ⟨g, off, none⟩ → v.ownBlock ≠ some g
theorem IntsAt.grown {w w' : World} {row : Option Nat} {al : Option Addr} {zs : List Int} (h : IntsAt w al zs) (hg : w.grownBy w' row) (hne : ∀ g off, al = some ⟨g, off, none⟩ → row ≠ some g) : IntsAt w' al zs := by
  intro hz
  obtain ⟨b, off, rfl, hc⟩ := h hz
  refine ⟨b, off, rfl, fun i hi => ?_⟩
  have h1 := hc i hi
  rw [List.getElem?_eq_getElem hi] at h1 ⊢
  exact (World.cell?_of_block (hg.block b (World.block_lt_of_cell? w _ h1) (fun e => hne b off rfl e.symm))).trans h1
theorem Tab.grown {w h E0 : Int} {W W' : World} {bK : Nat} {row : Option Nat} (ht : Tab w h E0 W bK) (hg : W.grownBy W' row) (hne : row ≠ some bK) : Tab w h E0 W' bK := by
  obtain ⟨Lt, h1, h2, h3⟩ := ht
  exact ⟨Lt, (hg.block bK (block_lt h1) (fun e => hne e.symm)).trans h1, h2, h3⟩
theorem OwnB.far {B n : Nat} {W0 w : World} {v : Value} {zs : List Int} (h : OwnB B n W0 w v zs) {k : Nat} (hk : k < B) : v.ownBlock ≠ some k := by
  rcases h.own.2 with ⟨hv, _⟩ | ⟨g', cap, cur, hv, hg, _⟩
  · rw [hv]; simp [Value.ownBlock]
  · rw [hv]; simp [Value.ownBlock]; omega
theorem Apart.next {al : Option Addr} {v v' : Value} {w : World} {zs : List Int} (h : Apart al v) (hz : IntsAt w al zs) (hne : zs ≠ []) {m : Nat} (hm : w.heap.size ≤ m) (hb : v'.ownBlock = v.ownBlock ∨ v'.ownBlock = some m) : Apart al v' := by
  intro g off ha hv
  rcases hb with h1 | h1
  · exact h g off ha (h1.symm.trans hv)
  · obtain ⟨g', off', e', hlt⟩ := CellsAt.lt hz (by simpa using hne)
    rw [ha] at e'
    cases e'
    rw [h1] at hv
    cases hv
    omega

set_option maxRecDepth 100000 in
set_option maxHeartbeats 8000000 in
theorem specBest_any (w h E0 E : Int) (af : Option Addr) (cf nf M bK : Nat) (W : World) (b0 : okBox w h E0 = true) (hb : okBox w h E = true) (hx : Ext E0 E) (hnf : nf = (freeE w h E0).length) (hl : nf ≤ 12) (hM : M = 2 ^ nf) (hfa : IntsAt W af (freeE w h E0))
    (hfar : ∀ g off, af = some ⟨g, off, none⟩ → g < W.heap.size ∧ g ≠ bK) (hT : Tab w h E0 W bK) :
    Calls Try.prog 34 #[.agg #[.int .i64 w, .int .i64 h, .int .i64 E], .slice af nf cf, .slice (some ⟨bK, 0, none⟩) M M] W fun e W' => NewLB bK (bestL w h E) W e W' ∧ Tab w h E0 W' bK := by
  obtain ⟨i0, hi0, hz0, hz1, hz2⟩ := info_parts Try.info2
  have hbel := below_alloc W (.cells #[.int .i64 w, .int .i64 h, .int .i64 E] 26)
  have hrow0 := hide (heap_alloc_new W (.cells #[.int .i64 w, .int .i64 h, .int .i64 E] 26 (0, 0)))
  have hF0 := hide (hfa.keep hbel)
  have hT0 := hide (hT.keep hbel)
  have hKlt : bK < W.heap.size := hT.lt
  have hB0 := hide hbel
  have HB0 := hide b0
  have HB := hide hb
  have HX := hide hx
  have HFAR := hide hfar
  have HNF := hide hnf
  have HM := hide hM
  obtain ⟨W0, hW0⟩ : ∃ W0, W0 = W.alloc (.cells #[.int .i64 w, .int .i64 h, .int .i64 E] 26) := ⟨_, rfl⟩
  rw [← hW0] at hrow0 hF0 hT0 hB0
  have hs0 : Hid (W0.heap.size = W.heap.size + 1) := by rw [hW0]; exact hide (by simp)
  obtain ⟨n, hn⟩ : ∃ n, n = nfree w h E := ⟨_, rfl⟩
  obtain ⟨fr, hfr⟩ : ∃ fr, fr = freeE w h E := ⟨_, rfl⟩
  have hnl : Hid (n = fr.length) := hide (by rw [hn, hfr]; rfl)
  have hn24 : n ≤ 24 := by rw [hn]; exact freeE_le hb
  obtain ⟨L, hL⟩ : ∃ L, L = bestK w h E := ⟨_, rfl⟩
  obtain ⟨nt, hnt⟩ : ∃ nt, nt = net w h E := ⟨_, rfl⟩
  have HNN := hide hn
  have HFR := hide hfr
  have HL := hide hL
  have HNT := hide hnt
  clear hbel hfa hT b0 hb hx hfar hnf hM hn hfr hL hnt
  obtain ⟨c0, c1, c2⟩ := boxIn_of_row hrow0.out
  go_enter Try.func34, Try.ntmps34
  go_upto_region 1 with fail
  rw [← hW0]
  clear hW0
  go_cut [7, 8, 9] (fun s7 s8 s9 wx => ∃ (al : Option Addr) (cl : Nat), s7 = .slice al n cl ∧ s8 = .int .i64 nt ∧ IntsAt wx al fr ∧ (∀ g off, al = some ⟨g, off, none⟩ → g ≠ bK) ∧ Apart al s9 ∧ OwnB W0.heap.size bK W0 wx s9 [] ∧ Tab w h E0 wx bK ∧ But bK W0 wx)
  case first =>
    go_region_held3 (fun W' => W'.cell? ⟨W.heap.size, 0, none⟩ = some (.int .i64 w) ∧ W'.cell? ⟨W.heap.size, 1, none⟩ = some (.int .i64 h) ∧ W'.cell? ⟨W.heap.size, 2, none⟩ = some (.int .i64 E))
      (refine ⟨?_, ?_, ?_⟩ <;> (repeat (first | with_reducible exact c0 | with_reducible exact c1 | with_reducible exact c2 | with_reducible refine cell_alloc ?_ _ | with_reducible refine cell_drew ?_ | with_reducible refine cell_keep HB3.out ?_ | with_reducible refine HB4.out.cell ?_ (by have := hs0.out; have := hKlt; show W.heap.size ≠ bK; omega))))
      (first | (go_at_call 28; refine (specFree_any w h E HB.out _).mono ?_; rw [← HFR.out]; rintro e w3 ⟨al, cl, rfl, hol, hb3⟩; rw [← hnl.out]; have HB3 := hide hb3; have HOL := hide hol; clear hb3 hol) | (go_at_call 29; refine (specScore_any w h E0 af cf nf M bK HB0.out HNF.out hl HM.out (fun g off ha => (HFAR.out g off ha).2) (nfree w h E) E _ HB.out HX.out (Nat.le_refl _) (by repeat (first | with_reducible exact hF0.out | with_reducible refine IntsAt.alloc ?_ _ | with_reducible refine IntsAt.drew ?_ | with_reducible refine IntsAt.keep ?_ HB3.out)) (by repeat (first | with_reducible exact hT0.out | with_reducible refine Tab.alloc ?_ _ | with_reducible refine Tab.drew ?_ | with_reducible refine Tab.keep ?_ HB3.out))).mono ?_; rw [← HNT.out]; rintro e w4 ⟨rfl, hb4, hk4⟩; have HB4 := hide hb4; have HK4 := hide hk4; clear hb4 hk4))
    all_goals (go_wp2_with fail; go_meet)
    all_goals
      have hZ3 : W0.heap.size ≤ w3.heap.size := by
        have z3 := HB3.out.size
        first
          | exact z3
          | (have z5 : W0.heap.size + 1 = (W0.alloc (.cells #[] 2)).drew.heap.size := by
               show _ = (W0.alloc (.cells #[] 2)).heap.size
               simp
             omega)
      have hZ4 : w3.heap.size ≤ w4.heap.size := by
        have z4 := HB4.out.size
        first
          | exact z4
          | (simp at z4; omega)
      have hbK0 : bK < W0.heap.size := by rw [hs0.out]; omega
      have hbd : ∀ X : World, W0.heap.size ≤ X.heap.size → bK < X.heap.size := fun X hX => Nat.lt_of_lt_of_le hbK0 hX
      have hfr := own_far HOL.out (hbd _ (by first | exact Nat.le_refl _ | (show W0.heap.size ≤ (W0.alloc (.cells #[] 2)).heap.size; simp)))
      have hlt := own_lt HOL.out
      have hin := intsAt_of_ownsRow HOL.out
      refine ⟨al, cl, rfl, rfl, ?_, hfr, ?_, ?_, ?_, ?_⟩
      · repeat (first | with_reducible exact hin | with_reducible refine IntsAt.alloc ?_ _ | with_reducible refine IntsAt.drew ?_ | with_reducible refine HB4.out.ints ?_ hfr)
      · intro g off ha hv
        have h1 := hlt g off ha
        have h2 := own_base HOL.out g off ha
        simp [Value.ownBlock] at hv
        first
          | omega
          | (have h3 : W0.heap.size + 1 ≤ g := by
               have h4 : (W0.alloc (.cells #[] 2)).heap.size ≤ g := h2
               simpa using h4
             omega)
      · repeat (first | (with_reducible refine OwnB.made (But.butB ?_ (Nat.le_refl _)) ?_) | with_reducible refine OwnB.drew ?_ | with_reducible refine OwnB.keep ?_ hbK0 HB4.out | with_reducible refine OwnB.keep ?_ hbK0 (But.of_below HB3.out))
        · (repeat (first | with_reducible exact But.refl _ _ | with_reducible refine But.alloc ?_ _ | with_reducible refine But.drew ?_ | with_reducible refine But.trans ?_ HB4.out | with_reducible refine But.trans ?_ (But.of_below HB3.out)))
        · first
            | exact Nat.le_refl _
            | omega
      · first
          | exact HK4.out
          | exact HK4.out.alloc _
      · (repeat (first | with_reducible exact But.refl _ _ | with_reducible refine But.alloc ?_ _ | with_reducible refine But.drew ?_ | with_reducible refine But.trans ?_ HB4.out | with_reducible refine But.trans ?_ (But.of_below HB3.out)))
  case rest =>
    obtain ⟨al, cl, rfl, rfl, hin, hfl, hap, hO, hTc, hBc⟩ := hcut
    have hO1 := hide hO
    have hI1 := hide hin
    have hA1 := hide hap
    have hT1 := hide hTc
    have HFL := hide hfl
    clear hin hap hO hTc hBc hfl c0 c1 c2
    go_wp2_with fail
    go_loopg [9, 10] n (fun g v i wr => ∃ (j : Nat) (v0 : Value), v0 = v ∧ j + g = n ∧ i = .int .i64 j ∧ OwnB W0.heap.size bK W0 wr v (L j) ∧ IntsAt wr al fr ∧ Apart al v ∧ Tab w h E0 wr bK)
    case atStart => exact ⟨0, _, rfl, by omega, rfl, by rw [HL.out]; exact hO1.out, hI1.out, hA1.out, hT1.out⟩
    case round =>
      clear hO1 hI1 hA1 hT1
      obtain ⟨j, v, rfl, hjg, rfl, hO, hI, hA, hT⟩ := hrel
      have HO := hide hO
      have HI := hide hI
      have HA := hide hA
      have HTT := hide hT
      cases gk with
      | zero =>
        obtain rfl : j = n := by omega
        have hfin := hide (hO.list (But.of_below hB0.out) hB0.out.size)
        have hLn : Hid (L j = bestL w h E) := hide (by rw [HL.out, HNN.out]; exact bestK_all w h E)
        clear hO hI hA hT
        go_wp2_with fail
        go_ret
        rw [← hLn.out]
        exact ⟨hfin.out, HTT.out⟩
      | succ g =>
        have hjn : j < n := by omega
        have hjl : j < fr.length := by rw [← hnl.out]; exact hjn
        obtain ⟨bl, off, e, rfl, hce, he⟩ := hI.one (k := j) hjl
        have heF : e ∈ freeE w h E := by rw [← HFR.out]; exact List.mem_of_getElem? he.out
        have heG : (freeE w h E)[j]? = some e := by rw [← HFR.out]; exact he.out
        have hblf : bl ≠ bK := HFL.out bl off rfl
        obtain ⟨gn, hg⟩ : ∃ gn, gn = gainW (net w h) w h E e := ⟨_, rfl⟩
        have hyes : Hid ((gn == nt) = true → L (j + 1) = L j ++ [e]) := hide (fun hs => by rw [HL.out]; exact bestK_yes heG (by rw [← hg, ← HNT.out]; exact hs))
        have hnot : Hid ((gn == nt) = false → L (j + 1) = L j) := hide (fun hs => by rw [HL.out]; exact bestK_no heG (by rw [← hg, ← HNT.out]; exact hs))
        have hLle : (L j).length ≤ 24 := by rw [HL.out]; exact Nat.le_trans (bestK_le _ _ _ _) (by omega)
        have hxr := hide (hO.old.row hrow0.out (by have := hs0.out; omega) (by omega))
        have hd6 : Below wr.heap.size wr wr.drew := Below.drew (Below.refl _ _)
        obtain ⟨c0, c1, c2⟩ := boxIn_of_row (box_keep hxr.out hd6)
        have hcd := cell_keep hd6 hce
        have hFr := hide ((hO.old.ints hF0.out (fun g off ha => by have := HFAR.out g off ha; have := hs0.out; omega)).keep hd6)
        have hTr := hide (hT.keep hd6)
        have HBD : Hid (But bK wr wr.drew) := hide (But.of_below hd6)
        have hj0 : (0 : Int) ≤ (j : Int) := by omega
        have hjn' : (j : Int) < (n : Int) := by omega
        have HGG := hide hg
        have HEF := hide heF
        clear hg heF heG he hO hI hA hT hd6 hce
        go_wp2_with fail
        go_region_held3 (fun W' => W'.cell? ⟨bl, off + j, none⟩ = some (.int .i64 e) ∧ W'.cell? ⟨W.heap.size, 0, none⟩ = some (.int .i64 w) ∧ W'.cell? ⟨W.heap.size, 1, none⟩ = some (.int .i64 h) ∧ W'.cell? ⟨W.heap.size, 2, none⟩ = some (.int .i64 E))
          (first | exact ⟨p3, p0, p1, p2⟩ | exact ⟨hcd, c0, c1, c2⟩)
          ((go_at_call 55; refine (specBehind_any w h E0 af cf nf M bK HB0.out HNF.out hl HM.out (fun g off ha => (HFAR.out g off ha).2) E e _ HB.out HX.out HEF.out hFr.out hTr.out).mono ?_; rw [← HGG.out]; rintro e1 w3 ⟨rfl, hb3, hk3⟩; have p0 := hb3.cell c0 (show W.heap.size ≠ bK by omega); have p1 := hb3.cell c1 (show W.heap.size ≠ bK by omega); have p2 := hb3.cell c2 (show W.heap.size ≠ bK by omega); have p3 := hb3.cell hcd hblf; have HB3 := hide hb3; have HK3 := hide hk3; clear hb3 hk3))
        have hBut := HBD.out.trans HB3.out
        have hbK0 : bK < W0.heap.size := by have := hs0.out; omega
        have hO2 := HO.out.keep hbK0 hBut
        have hI2 := hide (hBut.ints HI.out HFL.out)
        have hown2 := hO2.own
        have hsz2 := hO2.size
        have HO2 := hide hO2
        clear hO2 hBut c0 c1 c2 p0 p1 p2 hcd
        cases hgn : gn == nt
        · have HLL := hide (hnot.out hgn)
          clear hgn hown2
          go_wp2_with fail
          go_roundg g
          case rel => exact ⟨j + 1, _, rfl, by omega, by go_num, by rw [HLL.out]; exact HO2.out, hI2.out, HA.out, HK3.out⟩
          case measure => omega
        · have HLL := hide (hyes.out hgn)
          clear hgn
          go_wp2_with (at_builtin; refine wpList_append_own_at _ rfl _ _ 29 rfl (W0.heap.size) 2 i0 (.int .i64 0) 1 8 Try.underlying29 hi0 hz0 hz1 hz2 rfl (by decide) _ _ _ rfl (hown2.alloc _) ⟨w3.heap.size, 0, none⟩ 1 1 [.int .i64 e] rfl rfl (cell_one_new _ _ _) (by simp [Value.oneCell']) (by unfold maxLen; omega) (by omega) (by simp; omega) ?_)
          intro v' w7 hown' hgrow _ hbl
          have hO7 := hide (HO2.out.snoc (by simpa using hown') hgrow)
          have hI7 := hide ((hI2.out.alloc (.cells #[.int .i64 e] 2)).grown hgrow HA.out)
          have hA7 := hide (HA.out.next (hI2.out.alloc (.cells #[.int .i64 e] 2)) (by intro hn; rw [hn] at hjl; simp at hjl) (m := w3.heap.size + 1) (by simp) hbl)
          have hT7 := hide ((HK3.out.alloc (.cells #[.int .i64 e] 2)).grown hgrow (HO2.out.far hbK0))
          clear hown' hgrow hown2 hbl
          go_wp2_with fail
          go_roundg g
          case rel => exact ⟨j + 1, _, rfl, by omega, by go_num, by rw [HLL.out]; exact hO7.out, hI7.out, hA7.out, hT7.out⟩
          case measure => omega
end Go.Proofs.Ytincdnlinepcgab
