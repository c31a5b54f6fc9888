/-
  Dots and boxes: net scores and what an edge brings, the model's text.
-/
import Derived.Test.YtincdnlinepcgabNp
import Derived.Lib.MinMax
import Derived.Deep.RegionHeld3
namespace Go.Proofs.Ytincdnlinepcgab
open Go.RowKit
set_option linter.unusedVariables false

theorem box_set3 {w : World} {b : Nat} {x y z x' y' z' : Value} {t : TypeId} (h : w.heap[b]? = some (.cells #[x, y, z] t (0, 0))) :
    (((w.setCell ⟨b, 0, none⟩ x').setCell ⟨b, 1, none⟩ y').setCell ⟨b, 2, none⟩ z').heap[b]? = some (.cells #[x', y', z'] t (0, 0)) :=
  heap_setCell_same _ b 2 _ t z' (heap_setCell_same _ b 1 _ t y' (heap_setCell_same _ b 0 _ t x' h))
theorem row3 {w : World} {b : Nat} {x y z : Value} {t : TypeId} (h : w.heap[b]? = some (.cells #[x, y, z] t (0, 0))) :
    w.cell? ⟨b, 0, none⟩ = some x ∧ w.cell? ⟨b, 1, none⟩ = some y ∧ w.cell? ⟨b, 2, none⟩ = some z ∧ w.frozen? ⟨b, 0, none⟩ = false ∧ w.frozen? ⟨b, 1, none⟩ = false ∧ w.frozen? ⟨b, 2, none⟩ = false :=
  ⟨(cell_of_row _ _ 0 _ _ (0, 0) h).trans rfl, (cell_of_row _ _ 1 _ _ (0, 0) h).trans rfl, (cell_of_row _ _ 2 _ _ (0, 0) h).trans rfl, frozen_of_row _ _ 0 _ _ h, frozen_of_row _ _ 1 _ _ h, frozen_of_row _ _ 2 _ _ h⟩
theorem below3 {B : Nat} {W w1 : World} {b : Nat} (x y z : Value) (h : Below B W w1) (hb : B ≤ b) : Below B W (((w1.setCell ⟨b, 0, none⟩ x).setCell ⟨b, 1, none⟩ y).setCell ⟨b, 2, none⟩ z) :=
  ((h.setCell (p := ⟨b, 0, none⟩) hb _).setCell (p := ⟨b, 1, none⟩) hb _).setCell (p := ⟨b, 2, none⟩) hb _

/-- What l03Score and l03Behind do. -/
def ScPost (w h E0 : Int) (bK : Nat) (v : Int) (W : World) (e : Ending) (W' : World) : Prop := e = .returned (.int .i64 v) ∧ But bK W W' ∧ Tab w h E0 W' bK

set_option maxRecDepth 100000 in
set_option maxHeartbeats 4000000 in
theorem behind_walk (w h E0 E e : Int) (af : Option Addr) (cf n M bK : Nat) (W : World) (hb : okBox w h E = true) (he : e ∈ freeE w h E) (hfa : IntsAt W af (freeE w h E0)) (hT : Tab w h E0 W bK)
    (hG : ∀ W' : World, IntsAt W' af (freeE w h E0) → Tab w h E0 W' bK → Calls Try.prog 29 #[.agg #[.int .i64 w, .int .i64 h, .int .i64 (withE E e)], .slice af n cf, .slice (some ⟨bK, 0, none⟩) M M] W' (ScPost w h E0 bK (net w h (withE E e)) W')) :
    Calls Try.prog 55 #[.agg #[.int .i64 w, .int .i64 h, .int .i64 E], .int .i64 e, .slice af n cf, .slice (some ⟨bK, 0, none⟩) M M] W (ScPost w h E0 bK (gainW (net w h) w h E e) W) := by
  obtain ⟨e0, en, hdr⟩ := pre_mem he
  obtain ⟨m, hm, hm24⟩ := edges_nat hb
  have e24 : e < 24 := by omega
  have een : e < nEdge w h := by omega
  have hbF := ok_with hb he
  have hnb := net_bd hbF
  have htr := takenTo_range w h E (withE E e) (w * h).toNat
  have hgw : gainW (net w h) w h E e = if 0 < takenBy w h E (withE E e) then takenBy w h E (withE E e) + net w h (withE E e) else - net w h (withE E e) := rfl
  obtain ⟨F, hF⟩ : ∃ F, F = withE E e := ⟨_, rfl⟩
  rw [← hF] at hbF hnb htr hgw hG
  obtain ⟨tk, htk⟩ : ∃ tk, tk = takenBy w h E F := ⟨_, rfl⟩
  obtain ⟨v, hv⟩ : ∃ v, v = net w h F := ⟨_, rfl⟩
  obtain ⟨g, hg⟩ : ∃ g, g = gainW (net w h) w h E e := ⟨_, rfl⟩
  have tk0 : 0 ≤ tk := by rw [htk]; exact htr.1
  obtain ⟨mb, hmb, hmb9⟩ := boxes_nat hb
  have tk9 : tk ≤ 9 := by
    have := htr.2
    have h2 : takenTo w h E F (w * h).toNat = tk := htk.symm
    omega
  rw [← hv] at hnb
  rw [← hg, ← htk, ← hv] at hgw
  rw [← hg]
  have HGW := hide hgw
  have HF := hide hF
  have HT := hide htk
  have HV := hide hv
  have HB := hide hb
  have HG := hide hG
  have HEN := hide een
  obtain ⟨v1, v2⟩ := hnb
  have hbel := below_alloc W (.cells #[.int .i64 w, .int .i64 h, .int .i64 E] 26)
  have hX0 := hide (boxIn_new W w h E 26)
  have hF0 := hide (hfa.keep hbel)
  have hT0 := hide (hT.keep hbel)
  have hB0 := hide hbel
  clear htr hgw hF htk hv hg hG hm hmb he en een hdr hb hbF hfa hT hbel
  obtain ⟨W0, hW0⟩ : ∃ W0, W0 = W.alloc (.cells #[.int .i64 w, .int .i64 h, .int .i64 E] 26) := ⟨_, rfl⟩
  rw [← hW0] at hX0 hF0 hT0 hB0
  obtain ⟨c0, c1, c2⟩ := hX0.out
  go_enter Try.func55, Try.ntmps55
  go_wp2_with fail
  rw [← hW0]
  clear hW0
  go_wp2_with fail
  refine (specMove_any w h E e HB.out e0 HEN.out _).mono ?_
  rw [← HF.out, ← HT.out]
  rintro e1 w1 ⟨rfl, hb1⟩
  have hB1 := Below.trans' hB0.out hb1
  have ha := below_alloc w1 (.cells #[.int .i64 w, .int .i64 h, .int .i64 F] 26)
  have hF2 := hide ((hF0.out.keep hb1).keep ha)
  have hT2 := hide ((hT0.out.keep hb1).keep ha)
  have hB2 := hide (Below.trans' hB1 ha)
  clear hB1 ha hb1 c0 c1 c2
  by_cases htp : 0 < tk
  all_goals
    first
      | have hgv : Hid (g = tk + v) := hide (by rw [HGW.out, if_pos htp])
      | have hgv : Hid (g = - v) := hide (by rw [HGW.out, if_neg htp])
    go_wp2_with fail
    refine (HG.out _ hF2.out hT2.out).mono ?_
    rw [← HV.out]
    rintro e1 w3 ⟨rfl, hb3, hk3⟩
    have hfin : Hid (But bK W w3 ∧ Tab w h E0 w3 bK) := hide ⟨(But.of_below hB2.out).trans hb3, hk3⟩
    clear hb3 hk3
    go_wp2_with fail
    go_ret
    exact ⟨ret_int hgv.out.symm, hfin.out⟩

theorem Tab.cell {w h E0 E : Int} {W : World} {bK : Nat} (hT : Tab w h E0 W bK) (hb : okBox w h E = true) (hx : Ext E0 E) :
    ∃ (p : Nat) (t : Int), place (freeE w h E0) E = (p : Int) ∧ p < 2 ^ (freeE w h E0).length ∧ W.cell? ⟨bK, p, none⟩ = some (.int .i64 t) ∧ W.frozen? ⟨bK, p, none⟩ = false ∧ (t = -100 ∨ t = net w h E) := by
  obtain ⟨Lt, h1, h2, h3⟩ := hT
  obtain ⟨p0, p1⟩ := plTo_range (freeE w h E0) E (Nat.le_refl (freeE w h E0).length)
  obtain ⟨p, hp⟩ := Int.eq_ofNat_of_zero_le p0
  have hpl : p < Lt.length := by rw [h2]; rw [hp] at p1; exact_mod_cast p1
  have hg : Lt[p]? = some Lt[p] := List.getElem?_eq_getElem hpl
  refine ⟨p, Lt[p], hp, by rw [← h2]; exact hpl, ?_, frozen_of_row _ _ _ _ _ h1, h3 E hb hx _ ?_⟩
  · refine (cell_of_row _ _ p _ _ (0, 0) h1).trans ?_
    simp [hpl, intV]
  · rw [show (place (freeE w h E0) E).toNat = p by unfold place; omega]
    exact hg
theorem Tab.set {w h E0 E : Int} {W : World} {bK p : Nat} (hT : Tab w h E0 W bK) (b0 : okBox w h E0 = true) (hb : okBox w h E = true) (hx : Ext E0 E) (hp : place (freeE w h E0) E = (p : Int)) : Tab w h E0 (W.setCell ⟨bK, p, none⟩ (.int .i64 (net w h E))) bK := by
  obtain ⟨Lt, h1, h2, h3⟩ := hT
  refine ⟨Lt.set p (net w h E), ?_, by simpa using h2, ?_⟩
  · rw [heap_setCell_same _ _ _ _ _ _ h1]
    simp [List.map_set, intV]
  · have := h3.set b0 hb hx
    rw [show (place (freeE w h E0) E).toNat = p by omega] at this
    exact this
theorem But.drew {n : Nat} {a b : World} (h : But n a b) : But n a b.drew := ⟨h.os, h.tape, h.output, h.size, h.block⟩

set_option maxRecDepth 100000 in
set_option maxHeartbeats 4000000 in
theorem score_walk (w h E0 E : Int) (af : Option Addr) (cf nf M bK : Nat) (W : World) (b0 : okBox w h E0 = true) (hb : okBox w h E = true) (hx : Ext E0 E) (hnf : nf = (freeE w h E0).length) (hl : nf ≤ 12) (hM : M = 2 ^ nf) (hfa : IntsAt W af (freeE w h E0))
    (hfar : ∀ g off, af = some ⟨g, off, none⟩ → g ≠ bK) (hT : Tab w h E0 W bK)
    (hG : ∀ (e : Int) (W' : World), e ∈ freeE w h E → IntsAt W' af (freeE w h E0) → Tab w h E0 W' bK → Calls Try.prog 55 #[.agg #[.int .i64 w, .int .i64 h, .int .i64 E], .int .i64 e, .slice af nf cf, .slice (some ⟨bK, 0, none⟩) M M] W' (ScPost w h E0 bK (gainW (net w h) w h E e) W')) :
    Calls Try.prog 29 #[.agg #[.int .i64 w, .int .i64 h, .int .i64 E], .slice af nf cf, .slice (some ⟨bK, 0, none⟩) M M] W (ScPost w h E0 bK (net w h E) W) := by
  obtain ⟨E1, E2⟩ := okBox_E hb
  have hbel := below_alloc W (.cells #[.int .i64 w, .int .i64 h, .int .i64 E] 26)
  have hrow0 := hide (heap_alloc_new W (.cells #[.int .i64 w, .int .i64 h, .int .i64 E] 26 (0, 0)))
  have hF0 := hide (hfa.keep hbel)
  have hT0 := hide (hT.keep hbel)
  have hKlt : Hid (bK < W.heap.size) := hide hT.lt
  have hB0 := hide hbel
  have HB0 := hide b0
  have HB := hide hb
  have HX := hide hx
  have HFAR := hide hfar
  have HG := hide hG
  have HNF := hide hnf
  have HM := hide hM
  have hz : Hid (∀ z ∈ freeE w h E0, 0 ≤ z ∧ z < 24) := hide (fun z hz => by
    obtain ⟨z0, z1, _⟩ := pre_mem hz
    obtain ⟨m, hm, hm24⟩ := edges_nat b0
    omega)
  have hnet := net_bd hb
  have hM4 : M ≤ 4096 := by
    rw [hM]
    have : (2 : Nat) ^ nf ≤ 2 ^ 12 := Nat.pow_le_pow_right (by omega) hl
    simpa using this
  obtain ⟨W0, hW0⟩ : ∃ W0, W0 = W.alloc (.cells #[.int .i64 w, .int .i64 h, .int .i64 E] 26) := ⟨_, rfl⟩
  rw [← hW0] at hrow0 hF0 hT0 hB0
  clear hbel hfa hT b0 hb hx hfar hG hnf hM
  obtain ⟨c0, c1, c2⟩ := boxIn_of_row hrow0.out
  go_enter Try.func29, Try.ntmps29
  go_wp2_with fail
  rw [← hW0]
  clear hW0
  go_wp2_with fail
  rw [HNF.out]
  refine (place_any w h E af cf (freeE w h E0) _ E1 E2 hF0.out (by rw [← HNF.out]; exact hl) hz.out).mono ?_
  rw [← HNF.out]
  rintro e w1 ⟨rfl, hb1⟩
  have hrow1 := hide (box_keep hrow0.out hb1)
  have hF1 := hide (hF0.out.keep hb1)
  have hT1 := hide (hT0.out.keep hb1)
  have hB1 := hide (Below.trans' hB0.out hb1)
  obtain ⟨p, t, hp, hpM, hc, hfz, ht⟩ := hT1.out.cell HB.out HX.out
  rw [hp]
  have HP := hide hp
  have hpM' : p < M := by rw [HM.out, HNF.out]; exact hpM
  have HT := hide ht
  clear hp ht hb1 hpM hfz c0 c1 c2
  by_cases htt : -100 < t
  · have hret : Hid (t = net w h E) := hide (by rcases HT.out with h1 | h1 <;> omega)
    have hfin : Hid (But bK W w1 ∧ Tab w h E0 w1 bK) := hide ⟨But.of_below hB1.out, hT1.out⟩
    go_wp2_with fail
    go_ret
    exact ⟨ret_int hret.out, hfin.out⟩
  · obtain ⟨c0, c1, c2⟩ := boxIn_of_row hrow1.out
    clear HT
    go_wp2_with fail
    clear htt hc
    obtain ⟨n, hn⟩ : ∃ n, n = nfree w h E := ⟨_, rfl⟩
    obtain ⟨fr, hfr⟩ : ∃ fr, fr = freeE w h E := ⟨_, rfl⟩
    have hnl : Hid (n = fr.length) := hide (by rw [hn, hfr]; rfl)
    have hn24 : n ≤ 24 := by rw [hn]; exact freeE_le HB.out
    obtain ⟨S, hS⟩ : ∃ S : Nat → Int, S = fun j => if j = 0 then -99 else scTo w h E j := ⟨_, rfl⟩
    have HSb : Hid (∀ j, -99 ≤ S j ∧ S j ≤ 9) := hide (fun j => by
      have := scTo_bd HB.out j
      rw [hS]
      dsimp only
      split <;> omega)
    have HSs : Hid (∀ (j : Nat) (e : Int), fr[j]? = some e → S (j + 1) = max (S j) (gainW (net w h) w h E e)) := hide (fun j e he => by
      rw [hfr] at he
      have h1 := scTo_succ he
      have h2 := gain_bd9 HB.out (List.mem_of_getElem? he)
      rw [hS]
      dsimp only
      rw [if_neg (by omega), h1]
      split <;> omega)
    have HSa : Hid ((if n = 0 then 0 else S n) = net w h E) := hide (by
      have h1 := scTo_all HB.out
      rw [← hn] at h1
      rw [← h1, hS]
      dsimp only
      split
      · rename_i e; rw [e]; rfl
      · rfl)
    have HS0 : Hid (S 0 = -99) := hide (by rw [hS]; rfl)
    have HFR := hide hfr
    have HNN := hide hn
    clear hn hfr hS
    refine (specFree_any w h E HB.out _).mono ?_
    rw [← HFR.out]
    rintro e w2 ⟨al, cl, rfl, hol, hb2⟩
    rw [← hnl.out]
    have hl2 := hide (intsAt_of_ownsRow hol)
    have hfar2 := hide (own_far hol (show bK < w1.heap.size by have := hKlt.out; have := hB1.out.size; omega))
    have hrow2 := hide (box_keep hrow1.out hb2)
    have hF2 := hide (hF1.out.keep hb2)
    have hT2 := hide (hT1.out.keep hb2)
    have hB2 := hide (Below.trans' hB1.out hb2)
    clear hol hb2 c0 c1 c2
    go_wp2_with fail
    go_loopw [9, 10] (fun s i wr => ∃ j : Nat, j ≤ n ∧ i = .int .i64 j ∧ s = .int .i64 (S j) ∧ Tab w h E0 wr bK ∧ But bK w2 wr) (fun _ i _ => n - (intOf i).toNat)
    case atStart => exact ⟨0, Nat.zero_le _, rfl, by rw [HS0.out], hT2.out, But.refl _ _⟩
    case round =>
      obtain ⟨j, hj, rfl, rfl, hTr, hBr⟩ := hrel
      obtain ⟨sb1, sb2⟩ := HSb.out j
      have HTR := hide hTr
      have HBR := hide hBr
      by_cases hlt : j < n
      · have hBd := hBr.drew
        obtain ⟨b, off, e, rfl, hce, he⟩ := (hBd.ints hl2.out hfar2.out).one (k := j) (by rw [← hnl.out]; exact hlt)
        have heF : e ∈ freeE w h E := by rw [← HFR.out]; exact List.mem_of_getElem? he.out
        obtain ⟨c0, c1, c2⟩ := boxIn_of_row (hBd.row hrow2.out (by have := hKlt.out; omega))
        have hFd := hide (hBd.ints hF2.out HFAR.out)
        have hTd := hide (hTr.keep (Below.drew (Below.refl _ _)))
        obtain ⟨g, hg⟩ : ∃ g, g = gainW (net w h) w h E e := ⟨_, rfl⟩
        obtain ⟨gb1, gb2⟩ := gain_bd9 HB.out heF
        rw [← hg] at gb1 gb2
        have hst := HSs.out j e he.out
        rw [← hg] at hst
        have HGG := hide hg
        have HST := hide hst
        have HEF := hide heF
        have HBD := hide hBd
        have hj0 : (0 : Int) ≤ (j : Int) := by omega
        have hjn : (j : Int) < (n : Int) := by omega
        clear hg hst heF hTr hBr hBd he
        go_wp2_with fail
        go_region_held3 (fun W' => W'.cell? ⟨b, off + j, none⟩ = some (.int .i64 e) ∧ W'.cell? ⟨W.heap.size, 0, none⟩ = some (.int .i64 w) ∧ W'.cell? ⟨W.heap.size, 1, none⟩ = some (.int .i64 h) ∧ W'.cell? ⟨W.heap.size, 2, none⟩ = some (.int .i64 E))
          (first | exact ⟨hce, c0, c1, c2⟩ | exact ⟨hce3, d0, d1, d2⟩)
          ((go_at_call 55; refine (HG.out e _ HEF.out hFd.out hTd.out).mono ?_; rw [← HGG.out]; rintro e1 w3 ⟨rfl, hb3, hk3⟩; have hce3 := hb3.cell hce (hfar2.out _ _ rfl); have d0 := hb3.cell c0 (show W.heap.size ≠ bK by have := hKlt.out; omega); have d1 := hb3.cell c1 (show W.heap.size ≠ bK by have := hKlt.out; omega); have d2 := hb3.cell c2 (show W.heap.size ≠ bK by have := hKlt.out; omega); have HB3 := hide hb3; have HK3 := hide hk3; clear hb3 hk3))
        go_wp2_with fail
        go_roundw
        case rel => exact ⟨j + 1, by omega, by go_num, by rw [HST.out], HK3.out, HBD.out.trans HB3.out⟩
        case measure => simp [intOf]; omega
      · obtain rfl : j = n := by omega
        obtain ⟨p', t', hp', hpM2, hc', hfz, _⟩ := hTr.cell HB.out HX.out
        obtain rfl : p' = p := by have h1 := HP.out; rw [hp'] at h1; omega
        obtain ⟨v, hv⟩ : ∃ v, v = net w h E := ⟨_, rfl⟩
        have hsa := HSa.out
        rw [← hv] at hsa
        have hTs := hTr.set HB0.out HB.out HX.out hp'
        rw [← hv] at hTs
        have hfin : Hid (But bK W (wr.setCell ⟨bK, p', none⟩ (.int .i64 v)) ∧ Tab w h E0 (wr.setCell ⟨bK, p', none⟩ (.int .i64 v)) bK) := hide ⟨((But.of_below hB2.out).trans hBr).set p' (.int .i64 v), hTs⟩
        have HV := hide hv
        clear hTs hv hTr hBr hp' hpM2
        by_cases hn0 : j = 0
        · rw [if_pos hn0] at hsa
          subst hn0
          subst hsa
          go_wp2_with fail
          go_ret
          exact ⟨ret_int HV.out, hfin.out⟩
        · rw [if_neg hn0] at hsa
          have hj1 : ((j : Int) == 0) = false := by simp; omega
          rw [hsa]
          clear hsa
          go_wp2_with fail
          go_ret
          exact ⟨ret_int HV.out, hfin.out⟩
end Go.Proofs.Ytincdnlinepcgab
