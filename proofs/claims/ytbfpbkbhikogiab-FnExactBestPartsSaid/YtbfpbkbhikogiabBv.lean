/-
  Ends of dots and boxes: BestParts, the program's text.
-/
import Derived.Test.YtbfpbkbhikogiabBi
import Derived.Test.YtbfpbkbhikogiabBs1
import Derived.Test.YtbfpbkbhikogiabVi
namespace Go.Proofs.Ytbfpbkbhikogiab
open Go.RowKit Go.Maps
set_option linter.unusedVariables false

theorem own_not_map' {w : World} {base n m : Nat} {e : TypeId} {size : Nat} {v : Value} {xs : List Value} (h : w.ownsRow base e size v n xs) (hK : KnowsT m w) : v.ownBlock ≠ some m := by
  rcases h.2 with ⟨rfl, _⟩ | ⟨g, cap, cur, rfl, _, hg, _⟩
  · simp [Value.ownBlock]
  · simp only [Value.ownBlock, ne_eq, Option.some.injEq]
    exact knows_row hK hg
theorem row_far {B n c bm : Nat} {w : World} {a : Option Addr} {vs : List Value} (h : w.ownsRow B 2 1 (.slice a n c) n vs) (hK : KnowsT bm w) : ∀ g off, a = some ⟨g, off, none⟩ → g ≠ bm := by
  intro g off ha e
  have h1 := own_not_map' h hK
  rw [ha, e] at h1
  exact h1 rfl

set_option maxRecDepth 100000 in
set_option maxHeartbeats 2000000 in
theorem valOf_any (bm B2 : Nat) (a : Option Addr) (c : Nat) (zs : List Int) (W : World) (hK : KnowsT bm W) (h2 : W.heap[B2]? = some (.cells #[.map (some bm)] 36 (0, 0))) (hz : IntsAt W a zs) (hf : ∀ g off, a = some ⟨g, off, none⟩ → g ≠ bm) (hok : okEn zs [] = true) :
    Calls Try.prog 13 #[.slice a zs.length c, .pointer (some ⟨B2, 0, none⟩)] W (RetK bm (KnowsT bm) (.int .i64 (vC zs)) W) := by
  have hn2 := knows_row hK h2
  have s0 : ∀ q : PB bm (KnowsT bm) W, q.to.cell? ⟨B2, 0, none⟩ = some (.map (some bm)) := fun q => q.cell ((cell_of_row _ _ 0 _ _ (0, 0) h2).trans rfl) hn2
  have hI : Hid (∀ q : PB bm (KnowsT bm) W, IntsAt q.to a zs) := hide (fun q => q.old.ints hz hf)
  obtain ⟨L, hL⟩ : ∃ L, L = cntL zs [] := ⟨_, rfl⟩
  have hOT : okT L := by rw [hL]; exact okT_cnt hok
  have hTal : Hid (∀ V, IntsAt V a zs → Calls Try.prog 15 #[.agg #[.slice a zs.length c, .slice none 0 0]] V (RetB (.agg (tc L)) V)) := hide (fun V hV => by rw [hL]; exact tallyOf_any a c zs none 0 [] V hV (fun h => absurd rfl h) hok)
  obtain ⟨v, hv⟩ : ∃ v, v = vC zs := ⟨_, rfl⟩
  have hvl : v = vT L := by rw [hv, hL]; rfl
  have hVal : Hid (∀ V : World, KnowsT bm V → Calls Try.prog 14 #[.agg #[.map (some bm)], .agg (tc L)] V (RetK bm (KnowsT bm) (.int .i64 v) V)) := hide (fun V hk => by rw [hvl]; exact (implValue_any bm _ L V hOT rfl hk).2)
  rw [← hv]
  obtain ⟨zl, hzl⟩ : ∃ zl, zl = zs.length := ⟨_, rfl⟩
  rw [← hzl] at hTal ⊢
  have K0 := hide hK
  clear hK h2 hz hf hok hL hOT hv hvl hzl
  go_enter Try.func13, Try.ntmps13
  go_wp2_with fail
  refine wp_region_pb (bm) (KnowsT (bm)) (fun _ _ h k => KnowsT.keep h k) (by kernel_rfl) (by kernel_rfl) ?_
  repeat (first | fail | go_big_quiet_step ((first | (go_at_call 15; with_reducible exact retB_pb (fun _ _ h k => KnowsT.keep h k) (hTal.out _ (hI.out _))) | (go_at_call 14; with_reducible exact retK_pb (hVal.out _ (PB.inv _ K0.out))))) | quiet_step ((first | (go_at_call 15; with_reducible exact retB_pb (fun _ _ h k => KnowsT.keep h k) (hTal.out _ (hI.out _))) | (go_at_call 14; with_reducible exact retK_pb (hVal.out _ (PB.inv _ K0.out))))))
  refine wpQuiet_nil ?_
  rintro _ ⟨pq, rfl⟩
  have hfin := hide (And.intro pq.old (pq.inv K0.out))
  clear s0
  go_wp2_with fail
  go_ret
  exact ⟨rfl, hfin.out⟩

set_option maxRecDepth 100000 in
set_option maxHeartbeats 2000000 in
theorem cmpP_any (bm B2 B3 : Nat) (u1 u2 : Value) (x y : Int) (W : World) (hK : KnowsT bm W) (hn3 : B3 ≠ bm)
    (h3 : W.cell? ⟨B3, 0, none⟩ = some (.func (.func 13) #[] #[.pointer (some ⟨B2, 0, none⟩)]))
    (hX : ∀ p : PB bm (KnowsT bm) W, Calls Try.prog 13 #[u1, .pointer (some ⟨B2, 0, none⟩)] p.to (RetK bm (KnowsT bm) (.int .i64 x) p.to))
    (hY : ∀ p : PB bm (KnowsT bm) W, Calls Try.prog 13 #[u2, .pointer (some ⟨B2, 0, none⟩)] p.to (RetK bm (KnowsT bm) (.int .i64 y) p.to)) :
    Calls Try.prog 18 #[u1, u2, .pointer (some ⟨B3, 0, none⟩)] W (RetK bm (KnowsT bm) (.int .i64 (cmpI x y)) W) := by
  have s0 : ∀ q : PB bm (KnowsT bm) W, q.to.cell? ⟨B3, 0, none⟩ = some (.func (.func 13) #[] #[.pointer (some ⟨B2, 0, none⟩)]) := fun q => q.cell h3 hn3
  have HX := hide hX
  have HY := hide hY
  have hcp : Hid (∀ V : World, Calls Try.prog 19 #[.int .i64 x, .int .i64 y] V (RetB (.int .i64 (cmpI x y)) V)) := hide (fun V => compare_any x y V)
  obtain ⟨q, hq⟩ : ∃ q, q = cmpI x y := ⟨_, rfl⟩
  rw [← hq] at hcp ⊢
  have K0 := hide hK
  clear hK h3 hX hY hq
  go_enter Try.func18, Try.ntmps18
  go_wp2_with fail
  refine wp_region_pb (bm) (KnowsT (bm)) (fun _ _ h k => KnowsT.keep h k) (by kernel_rfl) (by kernel_rfl) ?_
  repeat (first | fail | go_big_quiet_step ((first | (go_at_call 19; with_reducible exact retB_pb (fun _ _ h k => KnowsT.keep h k) (hcp.out _)) | with_reducible exact retK_pb (HX.out _) | with_reducible exact retK_pb (HY.out _))) | quiet_step ((first | (go_at_call 19; with_reducible exact retB_pb (fun _ _ h k => KnowsT.keep h k) (hcp.out _)) | with_reducible exact retK_pb (HX.out _) | with_reducible exact retK_pb (HY.out _))))
  refine wpQuiet_nil ?_
  rintro _ ⟨pq, rfl⟩
  have hfin := hide (And.intro pq.old (pq.inv K0.out))
  clear s0
  go_wp2_with fail
  go_ret
  exact ⟨rfl, hfin.out⟩

theorem cmpI_gt {x y : Int} (h : y < x) : cmpI x y = 1 := by unfold cmpI; rw [if_neg (by omega), if_pos h]
theorem cmpI_le {x y : Int} (h : ¬ y < x) : -1 ≤ cmpI x y ∧ cmpI x y ≤ 0 := by
  by_cases h1 : x < y
  · rw [cmpI_lt h1]; omega
  · unfold cmpI
    rw [if_neg h1, if_neg h]
    omega

set_option maxRecDepth 100000 in
set_option maxHeartbeats 4000000 in
theorem maxF_any (bm B3 A B g c n : Nat) (qs : List (List Int)) (vs : List Value) (W : World) (hL : ListO A B W (.slice (some ⟨g, 0, none⟩) qs.length c) vs qs) (hn : n = qs.length) (h0 : 0 < n) (hle : n ≤ 85766121) (hK : KnowsT bm W)
    (hC : ∀ (i j : Nat) (u u' : Value), vs[i]? = some u → vs[j]? = some u' → ∀ W' : World, But bm W W' → KnowsT bm W' → Calls Try.prog 18 #[u, u', .pointer (some ⟨B3, 0, none⟩)] W' (RetK bm (KnowsT bm) (.int .i64 (cmpI (vI qs i) (vI qs j))) W')) :
    Calls Try.prog 16 #[.slice (some ⟨g, 0, none⟩) n c, .func (.func 18) #[] #[.pointer (some ⟨B3, 0, none⟩)]] W
      (fun e W' => ∃ (m : Nat) (u : Value), e = .returned u ∧ mxI (vI qs) n = some m ∧ vs[m]? = some u ∧ But bm W W' ∧ KnowsT bm W') := by
  have hlen : vs.length = n := by rw [hL.len, hn]
  have hgb : g ≠ bm := by
    obtain ⟨g', e1, _, hc⟩ := hL.slot (List.getElem?_eq_getElem (show 0 < vs.length by omega))
    simp only [Option.some.injEq, Addr.mk.injEq, and_true] at e1
    subst e1
    exact knows_far hK hc
  have hsl : Hid (∀ (i : Nat) (u : Value), vs[i]? = some u → W.cell? ⟨g, i, none⟩ = some u) := hide (fun i u hu => by
    obtain ⟨g', e1, _, hc⟩ := hL.slot hu
    simp only [Option.some.injEq, Addr.mk.injEq, and_true] at e1
    subst e1
    exact hc)
  have HC := hide hC
  have HLEN := hide hlen
  obtain ⟨z, hz⟩ : ∃ z, vs[0]? = some z := ⟨_, List.getElem?_eq_getElem (show 0 < vs.length by omega)⟩
  have d0 := hsl.out 0 z hz
  have HZ := hide hz
  have K0 := hide hK
  have hn1 : ¬ ((n : Int) < 1) := by omega
  clear hL hC hlen hz hK hn
  go_enter Try.func16, Try.ntmps16
  go_wp2_with fail
  clear d0 hn1
  go_loopg [5, 6] (n - 1) (fun gm s5 s6 wr => ∃ (j m : Nat) (u : Value), j + gm = n ∧ u = s5 ∧ s6 = .int .i64 j ∧ 1 ≤ j ∧ Hid (vs[m]? = some u) ∧ Hid (mxI (vI qs) j = some m) ∧ Hid (But bm W wr) ∧ Hid (KnowsT bm wr))
  case atStart => exact ⟨1, 0, z, by omega, rfl, rfl, Nat.le_refl _, HZ, hide rfl, hide (But.refl _ _), K0⟩
  case round =>
    obtain ⟨j, m, u, hj, rfl, rfl, hj1, hu, hm, hB, hKr⟩ := hrel
    cases gk with
    | zero =>
      obtain rfl : j = n := by omega
      go_wp2_with fail
      refine bodyPost_ret (v := u) ?_ rfl ⟨m, u, rfl, hm.out, hu.out, hB.out, hKr.out⟩
      simp [results, Try.results16, go_sem]
    | succ g2 =>
      have hjn : j < n := by omega
      obtain ⟨y, hy⟩ : ∃ y, vs[j]? = some y := ⟨_, List.getElem?_eq_getElem (show j < vs.length by rw [HLEN.out]; exact hjn)⟩
      have d1 := hB.out.cell (hsl.out j y hy) hgb
      have hcl : Hid (Calls Try.prog 18 #[y, u, .pointer (some ⟨B3, 0, none⟩)] wr (RetK bm (KnowsT bm) (.int .i64 (cmpI (vI qs j) (vI qs m))) wr)) := hide (HC.out j m y u hy hu.out wr hB.out hKr.out)
      have hstep : Hid (mxI (vI qs) (j + 1) = if vI qs m < vI qs j then some j else some m) := hide (by
        show (match mxI (vI qs) j with | none => some j | some m => if vI qs m < vI qs j then some j else some m) = _
        rw [hm.out])
      have HY := hide hy
      obtain ⟨q, hq⟩ : ∃ q, q = cmpI (vI qs j) (vI qs m) := ⟨_, rfl⟩
      rw [← hq] at hcl
      clear hy
      by_cases hlt : vI qs m < vI qs j
      · have hq1 : q = 1 := by rw [hq, cmpI_gt hlt]
        have hnew : Hid (mxI (vI qs) (j + 1) = some j) := hide (by rw [hstep.out, if_pos hlt])
        subst hq1
        clear hlt hq
        go_wp2_with fail
        refine hcl.out.mono ?_
        rintro e w5 ⟨rfl, hb5, hk5⟩
        have hB5 := hide (hB.out.trans hb5)
        have HK5 := hide hk5
        have d2 := hB5.out.cell (hsl.out j y HY.out) hgb
        clear hb5 hk5 d1
        go_wp2_with fail
        go_roundg g2
        case rel => exact ⟨j + 1, j, y, by omega, rfl, by go_num, by omega, HY, hnew, hB5, HK5⟩
        case measure => omega
      · have hq1 := cmpI_le hlt
        rw [← hq] at hq1
        obtain ⟨q1, q2⟩ := hq1
        have hnew : Hid (mxI (vI qs) (j + 1) = some m) := hide (by rw [hstep.out, if_neg hlt])
        clear hlt hq
        go_wp2_with fail
        refine hcl.out.mono ?_
        rintro e w5 ⟨rfl, hb5, hk5⟩
        have hB5 := hide (hB.out.trans hb5)
        have HK5 := hide hk5
        clear hb5 hk5 d1
        go_wp2_with fail
        go_roundg g2
        case rel => exact ⟨j + 1, m, u, by omega, rfl, by go_num, by omega, hu, hnew, hB5, HK5⟩
        case measure => omega
end Go.Proofs.Ytbfpbkbhikogiab
