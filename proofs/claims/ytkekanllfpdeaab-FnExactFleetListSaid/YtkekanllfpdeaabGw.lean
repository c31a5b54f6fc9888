/-
  FleetList: the model's l09Go, the walk.
-/
import Derived.Test.YtkekanllfpdeaabGv
namespace Go.Proofs.Ytkekanllfpdeaab
open Go.RowKit
set_option linter.unusedVariables false

set_option maxRecDepth 100000 in
set_option maxHeartbeats 8000000 in
theorem l09Go_any (wd hi : Int) (cs : List Int) (hs : seaB wd hi cs = true) : ∀ (r : Nat) (f : List Int) (B : Nat) (a : Option Addr) (c : Nat) (gf cf m : Nat) (W : World), f.length + r = cs.length → IntsAt W a cs → W.ownsRow B 2 1 (.slice (some ⟨gf, 0, none⟩) f.length cf) f.length (f.map intV) → B ≤ W.heap.size → (∀ z ∈ f, 0 ≤ z ∧ z < 33554432) → 1 ≤ m → m ≤ 301 →
    Calls Try.prog 37 #[.agg #[.int .i64 wd, .int .i64 hi, .slice a cs.length c], .slice (some ⟨gf, 0, none⟩) f.length cf, .int .i64 (setL f), .slice none 0 0, .int .i64 (m : Int)] W (GoPost B ((allF wd hi cs r f).take m) W) := by
  intro r
  induction r with
  | zero =>
    intro f B a c gf cf m W hfl ha hf hB hz hm1 hm2
    obtain ⟨W0, hW0⟩ : ∃ W0, W0 = W.alloc (.cells #[.int .i64 wd, .int .i64 hi, .slice a cs.length c] 29) := ⟨_, rfl⟩
    have hB0 : Hid (Below W.heap.size W W0) := by rw [hW0]; exact hide (below_alloc _ _)
    have hX0 : Hid (SeaIn W0 W.heap.size wd hi a cs.length c) := by rw [hW0]; exact hide (seaIn_new _ _ _ _ _ _ _)
    have hF0 := hide (ownsRow_keep hf hB0.out)
    obtain ⟨_, _, _, _, l1, l3, _⟩ := seaB_yes hs
    have HCA := hide (l09Agrees_any (some ⟨gf, 0, none⟩) cf f none 0 [] W0 (intsAt_of_ownsRow hF0.out) (by omega) hz (fun h => absurd rfl h) (by simp) (fun p h => by cases h))
    have hres : Hid ((allF wd hi cs 0 f).take m = [f]) := hide (by show [f].take m = [f]; rw [List.take_of_length_le (by simp; omega)])
    rw [hres.out]
    obtain ⟨c0, c1, c2⟩ := hX0.out
    have hee : ((f.length : Int) == (cs.length : Int)) = true := by simp; omega
    have HFL := hide hfl
    clear ha hf hz hfl
    go_enter Try.func37, Try.ntmps37
    go_wp2_with fail
    rw [← hW0]
    clear hW0
    (try go_wp2_with fail)
    refine HCA.out.mono ?_
    rintro e w1 ⟨rfl, hb1⟩
    have hF1 := hide (ownsRow_keep hF0.out hb1)
    have hB1 := hide (Below.trans' hB0.out hb1)
    have hfin : Hid (GoPost B [f] W (.returned (.slice (some ⟨w1.heap.size, 0, none⟩) 1 1)) (w1.alloc (.cells #[.slice (some ⟨gf, 0, none⟩) f.length cf] 22))) := hide (by
      have hlo : B ≤ w1.heap.size := Nat.le_trans hB hB1.out.size
      refine ⟨_, 1, [.slice (some ⟨gf, 0, none⟩) f.length cf], rfl, ⟨?_, by simp⟩, hB1.out.alloc hB1.out.size _⟩
      exact ListO.one (heap_alloc_new w1 _) hlo (ownsRow_keep hF1.out (below_alloc w1 _)))
    clear hb1 c0 c1 c2 hee
    go_wp2_with fail
    go_ret
    exact hfin.out
  | succ r ih =>
    intro f B a c gf cf m W hfl ha hf hB hz hm1 hm2
    obtain ⟨w0, w1, h0, h1, l1, l3, ho⟩ := seaB_yes hs
    have HS := hide hs
    have IH := hide ih
    obtain ⟨W0, hW0⟩ : ∃ W0, W0 = W.alloc (.cells #[.int .i64 wd, .int .i64 hi, .slice a cs.length c] 29) := ⟨_, rfl⟩
    have hB0 : Hid (Below W.heap.size W W0) := by rw [hW0]; exact hide (below_alloc _ _)
    have hX0 : Hid (SeaIn W0 W.heap.size wd hi a cs.length c) := by rw [hW0]; exact hide (seaIn_new _ _ _ _ _ _ _)
    have hA0 := hide (ha.keep hB0.out)
    have hF0 := hide (ownsRow_keep hf hB0.out)
    have HZ := hide hz
    have HU := hide (setL_range hz)
    obtain ⟨u, hu⟩ : ∃ u, u = setL f := ⟨_, rfl⟩
    have HUU := hide hu
    rw [← hu] at HU ⊢
    obtain ⟨R, hR⟩ : ∃ R, R = (allF wd hi cs (r + 1) f).take m := ⟨_, rfl⟩
    have HR := hide hR
    rw [← hR]
    have hic : f.length < cs.length := by omega
    have hee : ((f.length : Int) == (cs.length : Int)) = false := by simp; omega
    have HFL := hide hfl
    obtain ⟨W3, hW3⟩ : ∃ W3, W3 = W0.alloc (.cells #[] 22) := ⟨_, rfl⟩
    have hb3 : Below W0.heap.size W0 W3 := by rw [hW3]; exact below_alloc _ _
    have hO3 : Hid (RowsO W0.heap.size W3 (.slice (some ⟨W0.heap.size, 0, none⟩) 0 0) [] []) := by rw [hW3]; exact hide ⟨ListO.empty _ (heap_alloc_new W0 _) (Nat.le_refl _), List.Pairwise.nil⟩
    have hz3 : Hid (W0.heap.size < W3.heap.size) := by rw [hW3]; exact hide (by simp)
    have HB3 := hide hb3
    have hX3 := hide (hX0.out.keep hb3)
    have hA3 := hide (hA0.out.keep hb3)
    have hF3 := hide (ownsRow_keep hF0.out hb3)
    have hB3 := hide (Below.trans' hB0.out hb3)
    obtain ⟨c0, c1, c2⟩ := hX0.out
    have hW3' : W3 = (W.alloc (.cells #[.int .i64 wd, .int .i64 hi, .slice a cs.length c] 29)).alloc (.cells #[] 22) := by rw [hW3, hW0]
    have hs0 : W0.heap.size = W.heap.size + 1 := by rw [hW0]; simp
    clear ha hf hz hfl hb3 hu hR
    obtain ⟨b1, o1, n, he1, hcn, hgn⟩ := hA3.out.one hic
    subst he1
    obtain ⟨n1, n2⟩ := okFrom_mem ho n (mem_of_get hgn.out)
    obtain ⟨N, rfl⟩ := Int.eq_ofNat_of_zero_le (show 0 ≤ n by omega)
    have hnk : cs.getD f.length 0 = (N : Int) := by rw [List.getD_eq_getElem?_getD, hgn.out]; rfl
    obtain ⟨P, hP⟩ : ∃ P, P = plAt wd hi cs f.length := ⟨_, rfl⟩
    have hPn : Hid (plc wd hi N = P) := hide (by rw [hP]; unfold plAt; rw [hnk]; rfl)
    have hpf := plAt_facts (k := f.length) HS.out hic
    rw [← hP] at hpf
    have HPF := hide hpf
    have HPL := hide hP
    have HCP := hide (fun V => l09Placements_any wd hi N (some ⟨b1, o1, none⟩) cs.length c V w0 w1 h0 h1 (by omega))
    rw [hPn.out] at HCP
    clear hpf hP hnk hs ih
    go_enter Try.func37, Try.ntmps37
    go_wp2_with fail
    rw [← hW3', ← hs0]
    clear hW3 hW0 hW3' hs0 c0 c1 c2
    obtain ⟨c0, c1, c2⟩ := hX3.out
    have hd : Below W3.heap.size W3 W3.drew := Below.drew (Below.refl _ _)
    have d0 := cell_keep hd c0
    have d1 := cell_keep hd c1
    have d2 := cell_keep hd c2
    have dn := cell_keep hd hcn
    (try go_wp2_with fail)
    go_region_held3 (fun V => V.cell? ⟨W.heap.size, 0, none⟩ = some (.int .i64 wd) ∧ V.cell? ⟨W.heap.size, 1, none⟩ = some (.int .i64 hi) ∧ V.cell? ⟨W.heap.size, 2, none⟩ = some (.slice (some ⟨b1, o1, none⟩) cs.length c) ∧ V.cell? ⟨b1, o1 + f.length, none⟩ = some (.int .i64 (N : Int))) (first | (exact ⟨d0, d1, d2, dn⟩) | (exact ⟨cell_keep hb4 d0, cell_keep hb4 d1, cell_keep hb4 d2, cell_keep hb4 dn⟩)) (first | (go_at_call 58; (with_reducible refine (HCP.out _).mono ?_); rintro e wP ⟨gp, cp, rfl, hop, hb4, _⟩))
    have hbP := Below.trans' hd hb4
    have hX4 := hide (hX3.out.keep hbP)
    have hA4 := hide (hA3.out.keep hbP)
    have hF4 := hide (ownsRow_keep hF3.out hbP)
    have hB4 := hide (Below.trans' hB3.out hbP)
    have hO4 := hide (hO3.out.keep hbP)
    have hP4 := hide (intsAt_of_ownsRow hop)
    have hPO := hide hop
    have hP50 : P.length ≤ 50 := HPF.out.2
    have hzP : Hid (W3.heap.size ≤ wP.heap.size) := hide hbP.size
    have HBW : Hid (Below W0.heap.size W0 wP) := hide (HB3.out.trans (hbP.mono (Nat.le_of_lt hz3.out)))
    clear hop hb4 hd d0 d1 d2 dn c0 c1 c2 hcn hbP
    go_wp2_with fail
    go_loopw [12, 14] (fun v12 v14 wr => ∃ (k : Nat) (vs : List Value) (X : List (List Int)), v14 = .int .i64 k ∧ k ≤ P.length ∧ Hid (X = goX wd hi cs f r k) ∧ v12 ≠ .slice none 0 0 ∧ Hid (RowsO W0.heap.size wr v12 vs (X.take m)) ∧ Hid (wr.ownsRow W3.heap.size 2 1 (.slice (some ⟨gp, 0, none⟩) P.length cp) P.length (P.map intV)) ∧ Hid (W3.heap.size ≤ wr.heap.size) ∧ Below W0.heap.size W0 wr) (fun _ v14 _ => P.length - (intOf v14).toNat)
    case atStart => exact ⟨0, [], [], rfl, Nat.zero_le _, hide (by simp [goX]), by simp, by rw [List.take_nil]; exact hO4, hPO, hzP, HBW.out⟩
    case round =>
      clear hO4 hPO
      obtain ⟨k, vs, X, rfl, hk, hXX, hnn, hO, hPO, hZ, hB⟩ := hrel
      have HB := hide hB
      have hBW := hide (Below.trans' hB0.out hB)
      have hX5 := hide (hX0.out.keep hB)
      have hA5 := hide (hA0.out.keep hB)
      have hF5 := hide (ownsRow_keep hF0.out hB)
      have hP5 := hide (intsAt_of_ownsRow hPO.out)
      clear hB
      obtain ⟨gv, cv, hv⟩ := own_some hO.out.l.own hnn
      subst hv
      clear hnn
      have hlm : (X.take m).length ≤ m := by rw [List.length_take]; omega
      have hm0 : decide ((m : Int) < 0) = false := decide_eq_false (by omega)
      by_cases hfull : (X.take m).length < m
      · have hfd : decide (((X.take m).length : Int) < (m : Int)) = true := decide_eq_true (by omega)
        have hXm : X.length < m := by rw [List.length_take] at hfull; omega
        have hXt : Hid (X.take m = X) := hide (List.take_of_length_le (by omega))
        rw [hXt.out] at hO hfd hlm hfull ⊢
        by_cases hlt : k < P.length
        · obtain ⟨b2, o2, z, he2, ez, hgz⟩ := hP5.out.one hlt
          cases he2
          rw [Nat.zero_add] at ez
          have hzk : (plAt wd hi cs f.length)[k]? = some z := by rw [← HPL.out]; exact hgz.out
          obtain ⟨z0, z1⟩ := HPF.out.1 z (mem_of_get hgz.out)
          obtain ⟨u0, u1⟩ := HU.out
          have hand := and_walkI (x := z) (y := u) z0 (by omega) u0 (by omega)
          have hor := or_walkI (x := u) (y := z) u0 (by omega) z0 (by omega)
          obtain ⟨A, hA⟩ : ∃ A, A = andI z u := ⟨_, rfl⟩
          obtain ⟨O, hOr⟩ : ∃ O, O = orI u z := ⟨_, rfl⟩
          rw [← hA] at hand
          rw [← hOr] at hor
          have HAA : Hid (A = andI z (setL f)) := hide (by rw [hA, HUU.out])
          have HOO : Hid (O = setL (f ++ [z])) := hide (by rw [hOr, HUU.out, setL_snoc])
          clear hA hOr
          obtain ⟨c0, c1, c2⟩ := hX5.out
          by_cases hA0' : A = 0
          · have hne : (A != 0) = false := by simp [hA0']
            have hsub : wrap64 ((m : Int) - (X.length : Int)) = ((m - X.length : Nat) : Int) := by unfold wrap64; omega
            have hmge : decide ((m : Int) ≥ 0) = true := decide_eq_true (by omega)
            have HZZ := hide (And.intro z0 z1)
            have HOWN : Hid (∀ V : World, Below wr.heap.size wr V → Calls Try.prog 59 #[.slice (some ⟨gf, 0, none⟩) f.length cf] V (NewRowV f V)) := hide (fun V h => l01Own_any gf cf f.length f V (intsAt_of_ownsRow (ownsRow_keep hF5.out h)) rfl (by omega))
            have CW : Hid (∀ V : World, Below wr.heap.size wr V → V.cell? ⟨gp, k, none⟩ = some (.int .i64 z) ∧ V.cell? ⟨W.heap.size, 0, none⟩ = some (.int .i64 wd) ∧ V.cell? ⟨W.heap.size, 1, none⟩ = some (.int .i64 hi) ∧ V.cell? ⟨W.heap.size, 2, none⟩ = some (.slice (some ⟨b1, o1, none⟩) cs.length c)) := hide (fun V h => ⟨cell_keep h ez, cell_keep h c0, cell_keep h c1, cell_keep h c2⟩)
            obtain ⟨j0, hj0, hy0, hy1, hy2⟩ := info_parts Try.info2
            obtain ⟨j1, hj1, hx0, hx1, hx2⟩ := info_parts infoRow
            obtain ⟨R7, hR7⟩ : ∃ R7, R7 = (allF wd hi cs r (f ++ [z])).take (m - X.length) := ⟨_, rfl⟩
            have HR7 := hide hR7
            have hlen7 : R7.length ≤ 400 := by rw [hR7, List.length_take]; omega
            have HIH : Hid (∀ (B : Nat) (g6 c6 : Nat) (V : World), Below wr.heap.size wr V → V.ownsRow B 2 1 (.slice (some ⟨g6, 0, none⟩) (f.length + 1) c6) (f.length + 1) ((f ++ [z]).map intV) → B ≤ V.heap.size → Calls Try.prog 37 #[.agg #[.int .i64 wd, .int .i64 hi, .slice (some ⟨b1, o1, none⟩) cs.length c], .slice (some ⟨g6, 0, none⟩) (f.length + 1) c6, .int .i64 O, .slice none 0 0, .int .i64 ((m : Int) - (X.length : Int))] V (GoPost B R7 V)) := hide (fun B g6 c6 V hb h hB' => by
              have hlen : (f ++ [z]).length = f.length + 1 := by simp
              have k := IH.out (f ++ [z]) B (some ⟨b1, o1, none⟩) c g6 c6 (m - X.length) V (by have := HFL.out; omega) (hA5.out.keep hb) (by rw [hlen]; exact h) hB' (fun y hy => by
                rcases List.mem_append.1 hy with hy | hy
                · exact HZ.out y hy
                · have : y = z := by simpa using hy
                  rw [this]; exact HZZ.out) (by omega) (by omega)
              rw [hlen, ← HOO.out, show ((m - X.length : Nat) : Int) = (m : Int) - (X.length : Int) by omega, ← HR7.out] at k
              exact k)
            clear hR7
            by_cases hi0 : f.length = 0
            · have hdi : decide (0 < f.length) = false := decide_eq_false (by omega)
              have hok : okNext cs f z = true := by unfold okNext; rw [← HAA.out, hdi]; simp [hA0']
              have HNX : Hid ((goX wd hi cs f r (k + 1)).take m = X ++ (allF wd hi cs r (f ++ [z])).take (m - X.length)) := hide (by rw [goX_step hzk hok (by rw [← hXX.out]; exact hXm), ← hXX.out, hXt.out])
              have hltX : Hid (∀ x ∈ vs, ∀ g, x.ownBlock = some g → g < wr.heap.size) := hide hO.out.lt
              clear hi0 hzk hok u0 u1 z0 z1

              go_wp2_with fail
              go_quiet (fail)
              have hBq : Below wr.heap.size wr (wr.drewN nq) := quiet_below ⟨nq, rfl⟩
              obtain ⟨wq, hwq⟩ : ∃ wq, wq = wr.drewN nq := ⟨_, rfl⟩
              rw [← hwq] at hBq ⊢
              have hsq : wr.heap.size ≤ wq.heap.size := hBq.size
              have hd1 : Below wr.heap.size wr wq.drew := Below.trans' hBq (Below.drew (Below.refl _ _))
              have hszw : W0.heap.size ≤ wr.heap.size := HB.out.size
              clear hwq ez c0 c1 c2 hne hand
              go_wp2_with fail
              go_region_held3 (fun V => V.cell? ⟨gp, k, none⟩ = some (.int .i64 z) ∧ V.cell? ⟨W.heap.size, 0, none⟩ = some (.int .i64 wd) ∧ V.cell? ⟨W.heap.size, 1, none⟩ = some (.int .i64 hi) ∧ V.cell? ⟨W.heap.size, 2, none⟩ = some (.slice (some ⟨b1, o1, none⟩) cs.length c)) (first | exact CW8 | exact CW.out _ (by with_reducible (repeat (first | exact hbl7 | exact hbl6 | exact hbl5 | exact hd1 | exact hBq | refine Below.alloc' ?_ _ | refine Below.drew ?_)))) (first | (go_at_call 59; (with_reducible refine (HOWN.out _ (by with_reducible (repeat (first | exact hbl7 | exact hbl6 | exact hbl5 | exact hd1 | exact hBq | refine Below.alloc' ?_ _ | refine Below.drew ?_)))).mono ?_); rintro e w5 ⟨g5, c5, rfl, ho5', hb5⟩; have hbl5 : Below wr.heap.size wr w5 := Below.trans' (by with_reducible (repeat (first | exact hbl7 | exact hbl6 | exact hbl5 | exact hd1 | exact hBq | refine Below.alloc' ?_ _ | refine Below.drew ?_))) hb5; have hs5 : wr.heap.size ≤ w5.heap.size := hbl5.size; have ho5 := ownsRow_base (base' := wr.heap.size) ho5' (by first | exact hsq | (simp; omega))) | ((refine step_append_own (by rfl) _ _ _ (by rfl) wr.heap.size 2 j0 (.int .i64 0) 1 8 Try.underlying22 hj0 hy0 hy1 hy2 rfl (by decide) _ _ _ (by rfl) (ho5.alloc _) ⟨w5.heap.size, 0, none⟩ 1 1 [.int .i64 z] (by rfl) rfl (cell_one_new _ _ _) (by simp [Value.oneCell']) (by unfold maxLen; omega) (by omega) (by simp; omega) ?_); intro v6 w6 ho6' hgrow6 hnil6; obtain ⟨g6, c6, rfl⟩ := own_some ho6' (fun e => by have := hnil6.1 e; simp at this); have hbl6 : Below wr.heap.size wr w6 := (Below.alloc' hbl5 _).grown hgrow6 (by simp; omega) (fun j hj => (ho5.lt j hj).1); have hs6 : wr.heap.size ≤ w6.heap.size := hbl6.size; have ho6 : w6.ownsRow wr.heap.size 2 1 (.slice (some ⟨g6, 0, none⟩) (f.length + 1) c6) (f.length + 1) ((f ++ [z]).map intV) := by simpa [intV] using ho6') | ((refine step_append_own (by rfl) _ _ _ (by rfl) wr.heap.size 2 j0 (.int .i64 0) 1 8 Try.underlying22 hj0 hy0 hy1 hy2 rfl (by decide) _ _ _ (by rfl) ho5 ⟨wq.heap.size, 0, none⟩ 1 1 [.int .i64 z] (by rfl) rfl (fun j u hu => cell_keep hb5 (cell_one_new _ _ _ j u hu)) (by simp [Value.oneCell']) (by unfold maxLen; omega) (by omega) (by omega) ?_); intro v6 w6 ho6' hgrow6 hnil6; obtain ⟨g6, c6, rfl⟩ := own_some ho6' (fun e => by have := hnil6.1 e; simp at this); have hbl6 : Below wr.heap.size wr w6 := hbl5.grown hgrow6 (by omega) (fun j hj => (ho5.lt j hj).1); have hs6 : wr.heap.size ≤ w6.heap.size := hbl6.size; have ho6 : w6.ownsRow wr.heap.size 2 1 (.slice (some ⟨g6, 0, none⟩) (f.length + 1) c6) (f.length + 1) ((f ++ [z]).map intV) := by simpa [intV] using ho6') | (go_at_call 37; (with_reducible refine (HIH.out wr.heap.size g6 c6 _ hbl6 ho6 hs6).mono ?_); rintro e w7 ⟨g7, c7, vs7, rfl, hr7, hb7⟩; have hbl7 : Below wr.heap.size wr w7 := Below.trans' hbl6 hb7; have hs7 : wr.heap.size ≤ w7.heap.size := hbl7.size; have hO7 := hO.out.keep hbl7) | ((refine step_append_own (by rfl) _ _ _ (by rfl) W0.heap.size 22 j1 (.slice none 0 0) 1 24 Try.underlying26 hj1 hx0 hx1 hx2 rfl (by decide) _ _ _ (by rfl) hO7.l.own ⟨g7, 0, none⟩ R7.length c7 vs7 (by rfl) (by rw [hr7.l.len, Nat.mul_one]) (rows_news hr7.l rfl) (rows_ones hr7.l) (by unfold maxLen; omega) (by omega) (by omega) ?_); intro v8 w8 ho8 hgrow8 hnil8; have hO8 := hide (hO7.app hr7 hltX.out (by omega) ho8 hgrow8); have hB8 := hide ((HB.out.trans (hbl7.mono (by omega))).grown hgrow8 (by omega) (fun j hj => (hO7.l.own.lt j hj).1)); have hPO8 := hide (rowI_by (ownsRow_keep hPO.out hbl7) (ints_by_grown hO7.l.own hgrow8)); have hs8 : Hid (W3.heap.size ≤ w8.heap.size) := hide (by have := hgrow8.size; have := hZ.out; omega); have CW8 : w8.cell? ⟨gp, k, none⟩ = some (.int .i64 z) ∧ w8.cell? ⟨W.heap.size, 0, none⟩ = some (.int .i64 wd) ∧ w8.cell? ⟨W.heap.size, 1, none⟩ = some (.int .i64 hi) ∧ w8.cell? ⟨W.heap.size, 2, none⟩ = some (.slice (some ⟨b1, o1, none⟩) cs.length c) := ⟨by rw [hPO8.out.cellAt k (by omega), List.getElem?_map, hgz.out]; rfl, (hX0.out.keep hB8.out).1, (hX0.out.keep hB8.out).2.1, (hX0.out.keep hB8.out).2.2⟩; have hnn8 : v8 ≠ .slice none 0 0 := (fun e => by have := hnil8.1 e; simp at this)))
              all_goals
                clear CW8 ho5 ho5' hb5 hbl5 ho6 ho6' hgrow6 hnil6 hbl6 hb7 hbl7 hO7 hr7 ho8 hgrow8 hnil8 hd1 hBq
                go_wp2_with fail
                go_roundw
                case rel => exact ⟨k + 1, vs ++ vs7, goX wd hi cs f r (k + 1), by go_num, by omega, hide rfl, hnn8, hide (by rw [HNX.out, HR7.out.symm]; exact hO8.out), hPO8, hs8, hB8.out⟩
                case measure => simp [intOf]; omega
            · obtain ⟨j, hj⟩ : ∃ j, f.length = j + 1 := ⟨f.length - 1, by omega⟩
              obtain ⟨b6, o6, y, he6, ey, hgy⟩ := (intsAt_of_ownsRow hF5.out).one (k := j) (by omega)
              cases he6
              rw [Nat.zero_add] at ey
              obtain ⟨b7, o7, m2, he7, em, hgm⟩ := hA5.out.one (k := j) (by omega)
              cases he7
              obtain ⟨b8, o8, n', he8, en, hgn'⟩ := hA5.out.one hic
              cases he8
              obtain rfl : n' = (N : Int) := by have := hgn'.out; rw [hgn.out] at this; exact (Option.some.inj this).symm
              have hst : Hid (okNext cs f z = (decide (A = 0) && !(decide ((N : Int) = m2) && decide (z < y)))) := hide (by rw [HAA.out]; exact okNext_pos hj hgn.out hgm.out hgy.out)
              have hdi : decide (0 < f.length) = true := decide_eq_true (by omega)
              have hij : (f.length : Int) - 1 = (j : Int) := by omega
              have hijw : IntKind.i64.wrap ((f.length : Int) - 1) = (j : Int) := by rw [IntKind.wrap_i64]; omega
              have hjf : j < f.length := by omega
              have hjc : j < cs.length := by omega
              clear hi0 hj hgn' hgm hgy
              by_cases hnm : (N : Int) = m2
              · have hnn2 : ((N : Int) == m2) = true := by simp [hnm]
                by_cases hzy : z < y
                · have hzb : decide (z < y) = true := decide_eq_true hzy
                  have hno : okNext cs f z = false := by rw [hst.out]; simp [hA0', hnm, hzy]
                  have HNX : Hid (X = goX wd hi cs f r (k + 1)) := hide (by rw [goX_no hzk hno, hXX.out])
                  clear hzk hno hA0' hnm z0 z1 u0 u1
                  go_wp2_with fail
                  go_quiet (fail)
                  have hBq : Below wr.heap.size wr (wr.drewN nq) := quiet_below ⟨nq, rfl⟩
                  have hB6 := hide (Below.trans' HB.out hBq)
                  have hO6 := hide (hO.out.keep hBq)
                  have hPO6 := hide (ownsRow_keep hPO.out hBq)
                  have hZ6 : Hid (W3.heap.size ≤ (wr.drewN nq).heap.size) := hide (Nat.le_trans hZ.out hBq.size)
                  clear ez ey em en c0 c1 c2 hne hand hor hBq hij hijw
                  go_wp2_with fail
                  go_roundw
                  case rel => exact ⟨k + 1, vs, X, by go_num, by omega, HNX, by simp, by rw [hXt.out]; exact hO6, hPO6, hZ6, hB6.out⟩
                  case measure => simp [intOf]; omega
                · have hzb : decide (z < y) = false := decide_eq_false hzy
                  have hok : okNext cs f z = true := by rw [hst.out]; simp [hA0', hzy]
                  have HNX : Hid ((goX wd hi cs f r (k + 1)).take m = X ++ (allF wd hi cs r (f ++ [z])).take (m - X.length)) := hide (by rw [goX_step hzk hok (by rw [← hXX.out]; exact hXm), ← hXX.out, hXt.out])
                  have hltX : Hid (∀ x ∈ vs, ∀ g, x.ownBlock = some g → g < wr.heap.size) := hide hO.out.lt
                  clear hnm hzk hok u0 u1 z0 z1
                  
                  go_wp2_with fail
                  go_quiet (fail)
                  have hBq : Below wr.heap.size wr (wr.drewN nq) := quiet_below ⟨nq, rfl⟩
                  obtain ⟨wq, hwq⟩ : ∃ wq, wq = wr.drewN nq := ⟨_, rfl⟩
                  rw [← hwq] at hBq ⊢
                  have hsq : wr.heap.size ≤ wq.heap.size := hBq.size
                  have hd1 : Below wr.heap.size wr wq.drew := Below.trans' hBq (Below.drew (Below.refl _ _))
                  have hszw : W0.heap.size ≤ wr.heap.size := HB.out.size
                  clear hwq ez ey em en c0 c1 c2 hij hijw hne hand
                  go_wp2_with fail
                  go_region_held3 (fun V => V.cell? ⟨gp, k, none⟩ = some (.int .i64 z) ∧ V.cell? ⟨W.heap.size, 0, none⟩ = some (.int .i64 wd) ∧ V.cell? ⟨W.heap.size, 1, none⟩ = some (.int .i64 hi) ∧ V.cell? ⟨W.heap.size, 2, none⟩ = some (.slice (some ⟨b1, o1, none⟩) cs.length c)) (first | exact CW8 | exact CW.out _ (by with_reducible (repeat (first | exact hbl7 | exact hbl6 | exact hbl5 | exact hd1 | exact hBq | refine Below.alloc' ?_ _ | refine Below.drew ?_)))) (first | (go_at_call 59; (with_reducible refine (HOWN.out _ (by with_reducible (repeat (first | exact hbl7 | exact hbl6 | exact hbl5 | exact hd1 | exact hBq | refine Below.alloc' ?_ _ | refine Below.drew ?_)))).mono ?_); rintro e w5 ⟨g5, c5, rfl, ho5', hb5⟩; have hbl5 : Below wr.heap.size wr w5 := Below.trans' (by with_reducible (repeat (first | exact hbl7 | exact hbl6 | exact hbl5 | exact hd1 | exact hBq | refine Below.alloc' ?_ _ | refine Below.drew ?_))) hb5; have hs5 : wr.heap.size ≤ w5.heap.size := hbl5.size; have ho5 := ownsRow_base (base' := wr.heap.size) ho5' (by first | exact hsq | (simp; omega))) | ((refine step_append_own (by rfl) _ _ _ (by rfl) wr.heap.size 2 j0 (.int .i64 0) 1 8 Try.underlying22 hj0 hy0 hy1 hy2 rfl (by decide) _ _ _ (by rfl) (ho5.alloc _) ⟨w5.heap.size, 0, none⟩ 1 1 [.int .i64 z] (by rfl) rfl (cell_one_new _ _ _) (by simp [Value.oneCell']) (by unfold maxLen; omega) (by omega) (by simp; omega) ?_); intro v6 w6 ho6' hgrow6 hnil6; obtain ⟨g6, c6, rfl⟩ := own_some ho6' (fun e => by have := hnil6.1 e; simp at this); have hbl6 : Below wr.heap.size wr w6 := (Below.alloc' hbl5 _).grown hgrow6 (by simp; omega) (fun j hj => (ho5.lt j hj).1); have hs6 : wr.heap.size ≤ w6.heap.size := hbl6.size; have ho6 : w6.ownsRow wr.heap.size 2 1 (.slice (some ⟨g6, 0, none⟩) (f.length + 1) c6) (f.length + 1) ((f ++ [z]).map intV) := by simpa [intV] using ho6') | ((refine step_append_own (by rfl) _ _ _ (by rfl) wr.heap.size 2 j0 (.int .i64 0) 1 8 Try.underlying22 hj0 hy0 hy1 hy2 rfl (by decide) _ _ _ (by rfl) ho5 ⟨wq.heap.size, 0, none⟩ 1 1 [.int .i64 z] (by rfl) rfl (fun j u hu => cell_keep hb5 (cell_one_new _ _ _ j u hu)) (by simp [Value.oneCell']) (by unfold maxLen; omega) (by omega) (by omega) ?_); intro v6 w6 ho6' hgrow6 hnil6; obtain ⟨g6, c6, rfl⟩ := own_some ho6' (fun e => by have := hnil6.1 e; simp at this); have hbl6 : Below wr.heap.size wr w6 := hbl5.grown hgrow6 (by omega) (fun j hj => (ho5.lt j hj).1); have hs6 : wr.heap.size ≤ w6.heap.size := hbl6.size; have ho6 : w6.ownsRow wr.heap.size 2 1 (.slice (some ⟨g6, 0, none⟩) (f.length + 1) c6) (f.length + 1) ((f ++ [z]).map intV) := by simpa [intV] using ho6') | (go_at_call 37; (with_reducible refine (HIH.out wr.heap.size g6 c6 _ hbl6 ho6 hs6).mono ?_); rintro e w7 ⟨g7, c7, vs7, rfl, hr7, hb7⟩; have hbl7 : Below wr.heap.size wr w7 := Below.trans' hbl6 hb7; have hs7 : wr.heap.size ≤ w7.heap.size := hbl7.size; have hO7 := hO.out.keep hbl7) | ((refine step_append_own (by rfl) _ _ _ (by rfl) W0.heap.size 22 j1 (.slice none 0 0) 1 24 Try.underlying26 hj1 hx0 hx1 hx2 rfl (by decide) _ _ _ (by rfl) hO7.l.own ⟨g7, 0, none⟩ R7.length c7 vs7 (by rfl) (by rw [hr7.l.len, Nat.mul_one]) (rows_news hr7.l rfl) (rows_ones hr7.l) (by unfold maxLen; omega) (by omega) (by omega) ?_); intro v8 w8 ho8 hgrow8 hnil8; have hO8 := hide (hO7.app hr7 hltX.out (by omega) ho8 hgrow8); have hB8 := hide ((HB.out.trans (hbl7.mono (by omega))).grown hgrow8 (by omega) (fun j hj => (hO7.l.own.lt j hj).1)); have hPO8 := hide (rowI_by (ownsRow_keep hPO.out hbl7) (ints_by_grown hO7.l.own hgrow8)); have hs8 : Hid (W3.heap.size ≤ w8.heap.size) := hide (by have := hgrow8.size; have := hZ.out; omega); have CW8 : w8.cell? ⟨gp, k, none⟩ = some (.int .i64 z) ∧ w8.cell? ⟨W.heap.size, 0, none⟩ = some (.int .i64 wd) ∧ w8.cell? ⟨W.heap.size, 1, none⟩ = some (.int .i64 hi) ∧ w8.cell? ⟨W.heap.size, 2, none⟩ = some (.slice (some ⟨b1, o1, none⟩) cs.length c) := ⟨by rw [hPO8.out.cellAt k (by omega), List.getElem?_map, hgz.out]; rfl, (hX0.out.keep hB8.out).1, (hX0.out.keep hB8.out).2.1, (hX0.out.keep hB8.out).2.2⟩; have hnn8 : v8 ≠ .slice none 0 0 := (fun e => by have := hnil8.1 e; simp at this)))
                  all_goals
                    clear CW8 ho5 ho5' hb5 hbl5 ho6 ho6' hgrow6 hnil6 hbl6 hb7 hbl7 hO7 hr7 ho8 hgrow8 hnil8 hd1 hBq
                    go_wp2_with fail
                    go_roundw
                    case rel => exact ⟨k + 1, vs ++ vs7, goX wd hi cs f r (k + 1), by go_num, by omega, hide rfl, hnn8, hide (by rw [HNX.out, HR7.out.symm]; exact hO8.out), hPO8, hs8, hB8.out⟩
                    case measure => simp [intOf]; omega
              · have hnn2 : ((N : Int) == m2) = false := by simp [hnm]
                have hok : okNext cs f z = true := by rw [hst.out]; simp [hA0', hnm]
                have HNX : Hid ((goX wd hi cs f r (k + 1)).take m = X ++ (allF wd hi cs r (f ++ [z])).take (m - X.length)) := hide (by rw [goX_step hzk hok (by rw [← hXX.out]; exact hXm), ← hXX.out, hXt.out])
                have hltX : Hid (∀ x ∈ vs, ∀ g, x.ownBlock = some g → g < wr.heap.size) := hide hO.out.lt
                clear hst hzk hok u0 u1 z0 z1
                
                go_wp2_with fail
                go_quiet (fail)
                have hBq : Below wr.heap.size wr (wr.drewN nq) := quiet_below ⟨nq, rfl⟩
                obtain ⟨wq, hwq⟩ : ∃ wq, wq = wr.drewN nq := ⟨_, rfl⟩
                rw [← hwq] at hBq ⊢
                have hsq : wr.heap.size ≤ wq.heap.size := hBq.size
                have hd1 : Below wr.heap.size wr wq.drew := Below.trans' hBq (Below.drew (Below.refl _ _))
                have hszw : W0.heap.size ≤ wr.heap.size := HB.out.size
                clear hwq ez ey em en c0 c1 c2 hij hijw hne hand
                go_wp2_with fail
                go_region_held3 (fun V => V.cell? ⟨gp, k, none⟩ = some (.int .i64 z) ∧ V.cell? ⟨W.heap.size, 0, none⟩ = some (.int .i64 wd) ∧ V.cell? ⟨W.heap.size, 1, none⟩ = some (.int .i64 hi) ∧ V.cell? ⟨W.heap.size, 2, none⟩ = some (.slice (some ⟨b1, o1, none⟩) cs.length c)) (first | exact CW8 | exact CW.out _ (by with_reducible (repeat (first | exact hbl7 | exact hbl6 | exact hbl5 | exact hd1 | exact hBq | refine Below.alloc' ?_ _ | refine Below.drew ?_)))) (first | (go_at_call 59; (with_reducible refine (HOWN.out _ (by with_reducible (repeat (first | exact hbl7 | exact hbl6 | exact hbl5 | exact hd1 | exact hBq | refine Below.alloc' ?_ _ | refine Below.drew ?_)))).mono ?_); rintro e w5 ⟨g5, c5, rfl, ho5', hb5⟩; have hbl5 : Below wr.heap.size wr w5 := Below.trans' (by with_reducible (repeat (first | exact hbl7 | exact hbl6 | exact hbl5 | exact hd1 | exact hBq | refine Below.alloc' ?_ _ | refine Below.drew ?_))) hb5; have hs5 : wr.heap.size ≤ w5.heap.size := hbl5.size; have ho5 := ownsRow_base (base' := wr.heap.size) ho5' (by first | exact hsq | (simp; omega))) | ((refine step_append_own (by rfl) _ _ _ (by rfl) wr.heap.size 2 j0 (.int .i64 0) 1 8 Try.underlying22 hj0 hy0 hy1 hy2 rfl (by decide) _ _ _ (by rfl) (ho5.alloc _) ⟨w5.heap.size, 0, none⟩ 1 1 [.int .i64 z] (by rfl) rfl (cell_one_new _ _ _) (by simp [Value.oneCell']) (by unfold maxLen; omega) (by omega) (by simp; omega) ?_); intro v6 w6 ho6' hgrow6 hnil6; obtain ⟨g6, c6, rfl⟩ := own_some ho6' (fun e => by have := hnil6.1 e; simp at this); have hbl6 : Below wr.heap.size wr w6 := (Below.alloc' hbl5 _).grown hgrow6 (by simp; omega) (fun j hj => (ho5.lt j hj).1); have hs6 : wr.heap.size ≤ w6.heap.size := hbl6.size; have ho6 : w6.ownsRow wr.heap.size 2 1 (.slice (some ⟨g6, 0, none⟩) (f.length + 1) c6) (f.length + 1) ((f ++ [z]).map intV) := by simpa [intV] using ho6') | ((refine step_append_own (by rfl) _ _ _ (by rfl) wr.heap.size 2 j0 (.int .i64 0) 1 8 Try.underlying22 hj0 hy0 hy1 hy2 rfl (by decide) _ _ _ (by rfl) ho5 ⟨wq.heap.size, 0, none⟩ 1 1 [.int .i64 z] (by rfl) rfl (fun j u hu => cell_keep hb5 (cell_one_new _ _ _ j u hu)) (by simp [Value.oneCell']) (by unfold maxLen; omega) (by omega) (by omega) ?_); intro v6 w6 ho6' hgrow6 hnil6; obtain ⟨g6, c6, rfl⟩ := own_some ho6' (fun e => by have := hnil6.1 e; simp at this); have hbl6 : Below wr.heap.size wr w6 := hbl5.grown hgrow6 (by omega) (fun j hj => (ho5.lt j hj).1); have hs6 : wr.heap.size ≤ w6.heap.size := hbl6.size; have ho6 : w6.ownsRow wr.heap.size 2 1 (.slice (some ⟨g6, 0, none⟩) (f.length + 1) c6) (f.length + 1) ((f ++ [z]).map intV) := by simpa [intV] using ho6') | (go_at_call 37; (with_reducible refine (HIH.out wr.heap.size g6 c6 _ hbl6 ho6 hs6).mono ?_); rintro e w7 ⟨g7, c7, vs7, rfl, hr7, hb7⟩; have hbl7 : Below wr.heap.size wr w7 := Below.trans' hbl6 hb7; have hs7 : wr.heap.size ≤ w7.heap.size := hbl7.size; have hO7 := hO.out.keep hbl7) | ((refine step_append_own (by rfl) _ _ _ (by rfl) W0.heap.size 22 j1 (.slice none 0 0) 1 24 Try.underlying26 hj1 hx0 hx1 hx2 rfl (by decide) _ _ _ (by rfl) hO7.l.own ⟨g7, 0, none⟩ R7.length c7 vs7 (by rfl) (by rw [hr7.l.len, Nat.mul_one]) (rows_news hr7.l rfl) (rows_ones hr7.l) (by unfold maxLen; omega) (by omega) (by omega) ?_); intro v8 w8 ho8 hgrow8 hnil8; have hO8 := hide (hO7.app hr7 hltX.out (by omega) ho8 hgrow8); have hB8 := hide ((HB.out.trans (hbl7.mono (by omega))).grown hgrow8 (by omega) (fun j hj => (hO7.l.own.lt j hj).1)); have hPO8 := hide (rowI_by (ownsRow_keep hPO.out hbl7) (ints_by_grown hO7.l.own hgrow8)); have hs8 : Hid (W3.heap.size ≤ w8.heap.size) := hide (by have := hgrow8.size; have := hZ.out; omega); have CW8 : w8.cell? ⟨gp, k, none⟩ = some (.int .i64 z) ∧ w8.cell? ⟨W.heap.size, 0, none⟩ = some (.int .i64 wd) ∧ w8.cell? ⟨W.heap.size, 1, none⟩ = some (.int .i64 hi) ∧ w8.cell? ⟨W.heap.size, 2, none⟩ = some (.slice (some ⟨b1, o1, none⟩) cs.length c) := ⟨by rw [hPO8.out.cellAt k (by omega), List.getElem?_map, hgz.out]; rfl, (hX0.out.keep hB8.out).1, (hX0.out.keep hB8.out).2.1, (hX0.out.keep hB8.out).2.2⟩; have hnn8 : v8 ≠ .slice none 0 0 := (fun e => by have := hnil8.1 e; simp at this)))
                all_goals
                  clear CW8 ho5 ho5' hb5 hbl5 ho6 ho6' hgrow6 hnil6 hbl6 hb7 hbl7 hO7 hr7 ho8 hgrow8 hnil8 hd1 hBq
                  go_wp2_with fail
                  go_roundw
                  case rel => exact ⟨k + 1, vs ++ vs7, goX wd hi cs f r (k + 1), by go_num, by omega, hide rfl, hnn8, hide (by rw [HNX.out, HR7.out.symm]; exact hO8.out), hPO8, hs8, hB8.out⟩
                  case measure => simp [intOf]; omega
          · have hne : (A != 0) = true := by simp [hA0']
            have hno : okNext cs f z = false := by unfold okNext; rw [← HAA.out]; simp [hA0']
            have HNX : Hid (X = goX wd hi cs f r (k + 1)) := hide (by rw [goX_no hzk hno, hXX.out])
            clear hzk hno hA0' z0 z1 u0 u1
            go_wp2_with fail
            go_quiet (fail)
            have hBq : Below wr.heap.size wr (wr.drewN nq) := quiet_below ⟨nq, rfl⟩
            have hB6 := hide (Below.trans' HB.out hBq)
            have hO6 := hide (hO.out.keep hBq)
            have hPO6 := hide (ownsRow_keep hPO.out hBq)
            have hZ6 : Hid (W3.heap.size ≤ (wr.drewN nq).heap.size) := hide (Nat.le_trans hZ.out hBq.size)
            clear ez c0 c1 c2 hne hand hor hBq
            go_wp2_with fail
            go_roundw
            case rel => exact ⟨k + 1, vs, X, by go_num, by omega, HNX, by simp, by rw [hXt.out]; exact hO6, hPO6, hZ6, hB6.out⟩
            case measure => simp [intOf]; omega
        · obtain rfl : k = P.length := by omega
          have hfin : Hid (GoPost B R W (.returned (.slice (some ⟨gv, 0, none⟩) X.length cv)) wr) := hide (by
            have h1 : R = X := by rw [HR.out, ← goX_all, ← HPL.out, ← hXX.out, hXt.out]
            rw [h1]
            exact ⟨gv, cv, vs, rfl, hO.out.base (by have := hB0.out.size; omega), hBW.out⟩)
          clear hXX hO
          go_wp2_with fail
          go_ret
          exact hfin.out
      · have hfd : decide (((X.take m).length : Int) < (m : Int)) = false := decide_eq_false (by omega)
        have hXm : m ≤ X.length := by rw [List.length_take] at hfull; omega
        have hfin : Hid (GoPost B R W (.returned (.slice (some ⟨gv, 0, none⟩) (X.take m).length cv)) wr) := hide (by
          have h1 : R = X.take m := by rw [HR.out, hXX.out]; rw [hXX.out] at hXm; exact goX_full hXm
          rw [h1]
          exact ⟨gv, cv, vs, rfl, hO.out.base (by have := hB0.out.size; omega), hBW.out⟩)
        clear hXX hO hXm
        obtain ⟨q, hq⟩ : ∃ q, q = (X.take m).length := ⟨_, rfl⟩
        rw [← hq] at hfd hfin ⊢
        have hqn : ¬ (q < m) := by omega
        have hqm : m ≤ q := by omega
        clear hq hfull hlm
        by_cases hlt : k < P.length
        · go_wp2_with fail
          go_ret
          exact hfin.out
        · obtain rfl : k = P.length := by omega
          go_wp2_with fail
          go_ret
          exact hfin.out
end Go.Proofs.Ytkekanllfpdeaab
