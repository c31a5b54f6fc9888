/-
  withShip, the program's text.
-/
import Derived.Test.YtkekanllfpdeaabWs
import Derived.Deep.RegionHeld3
namespace Go.Proofs.Ytkekanllfpdeaab
open Go.RowKit
set_option linter.unusedVariables false

theorem mem_flat_le {wd hi : Int} {cs : List Int} {k m j : Nat} {L : List (List Int)} (h : okL k L) (hm : (plAt wd hi cs k).length ≤ m) : ((L.take j).flatMap (extF wd hi cs)).length ≤ L.length * m :=
  Nat.le_trans (flat_len (L := L.take j) (fun f hf => h f (List.mem_of_mem_take hf)) hm) (Nat.mul_le_mul_right _ (by rw [List.length_take]; omega))
theorem flat_succ {wd hi : Int} {cs : List Int} {j : Nat} {f : List Int} {L : List (List Int)} (h : L[j]? = some f) : (L.take (j + 1)).flatMap (extF wd hi cs) = (L.take j).flatMap (extF wd hi cs) ++ extF wd hi cs f := by
  rw [List.take_add_one, h, List.flatMap_append]
  simp
theorem pad_get {f : List Int} {t : T3} {k i : Nat} (hk : k = f.length) (h3 : k < 3) (ht : t = padF f ∨ ∃ y, t = padF (f ++ [y])) (hi : i < k) : getT t i = f.getD i 0 := by
  rcases ht with rfl | ⟨y, rfl⟩
  · exact getT_pad (by omega)
  · rw [getT_pad (by omega), List.getD_eq_getElem?_getD, List.getD_eq_getElem?_getD, List.getElem?_append_left (by omega)]
theorem pad_set {f : List Int} {t : T3} {k : Nat} {z : Int} (hk : k = f.length) (h3 : k < 3) (ht : t = padF f ∨ ∃ y, t = padF (f ++ [y])) : setT t z k = padF (f ++ [z]) := by
  rcases ht with rfl | ⟨y, rfl⟩
  · exact padF_set hk (by omega)
  · exact padF_same hk (by omega)

theorem ownsRow_setOther {w : World} {base n size b k : Nat} {e : TypeId} {v u : Value} {xs : List Value} (h : w.ownsRow base e size v n xs) (hb : v.ownBlock ≠ some b) : (w.setCell ⟨b, k, none⟩ u).ownsRow base e size v n xs := by
  refine ⟨h.1, ?_⟩
  rcases h.2 with h2 | ⟨g, cap, cur, hv, hg, hh, r⟩
  · exact .inl h2
  · refine .inr ⟨g, cap, cur, hv, hg, (Below.heap_setCell _ _ _ _ (fun e => hb (by rw [hv]; have e' : g = b := e; rw [e']; rfl))).trans hh, r⟩

set_option maxRecDepth 100000 in
set_option maxHeartbeats 8000000 in
theorem withShip_any (wd hi : Int) (a : Option Addr) (c k : Nat) (cs : List Int) (v : Value) (L : List (List Int)) (W : World) (hs : seaB wd hi cs = true) (ha : IntsAt W a cs) (hk1 : 1 ≤ k) (hk : k < cs.length) (hL : okL k L) (hLl : L.length ≤ 2500)
    (hv : TrisAt W v (L.map padF)) : Calls Try.prog 64 #[.agg #[.int .i64 wd, .int .i64 hi, .slice a cs.length c], .int .i64 k, v] W (NewT ((L.flatMap (extF wd hi cs)).map padF) W) := by
  obtain ⟨w0, w1, h0, h1, l1, l3, ho⟩ := seaB_yes hs
  obtain ⟨i0, hi0, hz0, hz1, hz2⟩ := info_parts infoT
  obtain ⟨W0, hW0⟩ : ∃ W0, W0 = W.alloc (.cells #[.int .i64 wd, .int .i64 hi, .slice a cs.length c] 29) := ⟨_, rfl⟩
  have hB0 : Hid (Below W.heap.size W W0) := by rw [hW0]; exact hide (below_alloc _ _)
  have hX0 : Hid (SeaIn W0 W.heap.size wd hi a cs.length c) := by rw [hW0]; exact hide (seaIn_new _ _ _ _ _ _ _)
  have hA0 := hide (ha.keep hB0.out)
  have hV0 := hide (hv.keep hB0.out)
  obtain ⟨j, hkj⟩ : ∃ j, k = j + 1 := ⟨k - 1, by omega⟩
  obtain ⟨b1, o1, n, rfl, hcn, hgn⟩ := hA0.out.one hk
  obtain ⟨b2, o2, m, he2, hcm, hgm⟩ := hA0.out.one (k := j) (by omega)
  cases he2
  obtain ⟨n1, n2⟩ := okFrom_mem ho n (mem_of_get hgn.out)
  have hnk : cs.getD k 0 = n := by rw [List.getD_eq_getElem?_getD, hgn.out]; rfl
  have hmk : cs.getD j 0 = m := by rw [List.getD_eq_getElem?_getD, hgm.out]; rfl
  obtain ⟨P, hP⟩ : ∃ P, P = plAt wd hi cs k := ⟨_, rfl⟩
  have hPn : Hid (plc wd hi n.toNat = P) := hide (by rw [hP]; unfold plAt; rw [hnk])
  obtain ⟨_, pr, pl, _⟩ := pl_facts w0 w1 h0 h1 n1 n2
  rw [hPn.out] at pr pl
  have HPR := hide pr
  have HPL := hide pl
  have HPK := hide hP
  obtain ⟨v, rfl⟩ : ∃ v', v = v' := ⟨_, rfl⟩
  obtain ⟨av, cv, hvs, _⟩ := hV0.out
  rw [List.length_map] at hvs
  subst hvs
  have HCP := hide (fun V => placements_any wd hi n (some ⟨b1, o1, none⟩) cs.length c V w0 w1 h0 h1 n1 n2)
  rw [hPn.out] at HCP
  have HNM := hide (And.intro hnk hmk)
  have hkl := hide hk
  obtain ⟨c0, c1, c2⟩ := hX0.out
  have HKJ := hide hkj
  clear ha hv pr pl hP hnk hmk hkj
  go_enter Try.func64, Try.ntmps64
  go_wp2_with fail
  rw [← hW0]
  clear hW0
  (try go_wp2_with fail)
  have hd : Below W0.heap.size W0 W0.drew := Below.drew (Below.refl _ _)
  have d0 := cell_keep hd c0
  have d1 := cell_keep hd c1
  have d2 := cell_keep hd c2
  have dn := cell_keep hd hcn
  go_region_held3 (fun V => V.cell? ⟨W.heap.size, 0, none⟩ = some (.int .i64 wd) ∧ V.cell? ⟨W.heap.size, 1, none⟩ = some (.int .i64 hi) ∧ V.cell? ⟨W.heap.size, 2, none⟩ = some (.slice (some ⟨b1, o1, none⟩) cs.length c) ∧ V.cell? ⟨b1, o1 + k, none⟩ = some (.int .i64 n)) (first | (exact ⟨d0, d1, d2, dn⟩) | (exact ⟨cell_keep hb1 d0, cell_keep hb1 d1, cell_keep hb1 d2, cell_keep hb1 dn⟩)) (first | (go_at_call 39; (with_reducible refine (HCP.out _).mono ?_); rintro e u1 ⟨ap, cp, rfl, hop, hb1⟩))
  have hB1 := hide (Below.trans' hB0.out (Below.trans' hd hb1))
  have hX1 := hide (hX0.out.keep (Below.trans' hd hb1))
  have hA1 := hide (hA0.out.keep (Below.trans' hd hb1))
  have hV1 : Hid (TrisAt u1 (.slice av (L.map padF).length cv) (L.map padF)) := hide (by rw [List.length_map]; exact hV0.out.keep (Below.trans' hd hb1))
  have hP1 := hide (intsAt_of_ownsRow hop)
  clear hop hb1 hd d0 d1 d2 dn c0 c1 c2 hcn hcm
  have hN0 : Hid (OwnsT u1.heap.size u1 u1 (.slice none 0 0) ((((L.take 0).flatMap (extF wd hi cs)).map padF))) := hide (OwnsT.nil (Below.refl _ _) (Nat.le_refl _))
  go_wp2_with fail
  go_loopw [7, 23] (fun vl vi wr => ∃ (i : Nat) (v0 : Value), v0 = vl ∧ vi = .int .i64 i ∧ i ≤ L.length ∧ OwnsT u1.heap.size u1 wr vl (((L.take i).flatMap (extF wd hi cs)).map padF)) (fun _ vi _ => L.length - (intOf vi).toNat)
  case atStart => exact ⟨0, _, rfl, rfl, Nat.zero_le _, hN0.out⟩
  case round =>
    clear hN0
    obtain ⟨i, vl, rfl, rfl, hil, hO⟩ := hrel
    obtain ⟨wo, hwo⟩ : ∃ wo : World, wo = wr := ⟨_, rfl⟩
    subst hwo
    have HO := hide hO
    by_cases hlt : i < L.length
    · obtain ⟨f, hf⟩ : ∃ f, L[i]? = some f := ⟨_, List.getElem?_eq_getElem hlt⟩
      obtain ⟨hfk, hfr⟩ := hL f (mem_of_get hf)
      obtain ⟨g, t, hag, ht, t0, t1, t2⟩ := (hV1.out.keep (hO.old)).one (k := i) (by rw [List.length_map]; exact hlt)
      subst hag
      have htp : t = padF f := by
        have := ht.out
        rw [List.getElem?_map, hf] at this
        simpa using this.symm
      subst htp
      clear ht
      obtain ⟨x, y, u, hx⟩ : ∃ x y u : Int, padF f = (x, y, u) := ⟨_, _, _, rfl⟩
      have hokT := okT_pad hfr
      rw [hx] at t0 t1 t2 hokT
      dsimp only at t0 t1 t2
      obtain ⟨wb, hwb⟩ : ∃ wb, wb = wo.alloc (.cells #[.int .i64 x, .int .i64 y, .int .i64 u] 61) := ⟨_, rfl⟩
      have hbb : Hid (Below wo.heap.size wo wb) := by rw [hwb]; exact hide (below_alloc _ _)
      have hbx : Hid (wb.heap[wo.heap.size]? = some (.cells (cellsT (x, y, u)) 61 (0, 0))) := by rw [hwb]; exact hide (heap_alloc_new _ _)
      have hcl2 : Calls Try.prog 77 #[.agg #[.int .i64 x, .int .i64 y, .int .i64 u]] wb (RetB (.int .i64 (setL f)) wb) := by
        have := cells_any (x, y, u) hokT wb
        rw [← hx, set3_pad (by omega)] at this
        rw [hx] at this
        exact this
      have HCM := hide hcl2
      have HX := hide hx
      have hTr := hide (setL_range hfr)
      obtain ⟨T, hT⟩ : ∃ T, T = setL f := ⟨_, rfl⟩
      rw [← hT] at HCM hTr
      obtain ⟨acc, hacc⟩ : ∃ acc, acc = (L.take i).flatMap (extF wd hi cs) := ⟨_, rfl⟩
      have HACC : Hid (acc.length ≤ 125000) := hide (by
        have h6 := mem_flat_le (wd := wd) (hi := hi) (cs := cs) (j := i) hL (by rw [← HPK.out]; exact HPL.out)
        rw [← hacc] at h6
        omega)
      have hnext : Hid ((L.take (i + 1)).flatMap (extF wd hi cs) = acc ++ extP wd hi cs f P.length) := hide (by rw [flat_succ hf, hacc, ← extP_all, hfk, HPK.out])
      rw [← hacc] at HO
      have hvlt : Hid (∀ g, vl.ownBlock = some g → g < wo.heap.size) := hide (fun g hg => (HO.out.own.lt g hg).2)
      have HT := hide hT
      clear hcl2 hO hx hT hacc
      go_wp2_with fail
      rw [← hwb]
      clear hwb t0 t1 t2
      (try go_wp2_with fail)
      refine HCM.out.mono ?_
      rintro e w6 ⟨rfl, hb6⟩
      have hb06 : Below wo.heap.size wo w6 := Below.trans' hbb.out hb6
      have hO6 := hide (HO.out.keep hb06)
      have hbx6 := hide (box_keep hbx.out hb6)
      have hvb6 : Hid (vl.ownBlock ≠ some wo.heap.size) := hide (fun e => by have := hvlt.out _ e; omega)
      have hO60 : Hid (OwnsT u1.heap.size u1 w6 vl ((acc ++ extP wd hi cs f 0).map padF)) := hide (by
        have h0 : acc ++ extP wd hi cs f 0 = acc := by simp [extP]
        rw [h0]
        exact hO6.out)
      clear hb6 hb06 hO6
      go_wp2_with fail
      go_loopw [7, 31] (fun v7 vq wr => ∃ (q : Nat) (v0 : Value) (t : T3), v0 = v7 ∧ vq = .int .i64 q ∧ q ≤ P.length ∧ (t = padF f ∨ ∃ y, t = padF (f ++ [y])) ∧ Hid (wr.heap[wo.heap.size]? = some (.cells (cellsT t) 61 (0, 0))) ∧ OwnsT u1.heap.size u1 wr v7 ((acc ++ extP wd hi cs f q).map padF) ∧ v7.ownBlock ≠ some wo.heap.size) (fun _ vq _ => P.length - (intOf vq).toNat)
      case atStart => exact ⟨0, _, (x, y, u), rfl, rfl, Nat.zero_le _, .inl HX.out.symm, hbx6, hO60.out, hvb6.out⟩
      case round =>
        clear hO60 hbx6 hvb6
        obtain ⟨q, vi', t, rfl, rfl, hq, htp, HBX, hOI, hvb⟩ := hrel
        have HOI := hide hOI
        have hP50 : P.length ≤ 50 := HPL.out
        by_cases hlq : q < P.length
        · obtain ⟨e0, e1, e2⟩ := hX1.out.keep hOI.old
          obtain ⟨gp, op, z, hap, hzc, hz⟩ := (hP1.out.keep hOI.old).one hlq
          subst hap
          obtain ⟨b3, o3, n', he3, en, hn'⟩ := (hA1.out.keep hOI.old).one hkl.out
          cases he3
          obtain rfl : n' = n := by have := hn'.out; rw [hgn.out] at this; exact (Option.some.inj this).symm
          obtain ⟨b4, o4, m', he4, em, hm'⟩ := (hA1.out.keep hOI.old).one (k := j) (by have := HKJ.out; have := hkl.out; omega)
          cases he4
          obtain rfl : m' = m := by have := hm'.out; rw [hgm.out] at this; exact (Option.some.inj this).symm
          have HZP : Hid ((plAt wd hi cs f.length)[q]? = some z) := hide (by rw [hfk, ← HPK.out]; exact hz.out)
          obtain ⟨z0, z1⟩ := HPR.out z (mem_of_get hz.out)
          obtain ⟨T0, T1⟩ := hTr.out
          have hand := and_walkI (x := z) (y := T) z0 (by omega) T0 (by omega)
          obtain ⟨A, hA⟩ : ∃ A, A = andI z T := ⟨_, rfl⟩
          rw [← hA] at hand
          obtain ⟨yj, hyj⟩ : ∃ yj, yj = f.getD j 0 := ⟨_, rfl⟩
          have HOK : Hid (okNext cs f z = (decide (A = 0) && !(decide (n' = m') && decide (z < yj)))) := hide (by
            have h10 := HKJ.out
            obtain ⟨h11, h12⟩ := HNM.out
            unfold okNext
            rw [← HT.out, ← hA, hfk, h11, show k - 1 = j by omega, h12, ← hyj, decide_eq_true (show 0 < k by omega), Bool.true_and])
          have hgj : getT t j = yj := by rw [hyj]; exact pad_get (k := k) hfk.symm (by have := hkl.out; omega) htp (by have := HKJ.out; omega)
          obtain ⟨hbj, hbf⟩ := boxT_get HBX.out (k := j) (by have := HKJ.out; have := hkl.out; omega)
          rw [hgj] at hbj
          clear hOI hA hyj hgj z0 z1 T0 T1 e0 e1 hn' hm'
          by_cases hA0 : A = 0
          · have hne : (A != 0) = false := by simp [hA0]
            have HA0 := hide hA0
            clear hA0
            by_cases hnm : n' = m'
            · have hnn : (n' == m') = true := by simp [hnm]
              have HNM2 := hide hnm
              clear hnm
              by_cases hzy : z < yj
              · skip
                have hkm : (k : Int) - 1 = (j : Int) := by have := HKJ.out; omega
                have hj3 : j < 3 := by have := HKJ.out; have := hkl.out; omega
                have hjl : j < cs.length := by have := HKJ.out; have := hkl.out; omega
                have hk3 : k < 3 := by have := hkl.out; omega
                have hnx : Hid (extP wd hi cs f (q + 1) = extP wd hi cs f q) := hide (extP_no HZP.out (by rw [HOK.out]; simp [HA0.out, HNM2.out, hzy]))
                go_wp2_with fail
                go_quiet (fail)
                have hBq : Below wr.heap.size wr (wr.drewN nq) := quiet_below ⟨nq, rfl⟩
                have hO2 := hide (HOI.out.keep hBq)
                have hb2 := hide (box_keep HBX.out hBq)
                clear hBq hbj hbf e2 en em hand hne hnn
                go_wp2_with fail
                go_roundw
                case rel => exact ⟨q + 1, _, t, rfl, by go_num, by omega, htp, hb2, by rw [hnx.out]; exact hO2.out, hvb⟩
                case measure => simp [intOf]; omega
              · skip
                have hkm : (k : Int) - 1 = (j : Int) := by have := HKJ.out; omega
                have hj3 : j < 3 := by have := HKJ.out; have := hkl.out; omega
                have hjl : j < cs.length := by have := HKJ.out; have := hkl.out; omega
                have hk3 : k < 3 := by have := hkl.out; omega
                have hnx : Hid (extP wd hi cs f (q + 1) = extP wd hi cs f q ++ [f ++ [z]]) := hide (extP_yes HZP.out (by rw [HOK.out]; simp [HA0.out, HNM2.out, hzy]))
                go_wp2_with fail
                go_quiet (fail)
                obtain ⟨wq, hwq⟩ : ∃ wq, wq = wr.drewN nq := ⟨_, rfl⟩
                have hBq : Below wr.heap.size wr wq := by rw [hwq]; exact quiet_below ⟨nq, rfl⟩
                have hO2 := hide (HOI.out.keep hBq)
                have hb2 := hide (box_keep HBX.out hBq)
                obtain ⟨bk, fk⟩ := boxT_get hb2.out hk3
                rw [← hwq]
                clear hBq hbj hbf e2 en em hand hwq hne hnn
                go_upto_region 12 with fail
                obtain ⟨t', ht'⟩ : ∃ t', t' = setT t z k := ⟨_, rfl⟩
                have hbs := boxT_set z hb2.out hk3
                rw [← ht'] at hbs
                obtain ⟨ws, hws⟩ : ∃ ws, ws = wq.setCell ⟨wo.heap.size, k, none⟩ (.int .i64 z) := ⟨_, rfl⟩
                have hown : ws.ownsRow u1.heap.size 61 3 vi' ((acc ++ extP wd hi cs f q).map padF).length (flatT ((acc ++ extP wd hi cs f q).map padF)) := by rw [hws]; exact ownsRow_setOther hO2.out.own hvb
                have hold : Below u1.heap.size u1 ws := by rw [hws]; exact hO2.out.old.setCell (p := ⟨wo.heap.size, k, none⟩) HO.out.size _
                have hsz : u1.heap.size ≤ ws.heap.size := hold.size
                rw [← hws] at hbs ⊢
                have hOW : Hid (OwnsT u1.heap.size u1 ws vi' ((acc ++ extP wd hi cs f q).map padF)) := hide ⟨hown, hold, hsz⟩
                have hlenb : ((acc ++ extP wd hi cs f q).map padF).length ≤ 130000 := by
                  rw [List.length_map, List.length_append]
                  have h6 := HACC.out
                  have h7 := extP_len wd hi cs f q
                  have h8 := HPL.out
                  omega
                have hbl := block_lt hbs
                have hHB := hide hbs
                obtain ⟨s0, s1, s2⟩ := t'
                obtain ⟨z0, z1, z2, _, _, _⟩ := boxT hbs
                dsimp only at z0 z1 z2
                obtain ⟨N, hN⟩ : ∃ N, N = ((acc ++ extP wd hi cs f q).map padF).length := ⟨_, rfl⟩
                rw [← hN] at hown hlenb
                clear hold bk fk hws hbs hb2
                go_wp2_with (at_builtin; refine wpList_append_own_at _ rfl _ _ 58 rfl (u1.heap.size) 61 i0 (.agg #[.int .i64 0, .int .i64 0, .int .i64 0]) 3 24 Try.underlying58 hi0 hz0 hz1 hz2 rfl (by decide) _ _ _ rfl (hown.alloc _) ⟨ws.heap.size, 0, none⟩ 1 1 [.int .i64 s0, .int .i64 s1, .int .i64 s2] rfl rfl (World.news_of_block (heap_alloc_new ws (.cells #[.int .i64 s0, .int .i64 s1, .int .i64 s2] 61 (0, 0)))) (by simp [Value.oneCell']) (by unfold maxLen; omega) (by omega) (by simp; omega) ?_)
                intro v' w5 hown' hgrow _ hat
                have hgb : (ws.alloc (.cells #[.int .i64 s0, .int .i64 s1, .int .i64 s2] 61)).heap[wo.heap.size]? = some (.cells (cellsT (s0, s1, s2)) 61 (0, 0)) := (Below.heap_alloc _ _ _ hbl).trans hHB.out
                have hb5 : Hid (w5.heap[wo.heap.size]? = some (.cells (cellsT (s0, s1, s2)) 61 (0, 0))) := hide ((hgrow.block wo.heap.size (by simp; omega) (Ne.symm hvb)).trans hgb)
                have hvb5 : Hid (v'.ownBlock ≠ some wo.heap.size) := hide (by
                  rcases hat with h | h
                  · rw [h]; exact hvb
                  · rw [h]; intro e; simp at e; omega)
                have hO5 : Hid (OwnsT u1.heap.size u1 w5 v' ((acc ++ extP wd hi cs f (q + 1)).map padF)) := hide (by
                  have h9 : (acc ++ extP wd hi cs f (q + 1)).map padF = (acc ++ extP wd hi cs f q).map padF ++ [(s0, s1, s2)] := by
                    rw [hnx.out, ← List.append_assoc, List.map_append (l₂ := [f ++ [z]]), ht', pad_set (by rw [hfk]) hk3 htp]
                    rfl
                  rw [h9]
                  exact hOW.out.snoc (by simpa using hown') hgrow)
                have htp5 : Hid ((s0, s1, s2) = padF f ∨ ∃ y, (s0, s1, s2) = padF (f ++ [y])) := hide (.inr ⟨z, by rw [ht', pad_set (by rw [hfk]) hk3 htp]⟩)
                clear hown' hgrow hat hown hN hlenb z0 z1 z2 hgb hbl
                go_wp2_with fail
                go_roundw
                case rel => exact ⟨q + 1, _, (s0, s1, s2), rfl, by go_num, by omega, htp5.out, hb5, hO5.out, hvb5.out⟩
                case measure => simp [intOf]; omega
            · have hnn : (n' == m') = false := by simp [hnm]
              have hkm : (k : Int) - 1 = (j : Int) := by have := HKJ.out; omega
              have hj3 : j < 3 := by have := HKJ.out; have := hkl.out; omega
              have hjl : j < cs.length := by have := HKJ.out; have := hkl.out; omega
              have hk3 : k < 3 := by have := hkl.out; omega
              have hnx : Hid (extP wd hi cs f (q + 1) = extP wd hi cs f q ++ [f ++ [z]]) := hide (extP_yes HZP.out (by rw [HOK.out]; simp [HA0.out, hnm]))
              go_wp2_with fail
              go_quiet (fail)
              obtain ⟨wq, hwq⟩ : ∃ wq, wq = wr.drewN nq := ⟨_, rfl⟩
              have hBq : Below wr.heap.size wr wq := by rw [hwq]; exact quiet_below ⟨nq, rfl⟩
              have hO2 := hide (HOI.out.keep hBq)
              have hb2 := hide (box_keep HBX.out hBq)
              obtain ⟨bk, fk⟩ := boxT_get hb2.out hk3
              rw [← hwq]
              clear hBq hbj hbf e2 en em hand hwq hne hnn
              go_upto_region 12 with fail
              obtain ⟨t', ht'⟩ : ∃ t', t' = setT t z k := ⟨_, rfl⟩
              have hbs := boxT_set z hb2.out hk3
              rw [← ht'] at hbs
              obtain ⟨ws, hws⟩ : ∃ ws, ws = wq.setCell ⟨wo.heap.size, k, none⟩ (.int .i64 z) := ⟨_, rfl⟩
              have hown : ws.ownsRow u1.heap.size 61 3 vi' ((acc ++ extP wd hi cs f q).map padF).length (flatT ((acc ++ extP wd hi cs f q).map padF)) := by rw [hws]; exact ownsRow_setOther hO2.out.own hvb
              have hold : Below u1.heap.size u1 ws := by rw [hws]; exact hO2.out.old.setCell (p := ⟨wo.heap.size, k, none⟩) HO.out.size _
              have hsz : u1.heap.size ≤ ws.heap.size := hold.size
              rw [← hws] at hbs ⊢
              have hOW : Hid (OwnsT u1.heap.size u1 ws vi' ((acc ++ extP wd hi cs f q).map padF)) := hide ⟨hown, hold, hsz⟩
              have hlenb : ((acc ++ extP wd hi cs f q).map padF).length ≤ 130000 := by
                rw [List.length_map, List.length_append]
                have h6 := HACC.out
                have h7 := extP_len wd hi cs f q
                have h8 := HPL.out
                omega
              have hbl := block_lt hbs
              have hHB := hide hbs
              obtain ⟨s0, s1, s2⟩ := t'
              obtain ⟨z0, z1, z2, _, _, _⟩ := boxT hbs
              dsimp only at z0 z1 z2
              obtain ⟨N, hN⟩ : ∃ N, N = ((acc ++ extP wd hi cs f q).map padF).length := ⟨_, rfl⟩
              rw [← hN] at hown hlenb
              clear hold bk fk hws hbs hb2
              go_wp2_with (at_builtin; refine wpList_append_own_at _ rfl _ _ 58 rfl (u1.heap.size) 61 i0 (.agg #[.int .i64 0, .int .i64 0, .int .i64 0]) 3 24 Try.underlying58 hi0 hz0 hz1 hz2 rfl (by decide) _ _ _ rfl (hown.alloc _) ⟨ws.heap.size, 0, none⟩ 1 1 [.int .i64 s0, .int .i64 s1, .int .i64 s2] rfl rfl (World.news_of_block (heap_alloc_new ws (.cells #[.int .i64 s0, .int .i64 s1, .int .i64 s2] 61 (0, 0)))) (by simp [Value.oneCell']) (by unfold maxLen; omega) (by omega) (by simp; omega) ?_)
              intro v' w5 hown' hgrow _ hat
              have hgb : (ws.alloc (.cells #[.int .i64 s0, .int .i64 s1, .int .i64 s2] 61)).heap[wo.heap.size]? = some (.cells (cellsT (s0, s1, s2)) 61 (0, 0)) := (Below.heap_alloc _ _ _ hbl).trans hHB.out
              have hb5 : Hid (w5.heap[wo.heap.size]? = some (.cells (cellsT (s0, s1, s2)) 61 (0, 0))) := hide ((hgrow.block wo.heap.size (by simp; omega) (Ne.symm hvb)).trans hgb)
              have hvb5 : Hid (v'.ownBlock ≠ some wo.heap.size) := hide (by
                rcases hat with h | h
                · rw [h]; exact hvb
                · rw [h]; intro e; simp at e; omega)
              have hO5 : Hid (OwnsT u1.heap.size u1 w5 v' ((acc ++ extP wd hi cs f (q + 1)).map padF)) := hide (by
                have h9 : (acc ++ extP wd hi cs f (q + 1)).map padF = (acc ++ extP wd hi cs f q).map padF ++ [(s0, s1, s2)] := by
                  rw [hnx.out, ← List.append_assoc, List.map_append (l₂ := [f ++ [z]]), ht', pad_set (by rw [hfk]) hk3 htp]
                  rfl
                rw [h9]
                exact hOW.out.snoc (by simpa using hown') hgrow)
              have htp5 : Hid ((s0, s1, s2) = padF f ∨ ∃ y, (s0, s1, s2) = padF (f ++ [y])) := hide (.inr ⟨z, by rw [ht', pad_set (by rw [hfk]) hk3 htp]⟩)
              clear hown' hgrow hat hown hN hlenb z0 z1 z2 hgb hbl
              go_wp2_with fail
              go_roundw
              case rel => exact ⟨q + 1, _, (s0, s1, s2), rfl, by go_num, by omega, htp5.out, hb5, hO5.out, hvb5.out⟩
              case measure => simp [intOf]; omega
          · have hne : (A != 0) = true := by simp [hA0]
            have hkm : (k : Int) - 1 = (j : Int) := by have := HKJ.out; omega
            have hj3 : j < 3 := by have := HKJ.out; have := hkl.out; omega
            have hjl : j < cs.length := by have := HKJ.out; have := hkl.out; omega
            have hk3 : k < 3 := by have := hkl.out; omega
            have hnx : Hid (extP wd hi cs f (q + 1) = extP wd hi cs f q) := hide (extP_no HZP.out (by rw [HOK.out]; simp [hA0]))
            go_wp2_with fail
            go_quiet (fail)
            have hBq : Below wr.heap.size wr (wr.drewN nq) := quiet_below ⟨nq, rfl⟩
            have hO2 := hide (HOI.out.keep hBq)
            have hb2 := hide (box_keep HBX.out hBq)
            clear hBq hbj hbf e2 en em hand hne
            go_wp2_with fail
            go_roundw
            case rel => exact ⟨q + 1, _, t, rfl, by go_num, by omega, htp, hb2, by rw [hnx.out]; exact hO2.out, hvb⟩
            case measure => simp [intOf]; omega
        · obtain rfl : q = P.length := by omega
          have hfin : Hid (OwnsT u1.heap.size u1 wr vi' (((L.take (i + 1)).flatMap (extF wd hi cs)).map padF)) := hide (by rw [hnext.out]; exact HOI.out)
          clear hOI
          go_wp2_with fail
          go_roundw
          case rel => exact ⟨i + 1, _, rfl, by go_num, by omega, hfin.out⟩
          case measure => simp [intOf]; omega
    · obtain rfl : i = L.length := by omega
      have hfin : Hid (NewT ((L.flatMap (extF wd hi cs)).map padF) W (.returned vl) wo) := hide ⟨vl, rfl, by
        have h5 := HO.out.own
        rw [List.take_length] at h5
        exact ownsRow_base h5 hB1.out.size, hB1.out.trans (HO.out.old.mono hB1.out.size), Nat.le_trans hB1.out.size HO.out.size⟩
      clear hO
      go_wp2_with fail
      go_ret
      exact hfin.out
end Go.Proofs.Ytkekanllfpdeaab
