/-
  FleetList: the program's text.
-/
import Derived.Test.YtkekanllfpdeaabIf
import Derived.Test.YtkekanllfpdeaabRl
namespace Go.Proofs.Ytkekanllfpdeaab
open Go.RowKit
set_option linter.unusedVariables false

def flR (wd hi : Int) (cs : List Int) : List (List Int) × Int := if seaB wd hi cs = true then (if (allF wd hi cs cs.length []).length ≤ 300 then (allF wd hi cs cs.length [], 0) else ([], 3)) else ([], 1)
theorem rows_nil (W W' : World) (k : Int) (h : Below W.heap.size W W') : NewRows ([], k) W (.returned (.tuple #[.slice none 0 0, .int .i64 k])) W' := ⟨none, 0, [], rfl, RowsO.nil _ _, h⟩
theorem padF_take {f : List Int} {n : Nat} (h : f.length = n) (h3 : n ≤ 3) : [(padF f).1, (padF f).2.1, (padF f).2.2].take n = f := by
  subst h
  match f, h3 with
  | [], _ => rfl
  | [x], _ => rfl
  | [x, y], _ => rfl
  | [x, y, z], _ => rfl
theorem sliceAt_any (b n : Nat) (h : n ≤ 3) (w : World) : (Instr.sliceAt 61 (.pointer (some ⟨b, 0, none⟩)) none (some (.int .i64 (n : Int))) none).run Try.prog w = .ok (.slice (some ⟨b, 0, none⟩) n 3) w := by
  have : n = 0 ∨ n = 1 ∨ n = 2 ∨ n = 3 := by omega
  rcases this with rfl | rfl | rfl | rfl
  all_goals
    simp [Instr.sliceAt, run_underlying Try.underlying61]
    try rfl
theorem own_apart {w : World} {base1 base2 n1 n2 size1 size2 : Nat} {e1 e2 : TypeId} {v1 v2 : Value} {xs1 xs2 : List Value} (h1 : w.ownsRow base1 e1 size1 v1 n1 xs1) (h2 : w.ownsRow base2 e2 size2 v2 n2 xs2) (hne : e1 ≠ e2) : ∀ j, v1.ownBlock = some j → v2.ownBlock ≠ some j := by
  intro j hj
  rcases h1.2 with ⟨rfl, _⟩ | ⟨g, cap, cur, rfl, _, hh, _⟩
  · simp [Value.ownBlock] at hj
  · simp [Value.ownBlock] at hj
    subst hj
    exact row_not_box' h2 hh hne
def lvl (wd hi : Int) (cs : List Int) (z : Int) : List (List Int) := levF wd hi cs (cs.length - 1) [[z]]
theorem lvl_all {wd hi : Int} {cs : List Int} (h : 1 ≤ cs.length) : (plAt wd hi cs 0).flatMap (lvl wd hi cs) = allF wd hi cs cs.length [] := all_fleets wd hi cs (r := cs.length - 1) (by omega)

set_option maxRecDepth 100000 in
set_option maxHeartbeats 8000000 in
theorem implFleetList_any (wd hi : Int) (a : Option Addr) (c : Nat) (cs : List Int) (W : World) (ha : IntsAt W a cs) (hl : cs.length ≤ 1048576) :
    Calls Try.prog 12 #[.agg #[.int .i64 wd, .int .i64 hi, .slice a cs.length c]] W (NewRows (flR wd hi cs) W) := by
  obtain ⟨i0, hi0, hz0, hz1, hz2⟩ := info_parts infoRow
  obtain ⟨W0, hW0⟩ : ∃ W0, W0 = W.alloc (.cells #[.int .i64 wd, .int .i64 hi, .slice a cs.length c] 29) := ⟨_, rfl⟩
  have hB0 : Hid (Below W.heap.size W W0) := by rw [hW0]; exact hide (below_alloc _ _)
  have hX0 : Hid (SeaIn W0 W.heap.size wd hi a cs.length c) := by rw [hW0]; exact hide (seaIn_new _ _ _ _ _ _ _)
  have hA0 := hide (ha.keep hB0.out)
  obtain ⟨c0, c1, c2⟩ := hX0.out
  clear ha
  cases hs : seaB wd hi cs
  · have hR : flR wd hi cs = ([], 1) := by simp [flR, hs]
    rw [hR]
    have HS := hide hs
    clear hs hR
    go_enter Try.func12, Try.ntmps12
    go_wp2_with fail
    rw [← hW0]
    clear hW0
    (try go_wp2_with fail)
    refine (implIsSea_is HS.out hA0.out hl).mono ?_
    rintro e w1 ⟨rfl, hb1⟩
    have hfin := hide (rows_nil _ _ 1 (Below.trans' hB0.out hb1))
    clear hb1 c0 c1 c2
    go_wp2_with fail
    go_ret2
    exact hfin.out
  obtain ⟨w0, w1, h0, h1, l1, l3, ho⟩ := seaB_yes hs
  obtain ⟨L, hL⟩ : ∃ L, L = allF wd hi cs cs.length [] := ⟨_, rfl⟩
  have hR : flR wd hi cs = if L.length ≤ 300 then (L, 0) else ([], 3) := by rw [hL]; unfold flR; rw [if_pos hs]
  obtain ⟨RR, hRR⟩ : ∃ RR, RR = flR wd hi cs := ⟨_, rfl⟩
  rw [← hRR]
  have HRR : Hid (RR = if L.length ≤ 300 then (L, 0) else ([], 3)) := hide (by rw [hRR, hR])
  have HLL : Hid (L = (plAt wd hi cs 0).flatMap (lvl wd hi cs)) := hide (by rw [hL, lvl_all l1])
  have HS := hide hs
  clear hs hR hRR hL
  go_enter Try.func12, Try.ntmps12
  go_wp2_with fail
  rw [← hW0]
  clear hW0
  (try go_wp2_with fail)
  refine (implIsSea_is HS.out hA0.out hl).mono ?_
  rintro e wS ⟨rfl, hb1⟩
  have hB1 := hide (Below.trans' hB0.out hb1)
  have hX1 := hide (hX0.out.keep hb1)
  have hA1 := hide (hA0.out.keep hb1)
  clear hb1 c0 c1 c2
  obtain ⟨c0, c1, c2⟩ := hX1.out
  obtain ⟨b1, o1, n, rfl, hcn, hgn⟩ := hA1.out.one (k := 0) (by omega)
  rw [Nat.add_zero] at hcn
  obtain ⟨n1, n2⟩ := okFrom_mem ho n (mem_of_get hgn.out)
  have hnk : cs.getD 0 0 = n := by rw [List.getD_eq_getElem?_getD, hgn.out]; rfl
  obtain ⟨P, hP⟩ : ∃ P, P = plAt wd hi cs 0 := ⟨_, rfl⟩
  have hPn : Hid (plc wd hi n.toNat = P) := hide (by rw [hP]; unfold plAt; rw [hnk])
  have hpf := plAt_facts (k := 0) HS.out (by omega)
  rw [← hP] at hpf HLL
  have HPF := hide hpf
  have HCP := hide (fun V => placements_any wd hi n (some ⟨b1, o1, none⟩) cs.length c V w0 w1 h0 h1 n1 n2)
  rw [hPn.out] at HCP
  have hd : Below wS.heap.size wS wS.drew := Below.drew (Below.refl _ _)
  have d0 := cell_keep hd c0
  have d1 := cell_keep hd c1
  have d2 := cell_keep hd c2
  have dn := cell_keep hd hcn
  have hcp : 0 < cs.length := by omega
  clear hpf hP hnk
  go_wp2_with fail
  go_region_held3 (fun V => V.cell? ⟨W.heap.size, 0, none⟩ = some (.int .i64 wd) ∧ V.cell? ⟨W.heap.size, 1, none⟩ = some (.int .i64 hi) ∧ V.cell? ⟨W.heap.size, 2, none⟩ = some (.slice (some ⟨b1, o1, none⟩) cs.length c) ∧ V.cell? ⟨b1, o1, none⟩ = some (.int .i64 n)) (first | (exact ⟨d0, d1, d2, dn⟩) | (exact ⟨cell_keep hb2 d0, cell_keep hb2 d1, cell_keep hb2 d2, cell_keep hb2 dn⟩)) (first | (go_at_call 39; (with_reducible refine (HCP.out _).mono ?_); rintro e wP ⟨ap, cp, rfl, hop, hb2⟩))
  have hB2 := hide (Below.trans' hB1.out (Below.trans' hd hb2))
  have hX2 := hide (hX1.out.keep (Below.trans' hd hb2))
  have hA2 := hide (hA1.out.keep (Below.trans' hd hb2))
  have hP2 := hide (intsAt_of_ownsRow hop)
  have hP50 : P.length ≤ 50 := HPF.out.2
  clear hop hb2 hd d0 d1 d2 dn c0 c1 c2 hcn
  go_wp2_with fail
  go_loopw [4, 19] (fun v4 v19 wr => ∃ (i : Nat) (vs : List Value) (done : List (List Int)), v19 = .int .i64 i ∧ i ≤ P.length ∧ done.length ≤ 300 ∧ Hid (done = (P.take i).flatMap (lvl wd hi cs)) ∧ Hid (RowsO wP.heap.size wr v4 vs done) ∧ Below wP.heap.size wP wr) (fun _ v19 _ => P.length - (intOf v19).toNat)
  case atStart => exact ⟨0, [], [], rfl, Nat.zero_le _, by simp, hide rfl, hide (RowsO.nil _ _), Below.refl _ _⟩
  case round =>
    obtain ⟨i, vs, done, rfl, hi2, hdl, hD, hO, hB⟩ := hrel
    obtain ⟨wo, hwo⟩ : ∃ wo : World, wo = wr := ⟨_, rfl⟩
    subst hwo
    have hBo := hide hB
    have hX3 := hide (hX2.out.keep hB)
    have hA3 := hide (hA2.out.keep hB)
    have hP3 := hide (hP2.out.keep hB)
    clear hB
    by_cases hlt : i < P.length
    · obtain ⟨b2, o2, z, rfl, ez, hg⟩ := hP3.out.one hlt
      have hzr := HPF.out.1 z (mem_of_get hg.out)
      obtain ⟨M, hM⟩ : ∃ M, M = lvl wd hi cs z := ⟨_, rfl⟩
      have hstep : Hid ((P.take (i + 1)).flatMap (lvl wd hi cs) = done ++ M) := hide (by rw [List.take_add_one, hg.out, List.flatMap_append, hD.out, hM]; simp)
      have hwhole : Hid (L = (done ++ M) ++ (P.drop (i + 1)).flatMap (lvl wd hi cs)) := hide (by rw [HLL.out, ← hstep.out, ← List.flatMap_append, List.take_append_drop])
      have hMl : Hid (∀ g ∈ M, g.length = cs.length) := hide (fun g hg => by rw [hM] at hg; have := mem_levF_length wd hi cs hg; omega)
      have HFF := hide (fleetsFrom_any wd hi z (some ⟨b1, o1, none⟩) c cs wo HS.out hA3.out hzr.1 hzr.2)
      have hM2 : Hid ((levF wd hi cs (cs.length - 1) [[z]]).map padF = M.map padF) := hide (by rw [hM]; rfl)
      rw [hM2.out] at HFF
      have hM5 : M.length ≤ 2500 := by rw [hM]; exact levF_len HS.out z hzr
      have hTl : Hid ((M.map padF).length = M.length) := hide (List.length_map _)
      obtain ⟨T, hT⟩ : ∃ T, T = M.map padF := ⟨_, rfl⟩
      have HTT := hide hT
      rw [← hT] at HFF hTl
      obtain ⟨d0, d1, d2⟩ := hX3.out
      clear hM hD hg hT
      go_wp2_with fail
      with_reducible refine HFF.out.mono ?_
      rintro e wF ⟨vt, rfl, hot⟩
      have hb3 := hot.old
      have HOT := hide hot.own
      have hz3 := hide hot.size
      obtain ⟨at', ct, rfl, _⟩ := OwnsT.at hot
      have hBo3 := hide (Below.trans' hBo.out hb3)
      have hO3 := hide (hO.out.keep hb3)
      rw [hTl.out] at HOT ⊢
      clear hot hb3 d0 d1 d2 hO ez
      go_wp2_with fail
      go_loopw [4, 27] (fun v4 v27 wr => ∃ (k : Nat) (vs : List Value) (dn : List (List Int)), v27 = .int .i64 k ∧ k ≤ M.length ∧ dn.length ≤ 300 ∧ Hid (dn = done ++ M.take k) ∧ Hid (RowsO wP.heap.size wr v4 vs dn) ∧ Hid (wr.ownsRow wo.heap.size 61 3 (.slice at' M.length ct) M.length (flatT T)) ∧ Hid (wo.heap.size ≤ wr.heap.size) ∧ Below wP.heap.size wP wr) (fun _ v27 _ => M.length - (intOf v27).toNat)
      case atStart => exact ⟨0, vs, done, rfl, Nat.zero_le _, hdl, hide (by simp), hO3, HOT, hz3, hBo3.out⟩
      case round =>
        clear hO3
        obtain ⟨k, vs2, dn, rfl, hk, hnl, hN, hO, hQ, hZ, hB⟩ := hrel
        have hBo4 := hide hB
        have hX4 := hide (hX2.out.keep hBo4.out)
        clear hB
        by_cases hlk : k < M.length
        · have HT5 : Hid (TrisAt wr (.slice at' T.length ct) T) := hide (by rw [hTl.out]; exact OwnsT.at (B := wo.heap.size) (W0 := wr) ⟨by rw [hTl.out]; exact hQ.out, Below.refl _ _, hZ.out⟩)
          obtain ⟨gt, t, he, ht, t0, t1, t2⟩ := HT5.out.one (k := k) (by rw [hTl.out]; exact hlk)
          subst he
          obtain ⟨p1, p2, p3⟩ := t
          dsimp only at t0 t1 t2
          have hgM : M[k]? = some (M[k]'hlk) := List.getElem?_eq_getElem hlk
          obtain ⟨g, hg⟩ : ∃ g, g = M[k]'hlk := ⟨_, rfl⟩
          rw [← hg] at hgM
          have hpg : padF g = (p1, p2, p3) := by have h := ht.out; rw [HTT.out, List.getElem?_map, hgM] at h; exact Option.some.inj h
          have hgl : Hid (g.length = cs.length) := hide (hMl.out g (mem_of_get hgM))
          have hgt : Hid ([p1, p2, p3].take cs.length = g) := hide (by have h := padF_take hgl.out l3; rw [hpg] at h; exact h)
          obtain ⟨wb, hwb⟩ : ∃ wb, wb = wr.alloc (.cells #[.int .i64 p1, .int .i64 p2, .int .i64 p3] 61) := ⟨_, rfl⟩
          have hbb : Hid (Below wr.heap.size wr wb) := by rw [hwb]; exact hide (below_alloc _ _)
          have hbx : Hid (wb.heap[wr.heap.size]? = some (.cells (cellsT (p1, p2, p3)) 61 (0, 0))) := by rw [hwb]; exact hide (heap_alloc_new _ _)
          have hOb := hide (hO.out.keep hbb.out)
          have hXb := hide (hX4.out.keep hbb.out)
          have hBob := hide (Below.trans' hBo4.out hbb.out)
          have hQb := hide (ownsRow_keep hQ.out hbb.out)
          obtain ⟨s0, s1, s2, _⟩ := boxT hbx.out
          dsimp only at s0 s1 s2
          obtain ⟨d0, d1, d2⟩ := hXb.out
          obtain ⟨av, cv, hv⟩ := own_form hO.out.l.own
          subst hv
          by_cases h300 : dn.length = 300
          · have hfin : Hid (RR = ([], 3)) := hide (by
              have h1 : 300 < L.length := by
                rw [hwhole.out, List.length_append, List.length_append]
                have h2 : dn.length = done.length + k := by rw [hN.out, List.length_append, List.length_take]; omega
                omega
              rw [HRR.out, if_neg (by omega)])
            have hfin2 : Hid (NewRows RR W (.returned (.tuple #[.slice none 0 0, .int .i64 3])) wb) := hide (by rw [hfin.out]; exact rows_nil W wb 3 (Below.trans' hB2.out hBob.out))
            have hee : ((dn.length : Int) == 300) = true := by simp; omega
            clear hgM hg ht
            go_upto_region 10 with fail
            rw [← hwb]
            clear hwb t0 t1 t2
            go_wp2_with fail
            go_ret2
            exact hfin2.out
          · have hee : ((dn.length : Int) == 300) = false := by simp; omega
            have HCC := hide (Try.slices_Clone_int wr.heap.size 0 cs.length 3 [p1, p2, p3] wb (by simp; omega) (by omega) (fun j hj => by
              have hj3 : j = 0 ∨ j = 1 ∨ j = 2 := by simp at hj; omega
              rcases hj3 with rfl | rfl | rfl
              · exact s0
              · exact s1
              · exact s2))
            rw [hgt.out] at HCC
            have hsl := fun w => sliceAt_any wr.heap.size cs.length l3 w
            have hN2 : Hid (dn ++ [g] = done ++ M.take (k + 1)) := hide (by rw [hN.out, List.take_add_one, hgM, List.append_assoc]; rfl)
            have hszb : Hid (wP.heap.size ≤ wb.heap.size) := hide hBob.out.size
            clear hgM hg ht hN
            go_upto_region 10 with fail
            rw [← hwb]
            clear hwb t0 t1 t2
            go_wp2_with fail
            refine HCC.out.mono ?_
            rintro e w5 ⟨vc, rfl, hoc, hne, hb5⟩
            obtain ⟨ac, cc, rfl⟩ := own_form hoc
            have hOc := hide (hOb.out.keep hb5)
            have hU : Hid (w5.ownsRow wP.heap.size 2 1 (.slice ac cs.length cc) g.length (g.map intV)) := hide (by rw [hgl.out]; exact ownsRow_base hoc hszb.out)
            have hnew : Hid (∀ x ∈ vs2, ∀ q, x.ownBlock = some q → (Value.slice ac cs.length cc).ownBlock ≠ some q) := hide (fun x hx q h1 h2 => by have := (hoc.lt q h2).1; have := hOb.out.lt x hx q h1; omega)
            have hown := hOc.out.l.own
            have hsz : wP.heap.size ≤ w5.heap.size := Nat.le_trans hszb.out hb5.size
            have hBo5 := hide (Below.trans' hBob.out hb5)
            have hQ5 := hide (ownsRow_keep (ownsRow_keep hQb.out hb5) (below_alloc w5 (.cells #[.slice ac cs.length cc] 22)))
            have hZ5 : Hid (wo.heap.size ≤ w5.heap.size) := hide (by have := hZ.out; have := hbb.out.size; have := hb5.size; omega)
            clear hoc hb5 hne s0 s1 s2 d0 d1 d2
            go_wp2_with (at_builtin; refine wpList_append_own _ rfl _ _ 26 rfl wP.heap.size 22 i0 (.slice none 0 0) 1 24 Try.underlying26 hi0 hz0 hz1 hz2 rfl (by decide) _ _ _ rfl (hown.alloc _) ⟨w5.heap.size, 0, none⟩ 1 1 [.slice ac cs.length cc] rfl rfl (cell_one_new _ _ _) (by simp [Value.oneCell']) (by unfold maxLen; omega) (by omega) (by simp; omega) ?_)
            intro v' w7 hown' hgrow _
            have hR7 := hide (RowsO.snoc hOc.out hU.out hnew.out (by simpa using hown') hgrow)
            have hB7 := hide ((hBo5.out.alloc hsz _).grown hgrow (by simp; omega) (fun j hj => (hown.lt j hj).1))
            have hQ7 : Hid (w7.ownsRow wo.heap.size 61 3 (.slice (some ⟨gt, 0, none⟩) M.length ct) M.length (flatT T)) := hide (hQ5.out.kept hgrow (by
              cases hv : (Value.slice (some ⟨gt, 0, none⟩) M.length ct).ownBlock with
              | none => simp
              | some j => exact .inr (fun e => own_apart hQ5.out (hown.alloc (.cells #[Value.slice ac cs.length cc] 22)) (by decide) j hv e.symm)))
            have hZ7 : Hid (wo.heap.size ≤ w7.heap.size) := hide (by have h1 := hgrow.size; have := hZ5.out; simp at h1; omega)
            clear hown' hgrow hown
            go_wp2_with fail
            go_roundw
            case rel => exact ⟨k + 1, _, dn ++ [g], by go_num, by omega, by simp; omega, hN2, hR7, hQ7, hZ7, hB7.out⟩
            case measure => simp [intOf]; omega
        · obtain rfl : k = M.length := by omega
          have hNN : Hid (dn = (P.take (i + 1)).flatMap (lvl wd hi cs)) := hide (by rw [hN.out, List.take_length, hstep.out])
          clear hN
          go_wp2_with fail
          go_roundw
          case rel => exact ⟨i + 1, vs2, dn, by go_num, by omega, hnl, hNN, hO, hBo4.out⟩
          case measure => simp [intOf]; omega
    · obtain rfl : i = P.length := by omega
      have hLd : L = done := by rw [HLL.out, hD.out, List.take_length]
      have hfin : Hid (RR = (done, 0)) := hide (by rw [HRR.out, hLd, if_pos hdl])
      obtain ⟨av, cv, hv⟩ := own_form hO.out.l.own
      subst hv
      have hfin2 : Hid (NewRows RR W (.returned (.tuple #[.slice av done.length cv, .int .i64 0])) wo) := hide (by rw [hfin.out]; exact ⟨av, cv, vs, rfl, hO.out.base hB2.out.size, Below.trans' hB2.out hBo.out⟩)
      clear hD hO hLd
      go_wp2_with fail
      go_ret2
      exact hfin2.out
end Go.Proofs.Ytkekanllfpdeaab
