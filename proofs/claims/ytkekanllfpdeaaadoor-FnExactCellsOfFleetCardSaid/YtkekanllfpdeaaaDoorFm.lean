/-
  The model's l09Fleet, IsFleet.
-/
import Derived.Test.YtkekanllfpdeaaaDoorFf
namespace Go.Proofs.YtkekanllfpdeaaaDoor
open Go.RowKit
set_option linter.unusedVariables false

theorem setL_take {f : List Int} {i : Nat} {z : Int} (h : f[i]? = some z) : setL (f.take (i + 1)) = orI (setL (f.take i)) z := by
  rw [List.take_add_one, h]
  exact setL_snoc _ _
theorem stepB_eq {wd hi : Int} {cs f : List Int} {i j : Nat} {z y n m : Int} (hi' : i = j + 1) (hz : f[i]? = some z) (hy : f[j]? = some y) (hn : cs[i]? = some n) (hm : cs[j]? = some m) :
    stepB wd hi cs f i = ((plAt wd hi cs i).contains z && (decide (andI z (setL (f.take i)) = 0) && !(decide (n = m) && decide (z < y)))) := by
  subst hi'
  have hl : (f.take (j + 1)).length = j + 1 := by rw [List.length_take]; have := (List.getElem?_eq_some_iff.1 hz).1; omega
  unfold stepB okNext
  rw [hl, List.getD_eq_getElem?_getD, hz, List.getD_eq_getElem?_getD, hn, List.getD_eq_getElem?_getD, Nat.add_sub_cancel, hm, List.getD_eq_getElem?_getD, List.getElem?_take_of_lt (by omega), hy, decide_eq_true (show 0 < j + 1 by omega)]
  simp
theorem stepB_zero {wd hi : Int} {cs f : List Int} {i : Nat} {z : Int} (hi' : i = 0) (hz : f[i]? = some z) :
    stepB wd hi cs f i = ((plAt wd hi cs i).contains z && decide (andI z (setL (f.take i)) = 0)) := by
  subst hi'
  unfold stepB okNext
  rw [List.getD_eq_getElem?_getD, hz]
  simp
theorem take_contains {P : List Int} {k : Nat} {x z : Int} (h : P[k]? = some x) : (P.take (k + 1)).contains z = ((P.take k).contains z || (z == x)) := by
  rw [List.take_add_one, h, Bool.eq_iff_iff]
  simp [List.mem_append]

set_option maxRecDepth 100000 in
set_option maxHeartbeats 8000000 in
theorem l09Fleet_any (wd hi : Int) (a : Option Addr) (c : Nat) (cs : List Int) (af : Option Addr) (cf : Nat) (f : List Int) (W : World) (hs : seaB wd hi cs = true) (ha : IntsAt W a cs) (hf : IntsAt W af f) (hfl : f.length ≤ 1048576) :
    Calls Tryd.prog 132 #[.agg #[.int .i64 wd, .int .i64 hi, .slice a cs.length c], .slice af f.length cf] W (RetB (.bool (fleetB wd hi cs f)) W) := by
  obtain ⟨w0, w1, h0, h1, l1, l3, ho⟩ := seaB_yes hs
  obtain ⟨W0, hW0⟩ : ∃ W0, W0 = W.alloc (.cells #[.int .i64 wd, .int .i64 hi, .slice a cs.length c] 52) := ⟨_, rfl⟩
  have hB0 : Hid (Below W.heap.size W W0) := by rw [hW0]; exact hide (below_alloc _ _)
  have hX0 : Hid (SeaIn W0 W.heap.size wd hi a cs.length c) := by rw [hW0]; exact hide (seaIn_new _ _ _ _ _ _ _)
  have hA0 := hide (ha.keep hB0.out)
  have hF0 := hide (hf.keep hB0.out)
  obtain ⟨c0, c1, c2⟩ := hX0.out
  have HS := hide hs
  obtain ⟨R, hR⟩ : ∃ R, R = fleetB wd hi cs f := ⟨_, rfl⟩
  have HR := hide hR
  rw [← hR]
  clear ha hf hs hR
  by_cases hlen : f.length = cs.length
  · have hR1 : Hid (R = ((List.range f.length).drop 0).all (stepB wd hi cs f)) := hide (by rw [HR.out]; simp [fleetB, hlen])
    have hne : ((f.length : Int) != (cs.length : Int)) = false := by rw [hlen]; simp
    have HLEN := hide hlen
    clear hlen
    go_enter Tryd.func132, Tryd.ntmps132
    go_wp2_with fail
    rw [← hW0]
    clear hW0
    (try go_wp2_with fail)
    clear c0 c1 c2 hne
    go_loopw [5, 6] (fun v5 v6 wr => ∃ (i : Nat) (u : Int), v5 = .int .i64 u ∧ v6 = .int .i64 i ∧ i ≤ f.length ∧ Hid (R = ((List.range f.length).drop i).all (stepB wd hi cs f)) ∧ Hid (u = setL (f.take i) ∧ ∀ y ∈ f.take i, 0 ≤ y ∧ y < 33554432) ∧ Below W0.heap.size W0 wr) (fun _ v6 _ => f.length - (intOf v6).toNat)
    case atStart => exact ⟨0, 0, rfl, rfl, Nat.zero_le _, hR1, hide ⟨rfl, fun y hy => by simp at hy⟩, Below.refl _ _⟩
    case round =>
      clear hR1
      obtain ⟨i, u, rfl, rfl, hi2, hRi, hU, hB⟩ := hrel
      obtain ⟨wo, hwo⟩ : ∃ wo : World, wo = wr := ⟨_, rfl⟩
      subst hwo
      have HB := hide hB
      obtain ⟨c0, c1, c2⟩ := hX0.out.keep hB
      by_cases hlt : i < f.length
      · have hic : i < cs.length := by rw [← HLEN.out]; exact hlt
        obtain ⟨b1, o1, n, rfl, hcn, hgn⟩ := (hA0.out.keep hB).one hic
        obtain ⟨b2, o2, z, rfl, hcz, hgz⟩ := (hF0.out.keep hB).one hlt
        obtain ⟨n1, n2⟩ := okFrom_mem ho n (mem_of_get hgn.out)
        obtain ⟨m, rfl⟩ := Int.eq_ofNat_of_zero_le (show 0 ≤ n by omega)
        have hnk : cs.getD i 0 = (m : Int) := by rw [List.getD_eq_getElem?_getD, hgn.out]; rfl
        obtain ⟨P, hP⟩ : ∃ P, P = plAt wd hi cs i := ⟨_, rfl⟩
        have hPn : Hid (plc wd hi m = P) := hide (by rw [hP]; unfold plAt; rw [hnk]; rfl)
        have hpf := plAt_facts (k := i) HS.out hic
        rw [← hP] at hpf
        have HPF := hide hpf
        have HP := hide hP
        have HCP := hide (fun V => l09Placements_any wd hi m (some ⟨b1, o1, none⟩) cs.length c V w0 w1 h0 h1 (by omega))
        rw [hPn.out] at HCP
        have HD : Hid (R = (stepB wd hi cs f i && ((List.range f.length).drop (i + 1)).all (stepB wd hi cs f))) := hide (by
          have hr : (List.range f.length)[i]? = some i := by simp [hlt]
          rw [hRi.out, drop_of_get hr]
          rfl)
        have hd : Below wo.heap.size wo wo.drew := Below.drew (Below.refl _ _)
        have d0 := cell_keep hd c0
        have d1 := cell_keep hd c1
        have d2 := cell_keep hd c2
        have dn := cell_keep hd hcn
        clear hpf hP hnk hB hRi
        go_wp2_with fail
        go_region_held3 (fun V => V.cell? ⟨W.heap.size, 0, none⟩ = some (.int .i64 wd) ∧ V.cell? ⟨W.heap.size, 1, none⟩ = some (.int .i64 hi) ∧ V.cell? ⟨W.heap.size, 2, none⟩ = some (.slice (some ⟨b1, o1, none⟩) cs.length c) ∧ V.cell? ⟨b1, o1 + i, none⟩ = some (.int .i64 (m : Int))) (first | (exact ⟨d0, d1, d2, dn⟩) | (exact ⟨cell_keep hb1 d0, cell_keep hb1 d1, cell_keep hb1 d2, cell_keep hb1 dn⟩)) (first | (go_at_call 176; (with_reducible refine (HCP.out _).mono ?_); rintro e u1 ⟨gp, cp, rfl, hop, hb1, _⟩))
        have hB3 := hide (Below.trans' HB.out (Below.trans' hd hb1))
        have hP3 := hide (intsAt_of_ownsRow hop)
        have hP50 : P.length ≤ 50 := HPF.out.2
        clear hop hb1 hd d0 d1 d2 dn c0 c1 c2 hcn hcz
        go_wp2_with fail
        go_loopw [7, 9] (fun v7 v9 wr => ∃ (k : Nat), v7 = .bool ((P.take k).contains z) ∧ v9 = .int .i64 k ∧ k ≤ P.length ∧ Below u1.heap.size u1 wr) (fun _ v9 _ => P.length - (intOf v9).toNat)
        case atStart => exact ⟨0, by simp, rfl, Nat.zero_le _, Below.refl _ _⟩
        case round =>
          obtain ⟨k, rfl, rfl, hk, hBk⟩ := hrel
          have HBk := hide hBk
          have HB4 := hide (Below.trans' hB3.out hBk)
          obtain ⟨c0, c1, c2⟩ := hX0.out.keep HB4.out
          obtain ⟨b3, o3, z', he3, ez, hgz'⟩ := (hF0.out.keep HB4.out).one hlt
          cases he3
          obtain rfl : z' = z := by have := hgz'.out; rw [hgz.out] at this; exact (Option.some.inj this).symm
          obtain ⟨b4, o4, n', he4, en, hgn'⟩ := (hA0.out.keep HB4.out).one hic
          cases he4
          obtain rfl : n' = (m : Int) := by have := hgn'.out; rw [hgn.out] at this; exact (Option.some.inj this).symm
          clear hgz' hgn'
          by_cases hlk : k < P.length
          · obtain ⟨b5, o5, x, he5, ex, hgx⟩ := (hP3.out.keep hBk).one hlk
            cases he5
            rw [Nat.zero_add] at ex
            have htc := take_contains (z := z') hgx.out
            obtain ⟨q, hq⟩ : ∃ q, q = (P.take k).contains z' := ⟨_, rfl⟩
            rw [← hq] at htc ⊢
            have hq2 : Hid ((P.take (k + 1)).contains z' = (q || (z' == x))) := hide htc
            clear hq htc hBk
            cases q
            · by_cases hxz : x = z'
              · have hv : Hid ((P.take (k + 1)).contains z' = true) := hide (by rw [hq2.out, hxz]; simp)
                have hee : (x == z') = true := by simp [hxz]
                clear hxz hq2
                go_wp2_with fail
                go_quiet (fail)
                have hB6 := hide (Below.trans' HBk.out (quiet_below (B := wr.heap.size) ⟨nq, rfl⟩ : Below wr.heap.size wr (wr.drewN nq)))
                clear ex ez en c0 c1 c2 hee
                go_wp2_with fail
                go_roundw
                case rel => exact ⟨k + 1, by rw [hv.out], by go_num, by omega, hB6.out⟩
                case measure => simp [intOf]; omega
              · have hv : Hid ((P.take (k + 1)).contains z' = false) := hide (by rw [hq2.out]; simp; exact fun e => hxz e.symm)
                have hee : (x == z') = false := by simp [hxz]
                clear hxz hq2
                go_wp2_with fail
                go_quiet (fail)
                have hB6 := hide (Below.trans' HBk.out (quiet_below (B := wr.heap.size) ⟨nq, rfl⟩ : Below wr.heap.size wr (wr.drewN nq)))
                clear ex ez en c0 c1 c2 hee
                go_wp2_with fail
                go_roundw
                case rel => exact ⟨k + 1, by rw [hv.out], by go_num, by omega, hB6.out⟩
                case measure => simp [intOf]; omega
            · have hv : Hid ((P.take (k + 1)).contains z' = true) := hide (by rw [hq2.out]; rfl)
              clear hq2
              go_wp2_with fail
              go_quiet (fail)
              have hB6 := hide (Below.trans' HBk.out (quiet_below (B := wr.heap.size) ⟨nq, rfl⟩ : Below wr.heap.size wr (wr.drewN nq)))
              clear ex ez en c0 c1 c2
              go_wp2_with fail
              go_roundw
              case rel => exact ⟨k + 1, by rw [hv.out], by go_num, by omega, hB6.out⟩
              case measure => simp [intOf]; omega
          · obtain rfl : k = P.length := by omega
            rw [List.take_length]
            clear hBk
            cases hcon : P.contains z'
            · have hst : Hid (stepB wd hi cs f i = false) := hide (by
                unfold stepB
                rw [List.getD_eq_getElem?_getD, hgz.out, ← HP.out]
                show (P.contains z' && _) = false
                rw [hcon]
                rfl)
              clear hcon
              have hno : Hid (R = false) := hide (by rw [HD.out, hst.out]; rfl)
              go_wp2_with fail
              go_quiet (fail)
              have hB5 := hide (Below.trans' hB0.out (Below.trans' HB4.out (quiet_below (B := wr.heap.size) ⟨nq, rfl⟩ : Below wr.heap.size wr (wr.drewN nq))))
              clear ez en c0 c1 c2
              go_wp2_with fail
              go_ret
              exact ⟨ret_bool hno.out.symm, hB5.out⟩
            · obtain ⟨z0, z1⟩ := HPF.out.1 z' (List.contains_iff_mem.1 hcon)
              obtain ⟨hu1, hu2⟩ := hU.out
              obtain ⟨u0, u2⟩ := setL_range hu2
              rw [← hu1] at u0 u2
              have HCON := hide hcon
              have hand := and_walkI (x := z') (y := u) z0 (by omega) u0 (by omega)
              have hor := or_walkI (x := u) (y := z') u0 (by omega) z0 (by omega)
              have HU2 : Hid (orI u z' = setL (f.take (i + 1))) := hide (by rw [setL_take hgz.out, hu1])
              have HR2 : Hid (∀ y ∈ f.take (i + 1), 0 ≤ y ∧ y < 33554432) := hide (fun y hy => by
                rw [List.take_add_one, hgz.out] at hy
                rcases List.mem_append.1 hy with hy | hy
                · exact hu2 y hy
                · have : y = z' := by simpa using hy
                  rw [this]; exact ⟨z0, z1⟩)
              obtain ⟨A, hA⟩ : ∃ A, A = andI z' u := ⟨_, rfl⟩
              obtain ⟨O, hO⟩ : ∃ O, O = orI u z' := ⟨_, rfl⟩
              rw [← hA] at hand
              rw [← hO] at hor HU2
              have HA : Hid (andI z' (setL (f.take i)) = A) := hide (by rw [hA, ← hu1])
              clear hcon hA hO hu1 hu2 u0 u2 z0 z1
              by_cases hi0 : i = 0
              · have hst : Hid (stepB wd hi cs f i = decide (A = 0)) := hide (by rw [stepB_zero hi0 hgz.out, ← HP.out, HCON.out, HA.out, Bool.true_and])
                have hdi : decide (0 < i) = false := decide_eq_false (by omega)
                clear hi0
                by_cases hA0 : A = 0
                · have hne : (A != 0) = false := by simp [hA0]
                  have hst2 : Hid (stepB wd hi cs f i = true) := hide (by rw [hst.out, hA0]; rfl)
                  clear hA0 hst
                  have hnx : Hid (R = ((List.range f.length).drop (i + 1)).all (stepB wd hi cs f)) := hide (by rw [HD.out, hst2.out, Bool.true_and])
                  go_wp2_with fail
                  go_quiet (fail)
                  have hBq : Below wr.heap.size wr (wr.drewN nq) := quiet_below ⟨nq, rfl⟩
                  have hB5 := hide (Below.trans' HB4.out hBq)
                  have hz5 := cell_keep hBq ez
                  clear en c0 c1 c2 hne hdi hand ez hBq
                  go_wp2_with fail
                  go_roundw
                  case rel => exact ⟨i + 1, O, rfl, by go_num, by omega, hnx, hide ⟨HU2.out, HR2.out⟩, hB5.out⟩
                  case measure => simp [intOf]; omega
                · have hne : (A != 0) = true := by simp [hA0]
                  have hst2 : Hid (stepB wd hi cs f i = false) := hide (by rw [hst.out]; simp [hA0])
                  clear hA0 hst
                  have hno : Hid (R = false) := hide (by rw [HD.out, hst2.out]; rfl)
                  go_wp2_with fail
                  go_quiet (fail)
                  have hB5 := hide (Below.trans' hB0.out (Below.trans' HB4.out (quiet_below (B := wr.heap.size) ⟨nq, rfl⟩ : Below wr.heap.size wr (wr.drewN nq))))
                  clear ez en c0 c1 c2 hne hdi hand hor
                  go_wp2_with fail
                  go_ret
                  exact ⟨ret_bool hno.out.symm, hB5.out⟩
              · obtain ⟨j, hj⟩ : ∃ j, i = j + 1 := ⟨i - 1, by omega⟩
                obtain ⟨b6, o6, y, he6, ey, hgy⟩ := (hF0.out.keep HB4.out).one (k := j) (by omega)
                cases he6
                obtain ⟨b7, o7, m2, he7, em, hgm⟩ := (hA0.out.keep HB4.out).one (k := j) (by omega)
                cases he7
                have hst : Hid (stepB wd hi cs f i = (decide (A = 0) && !(decide ((m : Int) = m2) && decide (z' < y)))) := hide (by rw [stepB_eq hj hgz.out hgy.out hgn.out hgm.out, ← HP.out, HCON.out, HA.out, Bool.true_and])
                have hdi : decide (0 < i) = true := decide_eq_true (by omega)
                have hij : (i : Int) - 1 = (j : Int) := by omega
                have hjf : j < f.length := by omega
                have hjc : j < cs.length := by omega
                clear hi0 hj
                by_cases hA0 : A = 0
                · have hne : (A != 0) = false := by simp [hA0]
                  by_cases hnm : (m : Int) = m2
                  · have hnn : ((m : Int) == m2) = true := by simp [hnm]
                    by_cases hzy : z' < y
                    · have hst2 : Hid (stepB wd hi cs f i = false) := hide (by rw [hst.out]; simp [hA0, hnm, hzy])
                      clear hA0 hnm hst
                      have hno : Hid (R = false) := hide (by rw [HD.out, hst2.out]; rfl)
                      go_wp2_with fail
                      go_quiet (fail)
                      have hB5 := hide (Below.trans' hB0.out (Below.trans' HB4.out (quiet_below (B := wr.heap.size) ⟨nq, rfl⟩ : Below wr.heap.size wr (wr.drewN nq))))
                      clear ez en ey em c0 c1 c2 hne hdi hand hor hij hnn
                      go_wp2_with fail
                      go_ret
                      exact ⟨ret_bool hno.out.symm, hB5.out⟩
                    · have hst2 : Hid (stepB wd hi cs f i = true) := hide (by rw [hst.out]; simp [hA0, hzy])
                      clear hA0 hnm hst
                      have hnx : Hid (R = ((List.range f.length).drop (i + 1)).all (stepB wd hi cs f)) := hide (by rw [HD.out, hst2.out, Bool.true_and])
                      go_wp2_with fail
                      go_quiet (fail)
                      have hBq : Below wr.heap.size wr (wr.drewN nq) := quiet_below ⟨nq, rfl⟩
                      have hB5 := hide (Below.trans' HB4.out hBq)
                      have hz5 := cell_keep hBq ez
                      clear en ey em c0 c1 c2 hne hdi hand hij hnn ez hBq
                      go_wp2_with fail
                      go_roundw
                      case rel => exact ⟨i + 1, O, rfl, by go_num, by omega, hnx, hide ⟨HU2.out, HR2.out⟩, hB5.out⟩
                      case measure => simp [intOf]; omega
                  · have hnn : ((m : Int) == m2) = false := by simp [hnm]
                    have hst2 : Hid (stepB wd hi cs f i = true) := hide (by rw [hst.out]; simp [hA0, hnm])
                    clear hA0 hnm hst
                    have hnx : Hid (R = ((List.range f.length).drop (i + 1)).all (stepB wd hi cs f)) := hide (by rw [HD.out, hst2.out, Bool.true_and])
                    go_wp2_with fail
                    go_quiet (fail)
                    have hBq : Below wr.heap.size wr (wr.drewN nq) := quiet_below ⟨nq, rfl⟩
                    have hB5 := hide (Below.trans' HB4.out hBq)
                    have hz5 := cell_keep hBq ez
                    clear en ey em c0 c1 c2 hne hdi hand hij hnn ez hBq
                    go_wp2_with fail
                    go_roundw
                    case rel => exact ⟨i + 1, O, rfl, by go_num, by omega, hnx, hide ⟨HU2.out, HR2.out⟩, hB5.out⟩
                    case measure => simp [intOf]; omega
                · have hne : (A != 0) = true := by simp [hA0]
                  have hst2 : Hid (stepB wd hi cs f i = false) := hide (by rw [hst.out]; simp [hA0])
                  clear hA0 hst
                  have hno : Hid (R = false) := hide (by rw [HD.out, hst2.out]; rfl)
                  go_wp2_with fail
                  go_quiet (fail)
                  have hB5 := hide (Below.trans' hB0.out (Below.trans' HB4.out (quiet_below (B := wr.heap.size) ⟨nq, rfl⟩ : Below wr.heap.size wr (wr.drewN nq))))
                  clear ez en ey em c0 c1 c2 hne hdi hand hor hij
                  go_wp2_with fail
                  go_ret
                  exact ⟨ret_bool hno.out.symm, hB5.out⟩
      · obtain rfl : i = f.length := by omega
        have hfin : Hid (R = true) := hide (by
          have h9 : (List.range f.length).drop f.length = [] := List.drop_eq_nil_of_le (by simp)
          rw [hRi.out, h9]
          rfl)
        clear hB c0 c1 c2
        go_wp2_with fail
        go_ret
        exact ⟨ret_bool hfin.out.symm, Below.trans' hB0.out HB.out⟩
  · have hno : Hid (R = false) := hide (by rw [HR.out]; simp [fleetB, hlen])
    have hne : ((f.length : Int) != (cs.length : Int)) = true := by simp; omega
    go_enter Tryd.func132, Tryd.ntmps132
    go_wp2_with fail
    rw [← hW0]
    clear hW0
    (try go_wp2_with fail)
    go_ret
    exact ⟨ret_bool hno.out.symm, hB0.out⟩
end Go.Proofs.YtkekanllfpdeaaaDoor
