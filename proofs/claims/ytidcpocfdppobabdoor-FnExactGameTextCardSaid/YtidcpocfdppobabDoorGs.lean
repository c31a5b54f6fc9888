/-
  GameText, the model's text.
-/
import Derived.Test.YtidcpocfdppobabDoorGi
import Derived.Test.YtidcpocfdppobabDoorZd
namespace Go.Proofs.YtidcpocfdppobabDoor
open Go.RowKit
set_option linter.unusedVariables false

set_option maxRecDepth 100000 in
set_option maxHeartbeats 4000000 in
theorem specTxt_any (a : Option Addr) (c : Nat) (xss : List (List Int)) (W : World) (ha : RowsAt W a xss) (hb : isGameB xss = true) :
    Calls Tryd.prog 11 #[.agg #[.slice a xss.length c]] W (RetB (.string ⟨(gameT xss).toArray⟩) W) := by
  obtain ⟨n1, n40, hrows⟩ := game_rows hb
  have HROWS := hide hrows
  have HLE := hide (take_le40 hb)
  obtain ⟨r, hr⟩ : ∃ r, r = gameT xss := ⟨_, rfl⟩
  rw [← hr]
  have HR := hide hr
  obtain ⟨W0, hW0⟩ : ∃ W0, W0 = W.alloc (.cells #[.slice a xss.length c] 28) := ⟨_, rfl⟩
  have hB0 : Hid (Below W.heap.size W W0) := by rw [hW0]; exact hide (below_alloc _ _)
  have hX0 : Hid (W0.cell? ⟨W.heap.size, 0, none⟩ = some (.slice a xss.length c)) := by rw [hW0]; exact hide (by simp [go_sem])
  have HA0 := hide (ha.keep hB0.out)
  obtain ⟨n, hn⟩ : ∃ n, n = xss.length := ⟨_, rfl⟩
  have HN := hide hn
  rw [← hn] at n1 n40 hX0 hW0 ⊢
  have c0 := hX0.out
  clear ha hr hb hrows hn
  go_enter Tryd.func11, Tryd.ntmps11
  go_wp2_with fail
  rw [← hW0]
  clear hW0
  (try go_wp2_with fail)
  clear c0
  go_loopg [3, 4] n (fun g t iv wr => ∃ (k : Nat) (l : List UInt8), k + g = n ∧ iv = .int .i64 k ∧ t = .string ⟨l.toArray⟩ ∧ Hid (l = gameT (xss.take k)) ∧ Hid (Below W0.heap.size W0 wr))
  case atStart => exact ⟨0, [], by omega, rfl, rfl, hide rfl, hide (Below.refl _ _)⟩
  case round =>
    obtain ⟨k, l, hkg, rfl, rfl, hl, hB⟩ := hrel
    have c0 := cell_keep hB.out hX0.out
    cases gk with
    | zero =>
      obtain rfl : k = n := by omega
      have hfin : Hid (r = l) := hide (by rw [hl.out, HN.out, List.take_length, HR.out])
      have hbf := hide (Below.trans' hB0.out hB.out)
      go_wp2_with fail
      go_ret
      exact ⟨by rw [hfin.out]; rfl, hbf.out⟩
    | succ g =>
      have hkn : k < xss.length := by rw [← HN.out]; omega
      obtain ⟨b, off, ai, ci, zs, e0, hcell0, hz0, hg⟩ := HA0.out.one hkn
      subst e0
      have hz40 := (HROWS.out k zs hg.out).1
      have hzq := hide (HROWS.out k zs hg.out).2
      have HZ := hide hz0
      have HRC := hide hcell0
      have hlen0 : l.length ≤ 4840 := by rw [hl.out]; exact HLE.out k
      have hkn2 : k < n := by omega
      clear hz0 hcell0 hkn
      by_cases hk0 : k = 0
      · obtain ⟨PK, hP0⟩ : ∃ PK, PK = l := ⟨_, rfl⟩
        have hPK : Hid (gameT (xss.take (k + 1)) = PK ++ rowT zs) := hide (by
          rw [hP0, hl.out]
          subst hk0
          rw [gameT_first hg.out, List.take_zero, gameT_nil, List.nil_append])
        have hPl : Hid (PK.length ≤ 4841) := hide (by rw [hP0]; omega)
        rw [← hP0]
        clear hP0
        subst hk0
        rw [Nat.add_zero] at HRC
        obtain ⟨m, hm⟩ : ∃ m, m = zs.length := ⟨_, rfl⟩
        have HM := hide hm
        have hm40 : m ≤ 40 := by rw [hm]; exact hz40
        rw [← hm] at HRC
        clear hm
        go_wp2_with fail
        (try clear hadd0)
        clear c0
        obtain ⟨wq, hwq⟩ : ∃ wq : World, wq = wr := ⟨_, rfl⟩
        go_loopg [3, 5] m (fun g t iv wi => ∃ (i : Nat) (q : List UInt8), i + g = m ∧ iv = .int .i64 i ∧ t = .string ⟨q.toArray⟩ ∧ Hid (q = PK ++ rowT (zs.take i)) ∧ Hid (Below W0.heap.size W0 wi))
        case atStart => exact ⟨0, PK, by omega, rfl, rfl, hide (by rw [List.take_zero, rowT_nil, List.append_nil]), hB⟩
        case round =>
          obtain ⟨i, q, hig, rfl, rfl, hq, hBi⟩ := hrel
          have c0 := cell_keep hBi.out hX0.out
          have c1 := cell_keep hBi.out HRC.out
          cases gk with
          | zero =>
            obtain rfl : i = m := by omega
            have hfin : Hid (q = gameT (xss.take (0 + 1))) := hide (by rw [hq.out, hPK.out, HM.out, List.take_length])
            go_wp2_with fail
            go_roundg g
            case rel => exact ⟨0 + 1, q, by omega, by go_num, rfl, hfin, hBi⟩
            case measure => omega
          | succ g2 =>
            have him : i < zs.length := by rw [← HM.out]; omega
            obtain ⟨b2, o2, z, e2, hcell, hz⟩ := (HZ.out.keep hBi.out).one him
            subst e2
            have hzb := hzq.out z (List.mem_of_getElem? hz.out)
            have hdec := hide (dec_any z (by omega) (by omega))
            obtain ⟨D, hD⟩ : ∃ D, D = decL z := ⟨_, rfl⟩
            have hDl : D.length ≤ 2 := by rw [hD]; exact decL_le z
            have hlen : q.length ≤ 5000 := by
              rw [hq.out, List.length_append]
              have := rowtake_le zs hz40 i
              have := hPl.out
              omega
            rw [← hD] at hdec
            clear hzb
            by_cases hi0 : i = 0
            · have hst : Hid (q ++ D = PK ++ rowT (zs.take (i + 1))) := hide (by
                rw [hq.out]
                subst hi0
                rw [rowT_first hz.out, hD, List.take_zero, rowT_nil, List.append_nil])
              have hadd2 : ∀ w' : World, (Op.stringOp .add ⟨q.toArray⟩ ⟨D.toArray⟩).run Tryd.prog w' = .ok (.string ⟨(q ++ D).toArray⟩) w' := fun w' => run_string_add_lists w' q D (by omega) (by omega)
              clear hD
              subst hi0
              rw [Nat.add_zero] at hcell
              go_wp2_with fail
              refine (hdec.out _).mono ?_
              rintro e w5 ⟨rfl, hb5⟩
              have hB5 := hide (Below.trans' hBi.out hb5)
              clear hb5 hcell c0 c1
              go_wp2_with fail
              go_roundg g2
              case rel => exact ⟨0 + 1, q ++ D, by omega, by go_num, rfl, hst, hB5⟩
              case measure => omega
            · have hst : Hid ((q ++ [46]) ++ D = PK ++ rowT (zs.take (i + 1))) := hide (by
                rw [hq.out, rowT_take hi0 hz.out, hD]
                simp [List.append_assoc])
              have hip : 0 < i := by omega
              have hadd1 : ∀ w' : World, (Op.stringOp .add ⟨q.toArray⟩ ⟨#[46]⟩).run Tryd.prog w' = .ok (.string ⟨(q ++ [46]).toArray⟩) w' := fun w' => run_string_add_lists w' q [46] (by omega) (by simp)
              have hadd2 : ∀ w' : World, (Op.stringOp .add ⟨(q ++ [46]).toArray⟩ ⟨D.toArray⟩).run Tryd.prog w' = .ok (.string ⟨((q ++ [46]) ++ D).toArray⟩) w' := fun w' => run_string_add_lists w' (q ++ [46]) D (by simp; omega) (by omega)
              clear hD
              go_wp2_with fail
              refine (hdec.out _).mono ?_
              rintro e w5 ⟨rfl, hb5⟩
              have hB5 := hide (Below.trans' hBi.out hb5)
              clear hb5 hcell c0 c1
              go_wp2_with fail
              go_roundg g2
              case rel => exact ⟨i + 1, (q ++ [46]) ++ D, by omega, by go_num, by simp, hst, hB5⟩
              case measure => omega
      · obtain ⟨PK, hP0⟩ : ∃ PK, PK = l ++ [44] := ⟨_, rfl⟩
        have hPK : Hid (gameT (xss.take (k + 1)) = PK ++ rowT zs) := hide (by rw [hP0, hl.out, gameT_take hk0 hg.out])
        have hPl : Hid (PK.length ≤ 4841) := hide (by rw [hP0, List.length_append]; simp; omega)
        have hadd0 : ∀ w' : World, (Op.stringOp .add ⟨l.toArray⟩ ⟨#[44]⟩).run Tryd.prog w' = .ok (.string ⟨PK.toArray⟩) w' := fun w' => by rw [hP0]; exact run_string_add_lists w' l [44] (by omega) (by simp)
        have hkp : 0 < k := by omega
        clear hP0
        obtain ⟨m, hm⟩ : ∃ m, m = zs.length := ⟨_, rfl⟩
        have HM := hide hm
        have hm40 : m ≤ 40 := by rw [hm]; exact hz40
        rw [← hm] at HRC
        clear hm
        go_wp2_with fail
        (try clear hadd0)
        clear c0
        obtain ⟨wq, hwq⟩ : ∃ wq : World, wq = wr := ⟨_, rfl⟩
        go_loopg [3, 5] m (fun g t iv wi => ∃ (i : Nat) (q : List UInt8), i + g = m ∧ iv = .int .i64 i ∧ t = .string ⟨q.toArray⟩ ∧ Hid (q = PK ++ rowT (zs.take i)) ∧ Hid (Below W0.heap.size W0 wi))
        case atStart => exact ⟨0, PK, by omega, rfl, rfl, hide (by rw [List.take_zero, rowT_nil, List.append_nil]), hB⟩
        case round =>
          obtain ⟨i, q, hig, rfl, rfl, hq, hBi⟩ := hrel
          have c0 := cell_keep hBi.out hX0.out
          have c1 := cell_keep hBi.out HRC.out
          cases gk with
          | zero =>
            obtain rfl : i = m := by omega
            have hfin : Hid (q = gameT (xss.take (k + 1))) := hide (by rw [hq.out, hPK.out, HM.out, List.take_length])
            go_wp2_with fail
            go_roundg g
            case rel => exact ⟨k + 1, q, by omega, by go_num, rfl, hfin, hBi⟩
            case measure => omega
          | succ g2 =>
            have him : i < zs.length := by rw [← HM.out]; omega
            obtain ⟨b2, o2, z, e2, hcell, hz⟩ := (HZ.out.keep hBi.out).one him
            subst e2
            have hzb := hzq.out z (List.mem_of_getElem? hz.out)
            have hdec := hide (dec_any z (by omega) (by omega))
            obtain ⟨D, hD⟩ : ∃ D, D = decL z := ⟨_, rfl⟩
            have hDl : D.length ≤ 2 := by rw [hD]; exact decL_le z
            have hlen : q.length ≤ 5000 := by
              rw [hq.out, List.length_append]
              have := rowtake_le zs hz40 i
              have := hPl.out
              omega
            rw [← hD] at hdec
            clear hzb
            by_cases hi0 : i = 0
            · have hst : Hid (q ++ D = PK ++ rowT (zs.take (i + 1))) := hide (by
                rw [hq.out]
                subst hi0
                rw [rowT_first hz.out, hD, List.take_zero, rowT_nil, List.append_nil])
              have hadd2 : ∀ w' : World, (Op.stringOp .add ⟨q.toArray⟩ ⟨D.toArray⟩).run Tryd.prog w' = .ok (.string ⟨(q ++ D).toArray⟩) w' := fun w' => run_string_add_lists w' q D (by omega) (by omega)
              clear hD
              subst hi0
              rw [Nat.add_zero] at hcell
              go_wp2_with fail
              refine (hdec.out _).mono ?_
              rintro e w5 ⟨rfl, hb5⟩
              have hB5 := hide (Below.trans' hBi.out hb5)
              clear hb5 hcell c0 c1
              go_wp2_with fail
              go_roundg g2
              case rel => exact ⟨0 + 1, q ++ D, by omega, by go_num, rfl, hst, hB5⟩
              case measure => omega
            · have hst : Hid ((q ++ [46]) ++ D = PK ++ rowT (zs.take (i + 1))) := hide (by
                rw [hq.out, rowT_take hi0 hz.out, hD]
                simp [List.append_assoc])
              have hip : 0 < i := by omega
              have hadd1 : ∀ w' : World, (Op.stringOp .add ⟨q.toArray⟩ ⟨#[46]⟩).run Tryd.prog w' = .ok (.string ⟨(q ++ [46]).toArray⟩) w' := fun w' => run_string_add_lists w' q [46] (by omega) (by simp)
              have hadd2 : ∀ w' : World, (Op.stringOp .add ⟨(q ++ [46]).toArray⟩ ⟨D.toArray⟩).run Tryd.prog w' = .ok (.string ⟨((q ++ [46]) ++ D).toArray⟩) w' := fun w' => run_string_add_lists w' (q ++ [46]) D (by simp; omega) (by omega)
              clear hD
              go_wp2_with fail
              refine (hdec.out _).mono ?_
              rintro e w5 ⟨rfl, hb5⟩
              have hB5 := hide (Below.trans' hBi.out hb5)
              clear hb5 hcell c0 c1
              go_wp2_with fail
              go_roundg g2
              case rel => exact ⟨i + 1, (q ++ [46]) ++ D, by omega, by go_num, by simp, hst, hB5⟩
              case measure => omega

set_option maxRecDepth 100000 in
set_option maxHeartbeats 1000000 in
theorem specText_any (a : Option Addr) (c : Nat) (xss : List (List Int)) (W : World) (ha : RowsAt W a xss) (hs : Small xss) : Calls Tryd.prog 5 #[.agg #[.slice a xss.length c]] W (RetB (txtV (txtR xss)) W) := by
  obtain ⟨r, hr⟩ : ∃ r, r = txtR xss := ⟨_, rfl⟩
  rw [← hr]
  unfold txtR at hr
  have hB0 := hide (below_alloc W (.cells #[.slice a xss.length c] 28))
  have hx0 : (W.alloc (.cells #[.slice a xss.length c] 28)).cell? ⟨W.heap.size, 0, none⟩ = some (.slice a xss.length c) := by simp [go_sem]
  have HA0 := hide (ha.keep hB0.out)
  clear ha
  cases hb : isGameB xss
  · have HR : Hid (r = ([], 1)) := hide (by rw [hr, hb]; rfl)
    have HB := hide hb
    clear hb hr
    go_enter Tryd.func5, Tryd.ntmps5
    go_wp2_with fail
    refine (l01Is_any _ _ xss _ HA0.out hs).mono ?_
    rw [HB.out]
    rintro e w1 ⟨rfl, hb1⟩
    have hB1 := hide (Below.trans' hB0.out hb1)
    clear hb1 hx0
    go_wp2_with fail
    go_ret2
    exact ⟨by rw [HR.out]; rfl, hB1.out⟩
  · have HR : Hid (r = (gameT xss, 0)) := hide (by rw [hr, hb]; rfl)
    have HB := hide hb
    obtain ⟨l, hl⟩ : ∃ l, l = gameT xss := ⟨_, rfl⟩
    have HT : Hid (∀ V : World, RowsAt V a xss → Calls Tryd.prog 11 #[.agg #[.slice a xss.length c]] V (RetB (.string ⟨l.toArray⟩) V)) := hide (fun V hV => by rw [hl]; exact specTxt_any a c xss V hV HB.out)
    rw [← hl] at HR
    clear hb hr hl
    go_enter Tryd.func5, Tryd.ntmps5
    go_wp2_with fail
    refine (l01Is_any _ _ xss _ HA0.out hs).mono ?_
    rw [HB.out]
    rintro e w1 ⟨rfl, hb1⟩
    have hx1 := cell_keep hb1 hx0
    have HA1 := hide (HA0.out.keep hb1)
    have hB1 := hide (Below.trans' hB0.out hb1)
    clear hb1 hx0 hs
    go_wp2_with fail
    refine (HT.out _ HA1.out).mono ?_
    rintro e w2 ⟨rfl, hb2⟩
    have hB2 := hide (Below.trans' hB1.out hb2)
    clear hb2 hx1
    go_wp2_with fail
    go_ret2
    exact ⟨by rw [HR.out]; rfl, hB2.out⟩
end Go.Proofs.YtidcpocfdppobabDoor
