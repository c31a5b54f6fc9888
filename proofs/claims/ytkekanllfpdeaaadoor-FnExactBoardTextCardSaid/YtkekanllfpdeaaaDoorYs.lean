/-
  BoardText, the model's text.
-/
import Derived.Test.YtkekanllfpdeaaaDoorYt
import Derived.Test.YtkekanllfpdeaaaDoorYd
import Derived.Test.YtkekanllfpdeaaaDoorBf
namespace Go.Proofs.YtkekanllfpdeaaaDoor
open Go.RowKit
set_option linter.unusedVariables false

set_option maxRecDepth 100000 in
set_option maxHeartbeats 4000000 in
theorem l07Text_any (n : Int) (a : Option Addr) (c : Nat) (cs : List Int) (W : World) (ha : IntsAt W a cs) (hok : okB n cs = true) :
    Calls Tryd.prog 57 #[.agg #[.int .i64 n, .slice a cs.length c]] W (RetB (.string ⟨(txtB n cs).toArray⟩) W) := by
  obtain ⟨W0, hW0⟩ : ∃ W0, W0 = W.alloc (.cells #[.int .i64 n, .slice a cs.length c] 28) := ⟨_, rfl⟩
  have hB0 : Hid (Below W.heap.size W W0) := by rw [hW0]; exact hide (below_alloc _ _)
  have hX0 : Hid (HexIn W0 W.heap.size n a cs.length c) := by rw [hW0]; exact hide (hexIn_new _ _ _ _ _ _)
  have HAW := hide ha
  have hA0 := hide (ha.keep hB0.out)
  obtain ⟨hn16, hcl, _⟩ := okB_parts hok
  have HIN := hide (fun z (hz : z ∈ cs) => okB_mem hok hz)
  obtain ⟨r, hr⟩ : ∃ r, r = txtB n cs := ⟨_, rfl⟩
  have HRR := hide hr
  obtain ⟨m, hm⟩ : ∃ m, m = cs.length := ⟨_, rfl⟩
  have HM := hide hm
  rw [← hm] at hcl hW0 hX0 ⊢
  rw [← hr]
  obtain ⟨c0, c1⟩ := hX0.out
  have hF := hide (fun V => dec_any n (by omega) (by omega) V)
  have hDl := decL_le n
  have hadd1 : ∀ w' : World, (Op.stringOp .add ⟨(decL n).toArray⟩ ⟨#[58]⟩).run Tryd.prog w' = .ok (.string ⟨(decL n ++ [58]).toArray⟩) w' := fun w' => run_string_add_lists w' (decL n) [58] (by omega) (by simp)
  clear ha hok hr hm hn16
  go_enter Tryd.func57, Tryd.ntmps57
  go_wp2_with fail
  rw [← hW0]
  clear hW0
  (try go_wp2_with fail)
  refine (hF.out _).mono ?_
  rintro e w1 ⟨rfl, hb1⟩
  have hB1 := hide (Below.trans' hB0.out hb1)
  have hX1 := hide (hX0.out.keep hb1)
  clear hb1 c0 c1
  obtain ⟨c0, c1⟩ := hX1.out
  go_wp2_with fail
  clear c0 c1 hadd1
  go_loopg [3, 4] m (fun g tx i wr => ∃ (k : Nat) (l : List UInt8), k + g = m ∧ i = .int .i64 k ∧ tx = .string ⟨l.toArray⟩ ∧ l = (decL n ++ [58]) ++ jw 44 ((cs.take k).map lnT) ∧ Below W.heap.size W wr ∧ HexIn wr W.heap.size n a m c)
  case atStart => exact ⟨0, decL n ++ [58], by omega, rfl, rfl, by rw [List.take_zero]; exact (List.append_nil _).symm, hB1.out, hX1.out⟩
  case round =>
    obtain ⟨k, l, hkg, rfl, rfl, hl, hB, hX⟩ := hrel
    have HL := hide hl
    have HB := hide hB
    have HX := hide hX
    obtain ⟨c0, c1⟩ := hX
    have hlen : l.length ≤ 4906 := by
      rw [hl, List.length_append, List.length_append, List.length_singleton]
      have h1 := jw_le 44 (M := 48) ((cs.take k).map lnT) (fun x hx => by obtain ⟨z, _, rfl⟩ := List.mem_map.1 hx; exact lnT_le z)
      rw [List.length_map, List.length_take] at h1
      omega
    clear hl hB
    cases gk with
    | zero =>
      obtain rfl : k = m := by omega
      have hfin : Hid (l = r) := hide (by rw [HL.out, HRR.out, HM.out, List.take_length]; rfl)
      clear hlen
      go_wp2_with fail
      go_ret
      exact ⟨by rw [hfin.out]; rfl, HB.out⟩
    | succ g =>
      have hkl : k < cs.length := by rw [← HM.out]; omega
      have hkm : (k : Int) < (m : Int) := by omega
      obtain ⟨b, off, z, e0, hcell, hz⟩ := HAW.out.one hkl
      have hcell' : ∀ V : World, Below W.heap.size W V → V.cell? ⟨b, off + k, none⟩ = some (.int .i64 z) := fun V hV => cell_keep hV hcell
      subst e0
      obtain ⟨z1, z2, z3⟩ := HIN.out z (List.mem_of_getElem? hz.out)
      have hnz := hide (l07Nodes_any z (by omega) z3)
      obtain ⟨nl, hnl⟩ : ∃ nl, nl = nodesL z := ⟨_, rfl⟩
      have HNL := hide hnl
      have hNL16 : Hid (nl.length ≤ 16) := hide (by rw [hnl]; exact nodesL_le z)
      have HYN : Hid (∀ y ∈ nl, 0 ≤ y ∧ y < 100) := hide (fun y hy => by rw [hnl] at hy; exact nodesL_in hy)
      rw [← hnl] at hnz
      obtain ⟨nn, hnn⟩ : ∃ nn, nn = nl.length := ⟨_, rfl⟩
      have hNN := hide hnn
      clear hcell hnl z1 z2 z3 hnn
      by_cases hk0 : k = 0
      · obtain ⟨PK, hP⟩ : ∃ PK, PK = l := ⟨_, rfl⟩
        have HPK : Hid ((decL n ++ [58]) ++ jw 44 ((cs.take (k + 1)).map lnT) = PK ++ lnT z) := hide (by rw [jw_first 44 lnT hk0 hz.out, hP, HL.out, List.append_assoc _ _ (lnT z)])
        have HPL : Hid (PK.length ≤ 4907) := hide (by rw [hP]; omega)
        have HE : Hid (l = PK) := hide hP.symm
        have d1 := hcell' _ HB.out
        have hgt : decide (0 < k) = false := decide_eq_false (by omega)
        clear hk0 hP hcell' hlen
        go_wp2_with fail
        clear d1 hgt
        refine (hnz.out _).mono ?_
        rintro e w5 ⟨a5, k5, rfl, ho5, hb5⟩
        have hB5 := hide (Below.trans' HB.out hb5)
        have hX5 := hide (HX.out.keep hb5)
        have hI5 := hide (intsAt_of_ownsRow ho5)
        clear hb5 ho5 c0 c1
        go_wp2_with fail
        rw [← hNN.out]
        have hnn16 : nn ≤ 16 := by rw [hNN.out]; exact hNL16.out
        go_loopg [3, 6] nn (fun g2 tx i2 wr => ∃ (q : Nat) (l : List UInt8), q + g2 = nn ∧ i2 = .int .i64 q ∧ tx = .string ⟨l.toArray⟩ ∧ l = PK ++ jw 46 ((nl.take q).map decL) ∧ Below w5.heap.size w5 wr)
        case atStart => exact ⟨0, l, by omega, rfl, rfl, by rw [HE.out]; rw [List.take_zero]; exact (List.append_nil _).symm, Below.refl _ _⟩
        case round =>
          obtain ⟨q, l2, hqg, rfl, rfl, hl2, hb6⟩ := hrel
          have HL2 := hide hl2
          have HB6 := hide hb6
          have hq3 : l2.length ≤ 5000 := by
            rw [hl2, List.length_append]
            have h1 := jw_le 46 (M := 2) ((nl.take q).map decL) (fun x hx => by obtain ⟨z, _, rfl⟩ := List.mem_map.1 hx; exact decL_le z)
            rw [List.length_map, List.length_take] at h1
            have h2 := HPL.out
            have h3 := hNL16.out
            omega
          clear hl2 hb6
          cases gk with
          | zero =>
            obtain rfl : q = nn := by omega
            have hnext : Hid (l2 = (decL n ++ [58]) ++ jw 44 ((cs.take (k + 1)).map lnT)) := hide (by
              rw [HL2.out, hNN.out, List.take_length, HPK.out, HNL.out]
              rfl)
            have hB9 := hide (Below.trans' hB5.out HB6.out)
            have hX9 := hide (hX5.out.keep HB6.out)
            clear hq3
            go_wp2_with fail
            go_roundg g
            case rel => exact ⟨k + 1, l2, by omega, by go_num, rfl, hnext.out, hB9.out, hX9.out⟩
            case measure => omega
          | succ g2 =>
            have hql : q < nl.length := by rw [← hNN.out]; omega
            have hqlt : (q : Int) < (nn : Int) := by omega
            obtain ⟨b3, o3, y, e3, hcell3, hg3⟩ := hI5.out.one hql
            have hcell3' := cell_keep HB6.out hcell3
            subst e3
            obtain ⟨y0, y1⟩ := HYN.out y (mem_of_get hg3.out)
            have hdc := hide (fun V => dec_any y y0 y1 V)
            obtain ⟨DZ, hDZ⟩ : ∃ D, D = decL y := ⟨_, rfl⟩
            have hDl : DZ.length ≤ 2 := by rw [hDZ]; exact decL_le y
            rw [← hDZ] at hdc
            by_cases hq0 : q = 0
            · have hadd : ∀ w' : World, (Op.stringOp .add ⟨l2.toArray⟩ ⟨DZ.toArray⟩).run Tryd.prog w' = .ok (.string ⟨(l2 ++ DZ).toArray⟩) w' := fun w' => run_string_add_lists w' l2 DZ (by omega) (by omega)
              have hnext : Hid (l2 ++ DZ = PK ++ jw 46 ((nl.take (q + 1)).map decL)) := hide (by rw [jw_first 46 decL hq0 hg3.out, ← hDZ, HL2.out, List.append_assoc])
              have hgt : decide (0 < q) = false := decide_eq_false (by omega)
              clear hq0 hDZ hcell3 hq3 hDl y0 y1
              go_wp2_with fail
              refine (hdc.out _).mono ?_
              rintro e w7 ⟨rfl, hb7⟩
              have hB7 := hide (Below.trans' HB6.out hb7)
              clear hb7 hcell3'
              go_wp2_with fail
              go_roundg g2
              case rel => exact ⟨q + 1, l2 ++ DZ, by omega, by go_num, rfl, hnext.out, hB7.out⟩
              case measure => omega
            · have hadd0 : ∀ w' : World, (Op.stringOp .add ⟨l2.toArray⟩ ⟨#[46]⟩).run Tryd.prog w' = .ok (.string ⟨(l2 ++ [46]).toArray⟩) w' := fun w' => run_string_add_lists w' l2 [46] (by omega) (by simp)
              obtain ⟨l3, hl3⟩ : ∃ l3, l3 = l2 ++ [46] := ⟨_, rfl⟩
              have hl3l : l3.length ≤ 5001 := by rw [hl3, List.length_append, List.length_singleton]; omega
              rw [← hl3] at hadd0
              have hadd : ∀ w' : World, (Op.stringOp .add ⟨l3.toArray⟩ ⟨DZ.toArray⟩).run Tryd.prog w' = .ok (.string ⟨(l3 ++ DZ).toArray⟩) w' := fun w' => run_string_add_lists w' l3 DZ (by omega) (by omega)
              have hnext : Hid (l3 ++ DZ = PK ++ jw 46 ((nl.take (q + 1)).map decL)) := hide (by rw [jw_next 46 decL hq0 hg3.out, ← hDZ, hl3, HL2.out]; simp [List.append_assoc])
              have hgt : (0 : Int) < (q : Int) := by omega
              clear hq0 hDZ hcell3 hq3 hDl y0 y1 hl3 hl3l
              go_wp2_with fail
              refine (hdc.out _).mono ?_
              rintro e w7 ⟨rfl, hb7⟩
              have hB7 := hide (Below.trans' HB6.out hb7)
              clear hb7 hcell3'
              go_wp2_with fail
              go_roundg g2
              case rel => exact ⟨q + 1, l3 ++ DZ, by omega, by go_num, rfl, hnext.out, hB7.out⟩
              case measure => omega
      · obtain ⟨PK, hP⟩ : ∃ PK, PK = l ++ [44] := ⟨_, rfl⟩
        have HPK : Hid ((decL n ++ [58]) ++ jw 44 ((cs.take (k + 1)).map lnT) = PK ++ lnT z) := hide (by rw [jw_next 44 lnT hk0 hz.out, hP, HL.out]; simp [List.append_assoc])
        have HPL : Hid (PK.length ≤ 4907) := hide (by rw [hP, List.length_append, List.length_singleton]; omega)
        have HE : Hid (l ++ [44] = PK) := hide hP.symm
        have hadd0 : ∀ w' : World, (Op.stringOp .add ⟨l.toArray⟩ ⟨#[44]⟩).run Tryd.prog w' = .ok (.string ⟨(l ++ [44]).toArray⟩) w' := fun w' => run_string_add_lists w' l [44] (by omega) (by simp)
        have d1 := hcell' _ HB.out
        have hgt : (0 : Int) < (k : Int) := by omega
        clear hk0 hP hcell' hlen
        go_wp2_with fail
        clear d1 hgt hadd0
        refine (hnz.out _).mono ?_
        rintro e w5 ⟨a5, k5, rfl, ho5, hb5⟩
        have hB5 := hide (Below.trans' HB.out hb5)
        have hX5 := hide (HX.out.keep hb5)
        have hI5 := hide (intsAt_of_ownsRow ho5)
        clear hb5 ho5 c0 c1
        go_wp2_with fail
        rw [← hNN.out]
        have hnn16 : nn ≤ 16 := by rw [hNN.out]; exact hNL16.out
        go_loopg [3, 6] nn (fun g2 tx i2 wr => ∃ (q : Nat) (l : List UInt8), q + g2 = nn ∧ i2 = .int .i64 q ∧ tx = .string ⟨l.toArray⟩ ∧ l = PK ++ jw 46 ((nl.take q).map decL) ∧ Below w5.heap.size w5 wr)
        case atStart => exact ⟨0, l ++ [44], by omega, rfl, rfl, by rw [HE.out]; rw [List.take_zero]; exact (List.append_nil _).symm, Below.refl _ _⟩
        case round =>
          obtain ⟨q, l2, hqg, rfl, rfl, hl2, hb6⟩ := hrel
          have HL2 := hide hl2
          have HB6 := hide hb6
          have hq3 : l2.length ≤ 5000 := by
            rw [hl2, List.length_append]
            have h1 := jw_le 46 (M := 2) ((nl.take q).map decL) (fun x hx => by obtain ⟨z, _, rfl⟩ := List.mem_map.1 hx; exact decL_le z)
            rw [List.length_map, List.length_take] at h1
            have h2 := HPL.out
            have h3 := hNL16.out
            omega
          clear hl2 hb6
          cases gk with
          | zero =>
            obtain rfl : q = nn := by omega
            have hnext : Hid (l2 = (decL n ++ [58]) ++ jw 44 ((cs.take (k + 1)).map lnT)) := hide (by
              rw [HL2.out, hNN.out, List.take_length, HPK.out, HNL.out]
              rfl)
            have hB9 := hide (Below.trans' hB5.out HB6.out)
            have hX9 := hide (hX5.out.keep HB6.out)
            clear hq3
            go_wp2_with fail
            go_roundg g
            case rel => exact ⟨k + 1, l2, by omega, by go_num, rfl, hnext.out, hB9.out, hX9.out⟩
            case measure => omega
          | succ g2 =>
            have hql : q < nl.length := by rw [← hNN.out]; omega
            have hqlt : (q : Int) < (nn : Int) := by omega
            obtain ⟨b3, o3, y, e3, hcell3, hg3⟩ := hI5.out.one hql
            have hcell3' := cell_keep HB6.out hcell3
            subst e3
            obtain ⟨y0, y1⟩ := HYN.out y (mem_of_get hg3.out)
            have hdc := hide (fun V => dec_any y y0 y1 V)
            obtain ⟨DZ, hDZ⟩ : ∃ D, D = decL y := ⟨_, rfl⟩
            have hDl : DZ.length ≤ 2 := by rw [hDZ]; exact decL_le y
            rw [← hDZ] at hdc
            by_cases hq0 : q = 0
            · have hadd : ∀ w' : World, (Op.stringOp .add ⟨l2.toArray⟩ ⟨DZ.toArray⟩).run Tryd.prog w' = .ok (.string ⟨(l2 ++ DZ).toArray⟩) w' := fun w' => run_string_add_lists w' l2 DZ (by omega) (by omega)
              have hnext : Hid (l2 ++ DZ = PK ++ jw 46 ((nl.take (q + 1)).map decL)) := hide (by rw [jw_first 46 decL hq0 hg3.out, ← hDZ, HL2.out, List.append_assoc])
              have hgt : decide (0 < q) = false := decide_eq_false (by omega)
              clear hq0 hDZ hcell3 hq3 hDl y0 y1
              go_wp2_with fail
              refine (hdc.out _).mono ?_
              rintro e w7 ⟨rfl, hb7⟩
              have hB7 := hide (Below.trans' HB6.out hb7)
              clear hb7 hcell3'
              go_wp2_with fail
              go_roundg g2
              case rel => exact ⟨q + 1, l2 ++ DZ, by omega, by go_num, rfl, hnext.out, hB7.out⟩
              case measure => omega
            · have hadd0 : ∀ w' : World, (Op.stringOp .add ⟨l2.toArray⟩ ⟨#[46]⟩).run Tryd.prog w' = .ok (.string ⟨(l2 ++ [46]).toArray⟩) w' := fun w' => run_string_add_lists w' l2 [46] (by omega) (by simp)
              obtain ⟨l3, hl3⟩ : ∃ l3, l3 = l2 ++ [46] := ⟨_, rfl⟩
              have hl3l : l3.length ≤ 5001 := by rw [hl3, List.length_append, List.length_singleton]; omega
              rw [← hl3] at hadd0
              have hadd : ∀ w' : World, (Op.stringOp .add ⟨l3.toArray⟩ ⟨DZ.toArray⟩).run Tryd.prog w' = .ok (.string ⟨(l3 ++ DZ).toArray⟩) w' := fun w' => run_string_add_lists w' l3 DZ (by omega) (by omega)
              have hnext : Hid (l3 ++ DZ = PK ++ jw 46 ((nl.take (q + 1)).map decL)) := hide (by rw [jw_next 46 decL hq0 hg3.out, ← hDZ, hl3, HL2.out]; simp [List.append_assoc])
              have hgt : (0 : Int) < (q : Int) := by omega
              clear hq0 hDZ hcell3 hq3 hDl y0 y1 hl3 hl3l
              go_wp2_with fail
              refine (hdc.out _).mono ?_
              rintro e w7 ⟨rfl, hb7⟩
              have hB7 := hide (Below.trans' HB6.out hb7)
              clear hb7 hcell3'
              go_wp2_with fail
              go_roundg g2
              case rel => exact ⟨q + 1, l3 ++ DZ, by omega, by go_num, rfl, hnext.out, hB7.out⟩
              case measure => omega

set_option maxRecDepth 100000 in
set_option maxHeartbeats 1000000 in
theorem specBoardText_any (n : Int) (a : Option Addr) (c : Nat) (cs : List Int) (W : World) (ha : IntsAt W a cs) (hl : cs.length ≤ 1048576) :
    Calls Tryd.prog 15 #[.agg #[.int .i64 n, .slice a cs.length c]] W (RetB (.tuple #[.string ⟨(txtR n cs).1.toArray⟩, .int .i64 (txtR n cs).2]) W) := by
  obtain ⟨W0, hW0⟩ : ∃ W0, W0 = W.alloc (.cells #[.int .i64 n, .slice a cs.length c] 28) := ⟨_, rfl⟩
  have hB0 : Hid (Below W.heap.size W W0) := by rw [hW0]; exact hide (below_alloc _ _)
  have hX0 : Hid (HexIn W0 W.heap.size n a cs.length c) := by rw [hW0]; exact hide (hexIn_new _ _ _ _ _ _)
  have hA0 := hide (ha.keep hB0.out)
  obtain ⟨c0, c1⟩ := hX0.out
  cases hok : okB n cs
  · have HR : Hid (txtR n cs = ([], 1)) := hide (by unfold txtR; rw [hok]; rfl)
    rw [HR.out]
    have HIS := hide (l07Is_is hok (c := c) hA0.out hl)
    clear ha hok
    go_enter Tryd.func15, Tryd.ntmps15
    go_wp2_with fail
    rw [← hW0]
    clear hW0
    (try go_wp2_with fail)
    refine HIS.out.mono ?_
    rintro e w1 ⟨rfl, hb1⟩
    have hB1 := hide (Below.trans' hB0.out hb1)
    clear hb1 c0 c1
    go_wp2_with fail
    go_ret2
    exact ⟨rfl, hB1.out⟩
  · obtain ⟨r, hr⟩ : ∃ r, r = txtB n cs := ⟨_, rfl⟩
    have HR : Hid (txtR n cs = (r, 0)) := hide (by unfold txtR; rw [hok, hr]; rfl)
    have HT : Hid (∀ V : World, IntsAt V a cs → Calls Tryd.prog 57 #[.agg #[.int .i64 n, .slice a cs.length c]] V (RetB (.string ⟨r.toArray⟩) V)) := hide (fun V h => by rw [hr]; exact l07Text_any n a c cs V h hok)
    rw [HR.out]
    have HIS := hide (l07Is_is hok (c := c) hA0.out hl)
    clear ha hok hr
    go_enter Tryd.func15, Tryd.ntmps15
    go_wp2_with fail
    rw [← hW0]
    clear hW0
    (try go_wp2_with fail)
    refine HIS.out.mono ?_
    rintro e w1 ⟨rfl, hb1⟩
    have hB1 := hide (Below.trans' hB0.out hb1)
    have hX1 := hide (hX0.out.keep hb1)
    have hA1 := hide (hA0.out.keep hb1)
    clear hb1 c0 c1
    obtain ⟨c0, c1⟩ := hX1.out
    go_wp2_with fail
    refine (HT.out _ hA1.out).mono ?_
    rintro e w2 ⟨rfl, hb2⟩
    have hB2 := hide (Below.trans' hB1.out hb2)
    clear hb2 c0 c1
    go_wp2_with fail
    go_ret2
    exact ⟨rfl, hB2.out⟩
end Go.Proofs.YtkekanllfpdeaaaDoor
