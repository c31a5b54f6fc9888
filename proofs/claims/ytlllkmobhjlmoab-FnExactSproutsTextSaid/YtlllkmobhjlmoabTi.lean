/-
  Sprouts positions: SproutsText, the program's text.
-/
import Derived.Test.YtlllkmobhjlmoabTt
namespace Go.Proofs.Ytlllkmobhjlmoab
open Go.RowKit
set_option linter.unusedVariables false

theorem cell_keep' {w w' : World} {N : Nat} {p : Addr} {v : Value} (hN : N = w.heap.size) (hb : Below N w w') (h : w.cell? p = some v) : w'.cell? p = some v := by
  subst hN
  exact cell_keep hb h

set_option maxRecDepth 100000 in
set_option maxHeartbeats 4000000 in
theorem regionsText_any (a : Option Addr) (c : Nat) (X : List (List (List Int))) (W : World) (ha : CubeAt W a X) (hs : Small3 X) (ht : Told X) :
    Calls Try.prog 29 #[.slice a X.length c, .func (.func 30) #[] #[]] W (RetB (.string ⟨(gT X X.length).toArray⟩) W) := by
  obtain ⟨N, hN⟩ : ∃ N, N = W.heap.size := ⟨_, rfl⟩
  have HNW := hide hN
  obtain ⟨W2, hW2⟩ : ∃ W2, W2 = W.alloc (.cells #[.pointer none, .slice none 0 0] 63) := ⟨_, rfl⟩
  have hA2 : Hid (BAt N N W W2 (gT X 0)) := by rw [hW2, hN]; exact hide ⟨Lib.fresh_isBuilder _ _ W, below_alloc _ _, by simp⟩
  obtain ⟨n, hn⟩ : ∃ n, n = X.length := ⟨_, rfl⟩
  have HN := hide hn
  have HA := hide ha
  have HS := hide hs
  have HT := hide ht
  have hn1 : n ≤ 1048576 := by rw [hn]; exact hs.1
  obtain ⟨r, hr⟩ : ∃ r, r = gT X X.length := ⟨_, rfl⟩
  have HR : Hid (r = gT X n) := hide (by rw [hr, hn])
  rw [← hr, ← hn]
  clear ha hs ht hn hr
  go_enter Try.func29, Try.ntmps29
  go_wp2_with fail
  rw [← hW2, ← hN]
  clear hW2 hN
  (try go_wp2_with fail)
  go_loopg [14] n (fun g i wr => ∃ j : Nat, j + g = n ∧ i = .int .i64 j ∧ BAt N N W wr (gT X j))
  case atStart => exact ⟨0, by omega, rfl, hA2.out⟩
  case round =>
    clear hA2
    obtain ⟨j, hjg, rfl, hA⟩ := hrel
    have HB0 := hide hA
    clear hA
    cases gk with
    | zero =>
      obtain rfl : j = n := by omega
      go_wp2_with fail
      refine (Try.Builder_String_any N N (gT X j) _ HB0.out.is HB0.out.size).mono ?_
      rintro e w8 ⟨rfl, hb8⟩
      have hB8 : Hid (Below W.heap.size W w8) := hide (by rw [← HNW.out]; exact HB0.out.old.trans hb8)
      clear hb8
      go_wp2_with fail
      go_ret
      exact ⟨by rw [HR.out]; rfl, hB8.out⟩
    | succ g =>
      have hjx : j < X.length := by rw [← HN.out]; omega
      have hjlt : (j : Int) < (n : Int) := by omega
      obtain ⟨b1, o1, a1, c1, xss, e1, hcell1, hz1, hg1⟩ := HA.out.one hjx
      subst e1
      have d1 := cell_keep' HNW.out (HB0.out.old) hcell1
      obtain ⟨mm, hmm⟩ : ∃ mm, mm = xss.length := ⟨_, rfl⟩
      have HM := hide hmm
      have HJX := hide hg1.out
      have hmm1 : mm ≤ 1048576 := by rw [hmm]; exact (HS.out.2.2 xss (mem_of_get hg1.out)).1
      have HZ1 := hide hz1
      have HGL : Hid ((gT X j).length ≤ 3145728) := hide (by
        have := pk_len HS.out HT.out hg1.out (q := 0) (by omega)
        omega)
      rw [← hmm] at d1
      clear hmm hcell1 hz1
      by_cases hj0 : j = 0
      · obtain ⟨PK, hP⟩ : ∃ PK, PK = gT X j := ⟨_, rfl⟩
        have HPK : Hid (gT X (j + 1) = PK ++ rT xss xss.length) := hide (by rw [hP, gT_first hj0 HJX.out])
        have HPL : Hid (PK.length ≤ (gT X j).length + 1) := hide (by rw [hP]; omega)
        have hAP : Hid (BAt N N W wr PK) := hide (by rw [hP]; exact HB0.out)
        have hgt : decide (0 < j) = false := decide_eq_false (by omega)
        clear hP HB0 hj0
        go_wp2_with fail
        clear d1 hgt
        obtain ⟨wo, hwo⟩ : ∃ wo : World, wo = wr := ⟨_, rfl⟩
        rw [← hwo] at hAP ⊢
        clear hwo
        go_loopg [24] mm (fun g2 i2 wr => ∃ q : Nat, q + g2 = mm ∧ i2 = .int .i64 q ∧ BAt N N W wr (PK ++ rT xss q))
        case atStart => exact ⟨0, by omega, rfl, by rw [rT_zero, List.append_nil]; exact hAP.out⟩
        case round =>
          clear hAP
          obtain ⟨q, hqg, rfl, hB⟩ := hrel
          have HB := hide hB
          clear hB
          cases gk with
          | zero =>
            obtain rfl : q = mm := by omega
            have hnext : Hid (gT X (j + 1) = PK ++ rT xss q) := hide (by rw [HPK.out, HM.out])
            go_wp2_with fail
            go_roundg g
            case rel => exact ⟨j + 1, by omega, by go_num, by rw [hnext.out]; exact HB.out⟩
            case measure => omega
          | succ g2 =>
            have hqx : q < xss.length := by rw [← HM.out]; omega
            have hqlt : (q : Int) < (mm : Int) := by omega
            obtain ⟨b2, o2, a2, c2, zs, e2, hcell2, hz2, hg2⟩ := HZ1.out.one hqx
            subst e2
            have d2 := cell_keep' HNW.out (HB.out.old) hcell2
            obtain ⟨lz, hlz⟩ : ∃ lz, lz = zs.length := ⟨_, rfl⟩
            have HLZ := hide hlz
            have HZ2 := hide hz2
            have hzm : zs ∈ X.flatten := List.mem_flatten.2 ⟨xss, mem_of_get HJX.out, mem_of_get hg2.out⟩
            have HGZ := hide (HT.out zs hzm).2
            have HL9 : Hid ((PK ++ rT xss q).length + 1 + zs.length ≤ 3145730) := hide (by
              have h1 := pk_len HS.out HT.out HJX.out (q := q) (by omega)
              have h2 := drop_len hg2.out
              have h3 := HPL.out
              rw [List.length_append]
              omega)
            have hzl : lz ≤ 1048576 := by rw [hlz]; exact (HS.out.2.2 xss (mem_of_get HJX.out)).2 zs (mem_of_get hg2.out)
            rw [← hlz] at d2
            clear hlz hzm hcell2 hz2
            by_cases hq0 : q = 0
            · obtain ⟨QK, hQ⟩ : ∃ QK, QK = PK ++ rT xss q := ⟨_, rfl⟩
              have HQK : Hid (PK ++ rT xss (q + 1) = QK ++ bT zs) := hide (by rw [hQ, rT_first hq0 hg2.out, List.append_assoc])
              have HQL : Hid (QK.length + zs.length ≤ 3145730) := hide (by have := HL9.out; rw [hQ]; omega)
              have hAQ : Hid (BAt N N W wr QK) := hide (by rw [hQ]; exact HB.out)
              have hgt : decide (0 < q) = false := decide_eq_false (by omega)
              clear hQ HL9 HB hq0
              go_wp2_with fail
              clear d2 hgt
              obtain ⟨wi, hwi⟩ : ∃ wi : World, wi = wr := ⟨_, rfl⟩
              rw [← hwi] at hAQ ⊢
              clear hwi
              go_loopg [34] lz (fun g3 i3 wr => ∃ p : Nat, p + g3 = lz ∧ i3 = .int .i64 p ∧ BAt N N W wr (QK ++ bT (zs.take p)))
              case atStart => exact ⟨0, by omega, rfl, by rw [List.take_zero, show bT [] = [] from rfl, List.append_nil]; exact hAQ.out⟩
              case round =>
                clear hAQ
                obtain ⟨p, hpg, rfl, hC⟩ := hrel
                have HC := hide hC
                clear hC
                cases gk with
                | zero =>
                  obtain rfl : p = lz := by omega
                  have hnext : Hid (PK ++ rT xss (q + 1) = QK ++ bT (zs.take p)) := hide (by rw [HQK.out, HLZ.out, List.take_length])
                  go_wp2_with fail
                  go_roundg g2
                  case rel => exact ⟨q + 1, by omega, by go_num, by rw [hnext.out]; exact HC.out⟩
                  case measure => omega
                | succ g3 =>
                  have hpz : p < zs.length := by rw [← HLZ.out]; omega
                  have hplt : (p : Int) < (lz : Int) := by omega
                  obtain ⟨b3, o3, z, e3, hcell3, hg3⟩ := HZ2.out.one hpz
                  subst e3
                  obtain ⟨z0, z1⟩ := HGZ.out z (mem_of_get hg3.out)
                  have d3 := cell_keep' HNW.out (HC.out.old) hcell3
                  have hsnoc : Hid (QK ++ bT (zs.take (p + 1)) = (QK ++ bT (zs.take p)) ++ [ltr z]) := hide (by rw [bT_snoc hg3.out, List.append_assoc])
                  have hl9 : Hid ((QK ++ bT (zs.take p)).length ≤ 8388608) := hide (by
                    rw [List.length_append]
                    have h1 := HQL.out
                    have h2 := bT_len zs p
                    omega)
                  have hln := hide (ltr_nat z0 z1)
                  clear hcell3
                  go_wp2_with fail
                  refine (sign_any z z0 z1 _).mono ?_
                  rintro e w6 ⟨rfl, hb6⟩
                  have hC6 := hide (HC.out.keep hb6)
                  clear hb6 d3
                  go_wp2_with fail
                  refine (writeByte_any N N _ (97 + z) _ hC6.out.is (by rw [byteCells_len]; exact hl9.out) hC6.out.size).mono ?_
                  rintro e w7 ⟨rfl, hi7, hb7⟩
                  have hC7 := hide (hC6.out.byte (u := ltr z) hln.out hi7 hb7)
                  clear hi7 hb7
                  go_wp2_with fail
                  go_roundg g3
                  case rel => exact ⟨p + 1, by omega, by go_num, by rw [hsnoc.out]; exact hC7.out⟩
                  case measure => omega
            · obtain ⟨QK, hQ⟩ : ∃ QK, QK = (PK ++ rT xss q) ++ [44] := ⟨_, rfl⟩
              have HQK : Hid (PK ++ rT xss (q + 1) = QK ++ bT zs) := hide (by rw [hQ, rT_next hq0 hg2.out]; simp [List.append_assoc])
              have HQL : Hid (QK.length + zs.length ≤ 3145730) := hide (by have := HL9.out; rw [hQ, List.length_append (bs := [44])]; simp only [List.length_singleton]; omega)
              have hgt : (0 : Int) < (q : Int) := by omega
              clear hq0
              go_wp2_with fail
              refine (writeByte_any N N _ 44 _ HB.out.is (by rw [byteCells_len]; have := HL9.out; omega) HB.out.size).mono ?_
              rintro e w4 ⟨rfl, hi4, hb4⟩
              have hAQ : Hid (BAt N N W w4 QK) := hide (by rw [hQ]; exact HB.out.byte (u := 44) rfl hi4 hb4)
              clear hQ HL9 HB hi4 hb4 hgt d2
              go_wp2_with fail
              obtain ⟨wi, hwi⟩ : ∃ wi : World, wi = w4 := ⟨_, rfl⟩
              rw [← hwi] at hAQ ⊢
              clear hwi
              go_loopg [34] lz (fun g3 i3 wr => ∃ p : Nat, p + g3 = lz ∧ i3 = .int .i64 p ∧ BAt N N W wr (QK ++ bT (zs.take p)))
              case atStart => exact ⟨0, by omega, rfl, by rw [List.take_zero, show bT [] = [] from rfl, List.append_nil]; exact hAQ.out⟩
              case round =>
                clear hAQ
                obtain ⟨p, hpg, rfl, hC⟩ := hrel
                have HC := hide hC
                clear hC
                cases gk with
                | zero =>
                  obtain rfl : p = lz := by omega
                  have hnext : Hid (PK ++ rT xss (q + 1) = QK ++ bT (zs.take p)) := hide (by rw [HQK.out, HLZ.out, List.take_length])
                  go_wp2_with fail
                  go_roundg g2
                  case rel => exact ⟨q + 1, by omega, by go_num, by rw [hnext.out]; exact HC.out⟩
                  case measure => omega
                | succ g3 =>
                  have hpz : p < zs.length := by rw [← HLZ.out]; omega
                  have hplt : (p : Int) < (lz : Int) := by omega
                  obtain ⟨b3, o3, z, e3, hcell3, hg3⟩ := HZ2.out.one hpz
                  subst e3
                  obtain ⟨z0, z1⟩ := HGZ.out z (mem_of_get hg3.out)
                  have d3 := cell_keep' HNW.out (HC.out.old) hcell3
                  have hsnoc : Hid (QK ++ bT (zs.take (p + 1)) = (QK ++ bT (zs.take p)) ++ [ltr z]) := hide (by rw [bT_snoc hg3.out, List.append_assoc])
                  have hl9 : Hid ((QK ++ bT (zs.take p)).length ≤ 8388608) := hide (by
                    rw [List.length_append]
                    have h1 := HQL.out
                    have h2 := bT_len zs p
                    omega)
                  have hln := hide (ltr_nat z0 z1)
                  clear hcell3
                  go_wp2_with fail
                  refine (sign_any z z0 z1 _).mono ?_
                  rintro e w6 ⟨rfl, hb6⟩
                  have hC6 := hide (HC.out.keep hb6)
                  clear hb6 d3
                  go_wp2_with fail
                  refine (writeByte_any N N _ (97 + z) _ hC6.out.is (by rw [byteCells_len]; exact hl9.out) hC6.out.size).mono ?_
                  rintro e w7 ⟨rfl, hi7, hb7⟩
                  have hC7 := hide (hC6.out.byte (u := ltr z) hln.out hi7 hb7)
                  clear hi7 hb7
                  go_wp2_with fail
                  go_roundg g3
                  case rel => exact ⟨p + 1, by omega, by go_num, by rw [hsnoc.out]; exact hC7.out⟩
                  case measure => omega
      · obtain ⟨PK, hP⟩ : ∃ PK, PK = gT X j ++ [47] := ⟨_, rfl⟩
        have HPK : Hid (gT X (j + 1) = PK ++ rT xss xss.length) := hide (by rw [hP, gT_next hj0 HJX.out])
        have HPL : Hid (PK.length ≤ (gT X j).length + 1) := hide (by rw [hP]; simp)
        have hgt : (0 : Int) < (j : Int) := by omega
        clear hj0
        go_wp2_with fail
        refine (writeByte_any N N _ 47 _ HB0.out.is (by rw [byteCells_len]; have := HGL.out; omega) HB0.out.size).mono ?_
        rintro e w3 ⟨rfl, hi3, hb3⟩
        have hAP : Hid (BAt N N W w3 PK) := hide (by rw [hP]; exact HB0.out.byte (u := 47) rfl hi3 hb3)
        clear hP HB0 hi3 hb3 hgt d1
        go_wp2_with fail
        obtain ⟨wo, hwo⟩ : ∃ wo : World, wo = w3 := ⟨_, rfl⟩
        rw [← hwo] at hAP ⊢
        clear hwo
        go_loopg [24] mm (fun g2 i2 wr => ∃ q : Nat, q + g2 = mm ∧ i2 = .int .i64 q ∧ BAt N N W wr (PK ++ rT xss q))
        case atStart => exact ⟨0, by omega, rfl, by rw [rT_zero, List.append_nil]; exact hAP.out⟩
        case round =>
          clear hAP
          obtain ⟨q, hqg, rfl, hB⟩ := hrel
          have HB := hide hB
          clear hB
          cases gk with
          | zero =>
            obtain rfl : q = mm := by omega
            have hnext : Hid (gT X (j + 1) = PK ++ rT xss q) := hide (by rw [HPK.out, HM.out])
            go_wp2_with fail
            go_roundg g
            case rel => exact ⟨j + 1, by omega, by go_num, by rw [hnext.out]; exact HB.out⟩
            case measure => omega
          | succ g2 =>
            have hqx : q < xss.length := by rw [← HM.out]; omega
            have hqlt : (q : Int) < (mm : Int) := by omega
            obtain ⟨b2, o2, a2, c2, zs, e2, hcell2, hz2, hg2⟩ := HZ1.out.one hqx
            subst e2
            have d2 := cell_keep' HNW.out (HB.out.old) hcell2
            obtain ⟨lz, hlz⟩ : ∃ lz, lz = zs.length := ⟨_, rfl⟩
            have HLZ := hide hlz
            have HZ2 := hide hz2
            have hzm : zs ∈ X.flatten := List.mem_flatten.2 ⟨xss, mem_of_get HJX.out, mem_of_get hg2.out⟩
            have HGZ := hide (HT.out zs hzm).2
            have HL9 : Hid ((PK ++ rT xss q).length + 1 + zs.length ≤ 3145730) := hide (by
              have h1 := pk_len HS.out HT.out HJX.out (q := q) (by omega)
              have h2 := drop_len hg2.out
              have h3 := HPL.out
              rw [List.length_append]
              omega)
            have hzl : lz ≤ 1048576 := by rw [hlz]; exact (HS.out.2.2 xss (mem_of_get HJX.out)).2 zs (mem_of_get hg2.out)
            rw [← hlz] at d2
            clear hlz hzm hcell2 hz2
            by_cases hq0 : q = 0
            · obtain ⟨QK, hQ⟩ : ∃ QK, QK = PK ++ rT xss q := ⟨_, rfl⟩
              have HQK : Hid (PK ++ rT xss (q + 1) = QK ++ bT zs) := hide (by rw [hQ, rT_first hq0 hg2.out, List.append_assoc])
              have HQL : Hid (QK.length + zs.length ≤ 3145730) := hide (by have := HL9.out; rw [hQ]; omega)
              have hAQ : Hid (BAt N N W wr QK) := hide (by rw [hQ]; exact HB.out)
              have hgt : decide (0 < q) = false := decide_eq_false (by omega)
              clear hQ HL9 HB hq0
              go_wp2_with fail
              clear d2 hgt
              obtain ⟨wi, hwi⟩ : ∃ wi : World, wi = wr := ⟨_, rfl⟩
              rw [← hwi] at hAQ ⊢
              clear hwi
              go_loopg [34] lz (fun g3 i3 wr => ∃ p : Nat, p + g3 = lz ∧ i3 = .int .i64 p ∧ BAt N N W wr (QK ++ bT (zs.take p)))
              case atStart => exact ⟨0, by omega, rfl, by rw [List.take_zero, show bT [] = [] from rfl, List.append_nil]; exact hAQ.out⟩
              case round =>
                clear hAQ
                obtain ⟨p, hpg, rfl, hC⟩ := hrel
                have HC := hide hC
                clear hC
                cases gk with
                | zero =>
                  obtain rfl : p = lz := by omega
                  have hnext : Hid (PK ++ rT xss (q + 1) = QK ++ bT (zs.take p)) := hide (by rw [HQK.out, HLZ.out, List.take_length])
                  go_wp2_with fail
                  go_roundg g2
                  case rel => exact ⟨q + 1, by omega, by go_num, by rw [hnext.out]; exact HC.out⟩
                  case measure => omega
                | succ g3 =>
                  have hpz : p < zs.length := by rw [← HLZ.out]; omega
                  have hplt : (p : Int) < (lz : Int) := by omega
                  obtain ⟨b3, o3, z, e3, hcell3, hg3⟩ := HZ2.out.one hpz
                  subst e3
                  obtain ⟨z0, z1⟩ := HGZ.out z (mem_of_get hg3.out)
                  have d3 := cell_keep' HNW.out (HC.out.old) hcell3
                  have hsnoc : Hid (QK ++ bT (zs.take (p + 1)) = (QK ++ bT (zs.take p)) ++ [ltr z]) := hide (by rw [bT_snoc hg3.out, List.append_assoc])
                  have hl9 : Hid ((QK ++ bT (zs.take p)).length ≤ 8388608) := hide (by
                    rw [List.length_append]
                    have h1 := HQL.out
                    have h2 := bT_len zs p
                    omega)
                  have hln := hide (ltr_nat z0 z1)
                  clear hcell3
                  go_wp2_with fail
                  refine (sign_any z z0 z1 _).mono ?_
                  rintro e w6 ⟨rfl, hb6⟩
                  have hC6 := hide (HC.out.keep hb6)
                  clear hb6 d3
                  go_wp2_with fail
                  refine (writeByte_any N N _ (97 + z) _ hC6.out.is (by rw [byteCells_len]; exact hl9.out) hC6.out.size).mono ?_
                  rintro e w7 ⟨rfl, hi7, hb7⟩
                  have hC7 := hide (hC6.out.byte (u := ltr z) hln.out hi7 hb7)
                  clear hi7 hb7
                  go_wp2_with fail
                  go_roundg g3
                  case rel => exact ⟨p + 1, by omega, by go_num, by rw [hsnoc.out]; exact hC7.out⟩
                  case measure => omega
            · obtain ⟨QK, hQ⟩ : ∃ QK, QK = (PK ++ rT xss q) ++ [44] := ⟨_, rfl⟩
              have HQK : Hid (PK ++ rT xss (q + 1) = QK ++ bT zs) := hide (by rw [hQ, rT_next hq0 hg2.out]; simp [List.append_assoc])
              have HQL : Hid (QK.length + zs.length ≤ 3145730) := hide (by have := HL9.out; rw [hQ, List.length_append (bs := [44])]; simp only [List.length_singleton]; omega)
              have hgt : (0 : Int) < (q : Int) := by omega
              clear hq0
              go_wp2_with fail
              refine (writeByte_any N N _ 44 _ HB.out.is (by rw [byteCells_len]; have := HL9.out; omega) HB.out.size).mono ?_
              rintro e w4 ⟨rfl, hi4, hb4⟩
              have hAQ : Hid (BAt N N W w4 QK) := hide (by rw [hQ]; exact HB.out.byte (u := 44) rfl hi4 hb4)
              clear hQ HL9 HB hi4 hb4 hgt d2
              go_wp2_with fail
              obtain ⟨wi, hwi⟩ : ∃ wi : World, wi = w4 := ⟨_, rfl⟩
              rw [← hwi] at hAQ ⊢
              clear hwi
              go_loopg [34] lz (fun g3 i3 wr => ∃ p : Nat, p + g3 = lz ∧ i3 = .int .i64 p ∧ BAt N N W wr (QK ++ bT (zs.take p)))
              case atStart => exact ⟨0, by omega, rfl, by rw [List.take_zero, show bT [] = [] from rfl, List.append_nil]; exact hAQ.out⟩
              case round =>
                clear hAQ
                obtain ⟨p, hpg, rfl, hC⟩ := hrel
                have HC := hide hC
                clear hC
                cases gk with
                | zero =>
                  obtain rfl : p = lz := by omega
                  have hnext : Hid (PK ++ rT xss (q + 1) = QK ++ bT (zs.take p)) := hide (by rw [HQK.out, HLZ.out, List.take_length])
                  go_wp2_with fail
                  go_roundg g2
                  case rel => exact ⟨q + 1, by omega, by go_num, by rw [hnext.out]; exact HC.out⟩
                  case measure => omega
                | succ g3 =>
                  have hpz : p < zs.length := by rw [← HLZ.out]; omega
                  have hplt : (p : Int) < (lz : Int) := by omega
                  obtain ⟨b3, o3, z, e3, hcell3, hg3⟩ := HZ2.out.one hpz
                  subst e3
                  obtain ⟨z0, z1⟩ := HGZ.out z (mem_of_get hg3.out)
                  have d3 := cell_keep' HNW.out (HC.out.old) hcell3
                  have hsnoc : Hid (QK ++ bT (zs.take (p + 1)) = (QK ++ bT (zs.take p)) ++ [ltr z]) := hide (by rw [bT_snoc hg3.out, List.append_assoc])
                  have hl9 : Hid ((QK ++ bT (zs.take p)).length ≤ 8388608) := hide (by
                    rw [List.length_append]
                    have h1 := HQL.out
                    have h2 := bT_len zs p
                    omega)
                  have hln := hide (ltr_nat z0 z1)
                  clear hcell3
                  go_wp2_with fail
                  refine (sign_any z z0 z1 _).mono ?_
                  rintro e w6 ⟨rfl, hb6⟩
                  have hC6 := hide (HC.out.keep hb6)
                  clear hb6 d3
                  go_wp2_with fail
                  refine (writeByte_any N N _ (97 + z) _ hC6.out.is (by rw [byteCells_len]; exact hl9.out) hC6.out.size).mono ?_
                  rintro e w7 ⟨rfl, hi7, hb7⟩
                  have hC7 := hide (hC6.out.byte (u := ltr z) hln.out hi7 hb7)
                  clear hi7 hb7
                  go_wp2_with fail
                  go_roundg g3
                  case rel => exact ⟨p + 1, by omega, by go_num, by rw [hsnoc.out]; exact hC7.out⟩
                  case measure => omega

def sprTV (r : List UInt8 × Int) : Value := .tuple #[.string ⟨r.1.toArray⟩, .int .i64 r.2]
set_option maxRecDepth 100000 in
set_option maxHeartbeats 1000000 in
theorem implSprText_any (s : Int) (a : Option Addr) (c : Nat) (X : List (List (List Int))) (W : World) (ha : CubeAt W a X) (hs : Small3 X) :
    Calls Try.prog 18 #[.agg #[.int .i64 s, .slice a X.length c]] W (RetB (.tuple #[.string ⟨(sprT s X).1.toArray⟩, .int .i64 (sprT s X).2]) W) := by
  obtain ⟨W0, hW0⟩ : ∃ W0, W0 = W.alloc (.cells #[.int .i64 s, .slice a X.length c] 29) := ⟨_, rfl⟩
  have hB0 : Hid (Below W.heap.size W W0) := by rw [hW0]; exact hide (below_alloc _ _)
  have hX0 : Hid (SprIn W0 W.heap.size s a X.length c) := by rw [hW0]; exact hide (sprIn_new _ _ _ _ _ _)
  have hA0 := hide (ha.keep hB0.out)
  obtain ⟨c0, c1⟩ := hX0.out
  have HIS := hide (implIsSprouts_any s a c X W0 hA0.out hs)
  cases hb : isSprB s X
  · have HR : Hid (sprT s X = ([], 1)) := hide (by unfold sprT; rw [hb]; rfl)
    rw [HR.out]
    rw [hb] at HIS
    clear hb ha hs
    go_enter Try.func18, Try.ntmps18
    go_wp2_with fail
    rw [← hW0]
    clear hW0
    (try go_wp2_with fail)
    refine HIS.out.mono ?_
    rintro e w1 ⟨rfl, hb1⟩
    have hB1 := hide (Below.trans' hB0.out hb1)
    clear hb1 c0 c1
    go_wp2_with fail
    go_ret2
    exact ⟨rfl, hB1.out⟩
  · obtain ⟨st, hst⟩ : ∃ st, sprC s X = some st := by
      unfold isSprB at hb
      cases h : sprC s X with
      | none => rw [h] at hb; cases hb
      | some st => exact ⟨st, rfl⟩
    obtain ⟨r, hr⟩ : ∃ r, r = gT X X.length := ⟨_, rfl⟩
    have HR : Hid (sprT s X = (r, 0)) := hide (by unfold sprT; rw [hb, hr]; rfl)
    have HRT : Hid (∀ V : World, CubeAt V a X → Calls Try.prog 29 #[.slice a X.length c, .func (.func 30) #[] #[]] V (RetB (.string ⟨r.toArray⟩) V)) := hide (fun V h => by rw [hr]; exact regionsText_any a c X V h hs (told_of hst))
    rw [HR.out]
    rw [hb] at HIS
    clear hb ha hs hst hr
    go_enter Try.func18, Try.ntmps18
    go_wp2_with fail
    rw [← hW0]
    clear hW0
    (try go_wp2_with fail)
    refine HIS.out.mono ?_
    rintro e w1 ⟨rfl, hb1⟩
    have hB1 := hide (Below.trans' hB0.out hb1)
    have hA1 := hide (hA0.out.keep hb1)
    have hX1 := hide (hX0.out.keep hb1)
    clear hb1 c0 c1
    obtain ⟨c0, c1⟩ := hX1.out
    go_wp2_with fail
    refine (HRT.out _ hA1.out).mono ?_
    rintro e w2 ⟨rfl, hb2⟩
    have hB2 := hide (Below.trans' hB1.out hb2)
    clear hb2 c0 c1
    go_wp2_with fail
    go_ret2
    exact ⟨rfl, hB2.out⟩
end Go.Proofs.Ytlllkmobhjlmoab
