/-
  Sprouts positions: SproutsText, the model's text.
-/
import Derived.Test.YtlllkmobhjlmoabTi
import Derived.Laws.BytesString
import Derived.Laws.Cells
namespace Go.Proofs.Ytlllkmobhjlmoab
open Go.RowKit
set_option linter.unusedVariables false

theorem push_all : ∀ (l : List UInt8) (r : ByteArray), (l.map fun u => (u.toNat : Int)).foldl (fun r n => r.push (UInt8.ofNat n.toNat)) r = ⟨r.data ++ l.toArray⟩
  | [], r => by simp
  | u :: l, r => by
    rw [List.map_cons, List.foldl_cons, push_all l]
    simp [ByteArray.push]
theorem bytes_text {w : World} {B n c : Nat} {a : Option Addr} {l : List UInt8} (h : w.ownsRow B 5 1 (.slice a n c) n (Lib.byteCells l)) (hn : l ≠ []) : (convert 60 9 (.slice a n c)).run Try.prog w = .ok (.string ⟨l.toArray⟩) w := by
  have hlen : (Lib.byteCells l).length = n := by have := h.1; omega
  obtain ⟨b, off, rfl, hi⟩ := (cellsAt_of_ownsRow h) (by intro e; unfold Lib.byteCells at e; simp at e; exact hn e)
  rw [run_convert_bytes_string _ _ _ _ _ _ _ Try.underlying60 Try.underlying5 Try.underlying9]
  have hc : (Lib.byteCells l) = (l.map fun u => (u.toNat : Int)).map (Value.int .u8) := by unfold Lib.byteCells; rw [List.map_map]; rfl
  rw [run_bytesToString _ _ _ _ (l.map fun u => (u.toNat : Int)) ?_]
  · rw [push_all]
    simp
  · rw [← hc, ← hlen]
    exact run_loadCells_list _ _ _ (fun j v hv => by
      have hj : j < (Lib.byteCells l).length := (List.getElem?_eq_some_iff.1 hv).1
      exact (congrArg w.cell? (show (⟨b, off, none⟩ : Addr).add j = ⟨b, off + j, none⟩ by simp [Addr.add])).trans ((hi j hj).trans hv))

/-- The letters of the call's own, under way. -/
structure TAt (B : Nat) (W0 w : World) (v : Value) (l : List UInt8) : Prop where
  own : w.ownsRow B 5 1 v l.length (Lib.byteCells l)
  old : Below B W0 w
  size : B ≤ w.heap.size
theorem TAt.form {B : Nat} {W0 w : World} {v : Value} {l : List UInt8} (h : TAt B W0 w v l) : ∃ a c, v = .slice a l.length c := own_slice h.own
theorem TAt.snoc {B : Nat} {W0 w2 w3 : World} {v v' : Value} {l : List UInt8} {c : Int} {u : UInt8} (h : TAt B W0 w2 v l) (hu : (u.toNat : Int) = c) (hown : w3.ownsRow B 5 1 v' (l.length + 1) (Lib.byteCells l ++ [.int .u8 c]))
    (hg : (w2.alloc (.cells #[.int .u8 c] 5)).grownBy w3 v.ownBlock) : TAt B W0 w3 v' (l ++ [u]) := by
  have e : Lib.byteCells (l ++ [u]) = Lib.byteCells l ++ [.int .u8 c] := by simp [Lib.byteCells, ← hu]
  refine ⟨by rw [e, List.length_append]; exact hown, (h.old.alloc h.size _).grown hg (by have := h.size; simp; omega) (fun j hj => by have := (h.own.alloc (.cells #[Value.int .u8 c] 5)).lt j hj; omega), ?_⟩
  have := hg.size
  have := h.size
  simp at *
  omega
theorem TAt.made (W : World) : TAt W.heap.size W (W.alloc (.cells #[] 5)) (.slice (some ⟨W.heap.size, 0, none⟩) 0 0) [] :=
  ⟨⟨rfl, .inr ⟨W.heap.size, 0, #[], rfl, Nat.le_refl _, heap_alloc_new W _, Nat.le_refl _, by unfold maxLen; omega, rfl, rfl⟩⟩, below_alloc _ _, by simp⟩

set_option maxRecDepth 100000 in
set_option maxHeartbeats 4000000 in
theorem l02Text_any (s : Int) (a : Option Addr) (c : Nat) (X : List (List (List Int))) (W : World) (ha : CubeAt W a X) (hs : Small3 X) (ht : Told X) (hne : gT X X.length ≠ []) :
    Calls Try.prog 28 #[.agg #[.int .i64 s, .slice a X.length c]] W (RetB (.string ⟨(gT X X.length).toArray⟩) W) := by
  obtain ⟨i0, hi0, hz0, hz1, hz2⟩ := byteInfo
  obtain ⟨W0, hW0⟩ : ∃ W0, W0 = W.alloc (.cells #[.int .i64 s, .slice a X.length c] 29) := ⟨_, rfl⟩
  have hB0 : Hid (Below W.heap.size W W0) := by rw [hW0]; exact hide (below_alloc _ _)
  have hX0 : Hid (SprIn W0 W.heap.size s a X.length c) := by rw [hW0]; exact hide (sprIn_new _ _ _ _ _ _)
  have HA := hide (ha.keep hB0.out)
  obtain ⟨n, hn⟩ : ∃ n, n = X.length := ⟨_, rfl⟩
  obtain ⟨c0, c1⟩ := hX0.out
  rw [← hn] at c1 hW0 ⊢
  have C1 := hide c1
  obtain ⟨N, hN⟩ : ∃ N, N = W0.heap.size := ⟨_, rfl⟩
  have HNW := hide hN
  have hNe : W.heap.size + 1 = N := by rw [hN, hW0]; simp
  have hNl : Hid (W.heap.size ≤ N) := hide (by rw [hN]; exact Nat.le_of_lt hX0.out.lt)
  obtain ⟨W1, hW1⟩ : ∃ W1, W1 = W0.alloc (.cells #[] 5) := ⟨_, rfl⟩
  have hA1 : Hid (TAt N W0 W1 (.slice (some ⟨N, 0, none⟩) 0 0) []) := by rw [hW1, hN]; exact hide (TAt.made W0)
  have HN := hide hn
  have HS := hide hs
  have HT := hide ht
  have hn1 : n ≤ 1048576 := by rw [hn]; exact hs.1
  obtain ⟨r, hr⟩ : ∃ r, r = gT X n := ⟨_, rfl⟩
  have HR := hide hr
  have HNE : Hid (r ≠ []) := hide (by rw [hr, hn]; exact hne)
  rw [← hr]
  clear ha hs ht hn hr hne
  go_enter Try.func28, Try.ntmps28
  go_wp2_with fail
  rw [← hW0]
  clear hW0 hNe
  (try go_wp2_with fail)
  rw [← hN, ← hW1]
  clear hW1 hN c0 c1
  (try go_wp2_with fail)
  go_loopg [3, 4] n (fun g tx i wr => ∃ (j : Nat) (l : List UInt8), j + g = n ∧ i = .int .i64 j ∧ TAt N W0 wr tx l ∧ l = gT X j)
  case atStart => exact ⟨0, [], by omega, rfl, hA1.out, rfl⟩
  case round =>
    clear hA1
    obtain ⟨j, l1, hjg, rfl, hA, hl1⟩ := hrel
    have HB0 := hide hA
    have HL1 := hide hl1
    obtain ⟨av1, cv1, rfl⟩ := hA.form
    have c1 := cell_keep' HNW.out hA.old C1.out
    have hsz := hA.size
    clear hA hl1
    cases gk with
    | zero =>
      obtain rfl : j = n := by omega
      have hcv := bytes_text HB0.out.own (by rw [HL1.out, ← HR.out]; exact HNE.out)
      have hfin : Hid (l1 = r) := hide (by rw [HL1.out, HR.out])
      have hB8 : Hid (Below W.heap.size W wr) := hide (Below.trans' hB0.out (HB0.out.old.mono (by rw [← HNW.out]; exact Nat.le_refl _)))
      clear hsz
      go_wp2_with fail
      go_ret
      exact ⟨by rw [hfin.out]; rfl, hB8.out⟩
    | succ g =>
      have hjx : j < X.length := by rw [← HN.out]; omega
      have hjlt : (j : Int) < (n : Int) := by omega
      obtain ⟨b1, o1, a1, c1', xss, e1, hcell1, hz1', hg1⟩ := HA.out.one hjx
      subst e1
      obtain ⟨mm, hmm⟩ : ∃ mm, mm = xss.length := ⟨_, rfl⟩
      have HM := hide hmm
      have HJX := hide hg1.out
      have hmm1 : mm ≤ 1048576 := by rw [hmm]; exact (HS.out.2.2 xss (mem_of_get hg1.out)).1
      have HZ1 := hide hz1'
      have HGL : Hid ((gT X j).length ≤ 3145728) := hide (by
        have := pk_len HS.out HT.out hg1.out (q := 0) (by omega)
        omega)
      rw [← hmm] at hcell1
      have D1 := hide hcell1
      have d1 := cell_keep' HNW.out HB0.out.old hcell1
      clear hmm hcell1 hz1'
      by_cases hj0 : j = 0
      · obtain ⟨PK, hP⟩ : ∃ PK, PK = gT X j := ⟨_, rfl⟩
        have HPK : Hid (gT X (j + 1) = PK ++ rT xss xss.length) := hide (by rw [hP, gT_first hj0 HJX.out])
        have HPL : Hid (PK.length ≤ (gT X j).length + 1) := hide (by rw [hP]; omega)
        have hAP : Hid (TAt N W0 wr (.slice av1 l1.length cv1) l1) := HB0
        have HE : Hid (l1 = PK) := hide (by rw [hP]; exact HL1.out)
        have hgt : decide (0 < j) = false := decide_eq_false (by omega)
        clear hP HB0 hj0 hsz
        go_wp2_with fail
        clear d1 hgt c1
        obtain ⟨wo, hwo⟩ : ∃ wo : World, wo = wr := ⟨_, rfl⟩
        rw [← hwo] at hAP ⊢
        clear hwo
        go_loopg [3, 5] mm (fun g2 tx i2 wr => ∃ (q : Nat) (l : List UInt8), q + g2 = mm ∧ i2 = .int .i64 q ∧ TAt N W0 wr tx l ∧ l = PK ++ rT xss q)
        case atStart => exact ⟨0, l1, by omega, rfl, hAP.out, by rw [rT_zero, List.append_nil]; exact HE.out⟩
        case round =>
          clear hAP
          obtain ⟨q, l2, hqg, rfl, hB, hl2⟩ := hrel
          have HB := hide hB
          have HL2 := hide hl2
          obtain ⟨av2, cv2, rfl⟩ := hB.form
          have c1 := cell_keep' HNW.out hB.old C1.out
          have d1 := cell_keep' HNW.out hB.old D1.out
          have hsz := hB.size
          clear hB hl2
          cases gk with
          | zero =>
            obtain rfl : q = mm := by omega
            have hnext : Hid (l2 = gT X (j + 1)) := hide (by rw [HL2.out, HPK.out, HM.out])
            clear hsz
            go_wp2_with fail
            go_roundg g
            case rel => exact ⟨j + 1, l2, by omega, by go_num, HB.out, hnext.out⟩
            case measure => omega
          | succ g2 =>
            have hqx : q < xss.length := by rw [← HM.out]; omega
            have hqlt : (q : Int) < (mm : Int) := by omega
            obtain ⟨b2, o2, a2, c2, zs, e2, hcell2, hz2, hg2⟩ := HZ1.out.one hqx
            subst e2
            obtain ⟨lz, hlz⟩ : ∃ lz, lz = zs.length := ⟨_, rfl⟩
            have hzl : lz ≤ 1048576 := by rw [hlz]; exact (HS.out.2.2 xss (mem_of_get HJX.out)).2 zs (mem_of_get hg2.out)
            have HLZ := hide hlz
            have HZ2 := hide hz2
            have hzm : zs ∈ X.flatten := List.mem_flatten.2 ⟨xss, mem_of_get HJX.out, mem_of_get hg2.out⟩
            have HGZ := hide (HT.out zs hzm).2
            have HL9 : Hid ((PK ++ rT xss q).length + 1 + zs.length ≤ 3145730) := hide (by
              have h1 := pk_len HS.out HT.out HJX.out (q := q) (by omega)
              have h2 := drop_len hg2.out
              have h3 := HPL.out
              rw [List.length_append]
              omega)
            rw [← hlz] at hcell2
            have D2 := hide hcell2
            have d2 := cell_keep' HNW.out HB.out.old hcell2
            clear hlz hzm hcell2 hz2
            by_cases hq0 : q = 0
            · obtain ⟨QK, hQ⟩ : ∃ QK, QK = PK ++ rT xss q := ⟨_, rfl⟩
              have HQK : Hid (PK ++ rT xss (q + 1) = QK ++ bT zs) := hide (by rw [hQ, rT_first hq0 hg2.out, List.append_assoc])
              have HQL : Hid (QK.length + zs.length ≤ 3145730) := hide (by have := HL9.out; rw [hQ]; omega)
              have hAQ : Hid (TAt N W0 wr (.slice av2 l2.length cv2) l2) := HB
              have HE : Hid (l2 = QK) := hide (by rw [hQ]; exact HL2.out)
              have hgt : decide (0 < q) = false := decide_eq_false (by omega)
              clear hQ HL9 HB hq0 hsz
              go_wp2_with fail
              clear d2 hgt c1 d1
              obtain ⟨wi, hwi⟩ : ∃ wi : World, wi = wr := ⟨_, rfl⟩
              rw [← hwi] at hAQ ⊢
              clear hwi
              go_loopg [3, 6] lz (fun g3 tx i3 wr => ∃ (p : Nat) (l : List UInt8), p + g3 = lz ∧ i3 = .int .i64 p ∧ TAt N W0 wr tx l ∧ l = QK ++ bT (zs.take p))
              case atStart => exact ⟨0, l2, by omega, rfl, hAQ.out, by rw [List.take_zero, show bT [] = [] from rfl, List.append_nil]; exact HE.out⟩
              case round =>
                clear hAQ
                obtain ⟨p, l3, hpg, rfl, hC, hl3⟩ := hrel
                have HC := hide hC
                have HL3 := hide hl3
                obtain ⟨av3, cv3, rfl⟩ := hC.form
                have c1 := cell_keep' HNW.out hC.old C1.out
                have d1 := cell_keep' HNW.out hC.old D1.out
                have d2 := cell_keep' HNW.out hC.old D2.out
                have hsz := hC.size
                clear hC hl3
                cases gk with
                | zero =>
                  obtain rfl : p = lz := by omega
                  have hnext : Hid (l3 = PK ++ rT xss (q + 1)) := hide (by rw [HL3.out, HQK.out, HLZ.out, List.take_length])
                  clear hsz
                  go_wp2_with fail
                  go_roundg g2
                  case rel => exact ⟨q + 1, l3, by omega, by go_num, HC.out, hnext.out⟩
                  case measure => omega
                | succ g3 =>
                  have hpz : p < zs.length := by rw [← HLZ.out]; omega
                  have hplt : (p : Int) < (lz : Int) := by omega
                  obtain ⟨b3, o3, z, e3, hcell3, hg3⟩ := HZ2.out.one hpz
                  subst e3
                  obtain ⟨z0, z1⟩ := HGZ.out z (mem_of_get hg3.out)
                  have d3 := cell_keep' HNW.out HC.out.old hcell3
                  have hsnoc : Hid (l3 ++ [ltr z] = QK ++ bT (zs.take (p + 1))) := hide (by rw [HL3.out, bT_snoc hg3.out, List.append_assoc])
                  have hm9 : l3.length ≤ 8388608 := by
                    rw [HL3.out, List.length_append]
                    have h1 := HQL.out
                    have h2 := bT_len zs p
                    omega
                  have hln : Hid (((ltr z).toNat : Int) = (97 + z) % 256) := hide (by have := ltr_nat z0 z1; omega)
                  have hown := HC.out.own
                  have hwz : wrap64 (97 + z) = 97 + z := by unfold wrap64; omega
                  obtain ⟨m3, hm3⟩ : ∃ m, m = l3.length := ⟨_, rfl⟩
                  have HM3 := hide hm3
                  rw [← hm3] at hm9 hown ⊢
                  clear hcell3 hm3 z0 z1
                  go_wp2_with (at_builtin; refine wpList_append_own _ rfl _ _ 60 rfl N 5 i0 (.int .u8 0) 1 1 Try.underlying60 hi0 hz0 hz1 hz2 rfl (by decide) _ _ _ rfl (hown.alloc _) ⟨wr.heap.size, 0, none⟩ 1 1 [.int .u8 ((97 + z) % 256)] rfl rfl (cell_one_new _ _ _) (by simp [Value.oneCell']) (by unfold maxLen; omega) (by omega) (by simp; omega) ?_)
                  intro v' w7 hown' hgrow _
                  have hC7 := hide (HC.out.snoc (u := ltr z) hln.out (by rw [← HM3.out]; exact hown') (by rw [← HM3.out]; exact hgrow))
                  clear hown' hgrow hown d3 hwz
                  go_wp2_with fail
                  go_roundg g3
                  case rel => exact ⟨p + 1, _, by omega, by go_num, hC7.out, hsnoc.out⟩
                  case measure => omega
            · obtain ⟨QK, hQ⟩ : ∃ QK, QK = (PK ++ rT xss q) ++ [44] := ⟨_, rfl⟩
              have HQK : Hid (PK ++ rT xss (q + 1) = QK ++ bT zs) := hide (by rw [hQ, rT_next hq0 hg2.out]; simp [List.append_assoc])
              have HQL : Hid (QK.length + zs.length ≤ 3145730) := hide (by have := HL9.out; rw [hQ, List.length_append (bs := [44])]; simp only [List.length_singleton]; omega)
              have hgt : (0 : Int) < (q : Int) := by omega
              have hm9 : l2.length ≤ 8388608 := by have := HL9.out; rw [HL2.out]; omega
              have hown := HB.out.own
              have HE : Hid (l2 ++ [44] = QK) := hide (by rw [hQ, HL2.out])
              obtain ⟨m2, hm2⟩ : ∃ m, m = l2.length := ⟨_, rfl⟩
              have HM2 := hide hm2
              rw [← hm2] at hm9 hown ⊢
              clear hq0 hm2 hQ
              go_wp2_with (at_builtin; refine wpList_append_own _ rfl _ _ 60 rfl N 5 i0 (.int .u8 0) 1 1 Try.underlying60 hi0 hz0 hz1 hz2 rfl (by decide) _ _ _ rfl (hown.alloc _) ⟨wr.heap.size, 0, none⟩ 1 1 [.int .u8 44] rfl rfl (cell_one_new _ _ _) (by simp [Value.oneCell']) (by unfold maxLen; omega) (by omega) (by simp; omega) ?_)
              intro v' w4 hown' hgrow _
              have hAQ : Hid (TAt N W0 w4 v' (l2 ++ [44])) := hide (HB.out.snoc (u := 44) rfl (by rw [← HM2.out]; exact hown') (by rw [← HM2.out]; exact hgrow))
              clear hown' hgrow hown c1 d1 d2 hsz hgt HL9 HB
              go_wp2_with fail
              obtain ⟨wi, hwi⟩ : ∃ wi : World, wi = w4 := ⟨_, rfl⟩
              rw [← hwi] at hAQ ⊢
              clear hwi
              go_loopg [3, 6] lz (fun g3 tx i3 wr => ∃ (p : Nat) (l : List UInt8), p + g3 = lz ∧ i3 = .int .i64 p ∧ TAt N W0 wr tx l ∧ l = QK ++ bT (zs.take p))
              case atStart => exact ⟨0, l2 ++ [44], by omega, rfl, hAQ.out, by rw [List.take_zero, show bT [] = [] from rfl, List.append_nil]; exact HE.out⟩
              case round =>
                clear hAQ
                obtain ⟨p, l3, hpg, rfl, hC, hl3⟩ := hrel
                have HC := hide hC
                have HL3 := hide hl3
                obtain ⟨av3, cv3, rfl⟩ := hC.form
                have c1 := cell_keep' HNW.out hC.old C1.out
                have d1 := cell_keep' HNW.out hC.old D1.out
                have d2 := cell_keep' HNW.out hC.old D2.out
                have hsz := hC.size
                clear hC hl3
                cases gk with
                | zero =>
                  obtain rfl : p = lz := by omega
                  have hnext : Hid (l3 = PK ++ rT xss (q + 1)) := hide (by rw [HL3.out, HQK.out, HLZ.out, List.take_length])
                  clear hsz
                  go_wp2_with fail
                  go_roundg g2
                  case rel => exact ⟨q + 1, l3, by omega, by go_num, HC.out, hnext.out⟩
                  case measure => omega
                | succ g3 =>
                  have hpz : p < zs.length := by rw [← HLZ.out]; omega
                  have hplt : (p : Int) < (lz : Int) := by omega
                  obtain ⟨b3, o3, z, e3, hcell3, hg3⟩ := HZ2.out.one hpz
                  subst e3
                  obtain ⟨z0, z1⟩ := HGZ.out z (mem_of_get hg3.out)
                  have d3 := cell_keep' HNW.out HC.out.old hcell3
                  have hsnoc : Hid (l3 ++ [ltr z] = QK ++ bT (zs.take (p + 1))) := hide (by rw [HL3.out, bT_snoc hg3.out, List.append_assoc])
                  have hm9 : l3.length ≤ 8388608 := by
                    rw [HL3.out, List.length_append]
                    have h1 := HQL.out
                    have h2 := bT_len zs p
                    omega
                  have hln : Hid (((ltr z).toNat : Int) = (97 + z) % 256) := hide (by have := ltr_nat z0 z1; omega)
                  have hown := HC.out.own
                  have hwz : wrap64 (97 + z) = 97 + z := by unfold wrap64; omega
                  obtain ⟨m3, hm3⟩ : ∃ m, m = l3.length := ⟨_, rfl⟩
                  have HM3 := hide hm3
                  rw [← hm3] at hm9 hown ⊢
                  clear hcell3 hm3 z0 z1
                  go_wp2_with (at_builtin; refine wpList_append_own _ rfl _ _ 60 rfl N 5 i0 (.int .u8 0) 1 1 Try.underlying60 hi0 hz0 hz1 hz2 rfl (by decide) _ _ _ rfl (hown.alloc _) ⟨wr.heap.size, 0, none⟩ 1 1 [.int .u8 ((97 + z) % 256)] rfl rfl (cell_one_new _ _ _) (by simp [Value.oneCell']) (by unfold maxLen; omega) (by omega) (by simp; omega) ?_)
                  intro v' w7 hown' hgrow _
                  have hC7 := hide (HC.out.snoc (u := ltr z) hln.out (by rw [← HM3.out]; exact hown') (by rw [← HM3.out]; exact hgrow))
                  clear hown' hgrow hown d3 hwz
                  go_wp2_with fail
                  go_roundg g3
                  case rel => exact ⟨p + 1, _, by omega, by go_num, hC7.out, hsnoc.out⟩
                  case measure => omega
      · obtain ⟨PK, hP⟩ : ∃ PK, PK = gT X j ++ [47] := ⟨_, rfl⟩
        have HPK : Hid (gT X (j + 1) = PK ++ rT xss xss.length) := hide (by rw [hP, gT_next hj0 HJX.out])
        have HPL : Hid (PK.length ≤ (gT X j).length + 1) := hide (by rw [hP]; simp)
        have hgt : (0 : Int) < (j : Int) := by omega
        have hm9 : l1.length ≤ 8388608 := by have := HGL.out; rw [HL1.out]; omega
        have hown := HB0.out.own
        have HE : Hid (l1 ++ [47] = PK) := hide (by rw [hP, HL1.out])
        obtain ⟨m1, hm1⟩ : ∃ m, m = l1.length := ⟨_, rfl⟩
        have HM1 := hide hm1
        rw [← hm1] at hm9 hown ⊢
        clear hj0 hm1 hP
        go_wp2_with (at_builtin; refine wpList_append_own _ rfl _ _ 60 rfl N 5 i0 (.int .u8 0) 1 1 Try.underlying60 hi0 hz0 hz1 hz2 rfl (by decide) _ _ _ rfl (hown.alloc _) ⟨wr.heap.size, 0, none⟩ 1 1 [.int .u8 47] rfl rfl (cell_one_new _ _ _) (by simp [Value.oneCell']) (by unfold maxLen; omega) (by omega) (by simp; omega) ?_)
        intro v' w3 hown' hgrow _
        have hAP : Hid (TAt N W0 w3 v' (l1 ++ [47])) := hide (HB0.out.snoc (u := 47) rfl (by rw [← HM1.out]; exact hown') (by rw [← HM1.out]; exact hgrow))
        clear hown' hgrow hown c1 d1 hsz hgt HB0
        go_wp2_with fail
        obtain ⟨wo, hwo⟩ : ∃ wo : World, wo = w3 := ⟨_, rfl⟩
        rw [← hwo] at hAP ⊢
        clear hwo
        go_loopg [3, 5] mm (fun g2 tx i2 wr => ∃ (q : Nat) (l : List UInt8), q + g2 = mm ∧ i2 = .int .i64 q ∧ TAt N W0 wr tx l ∧ l = PK ++ rT xss q)
        case atStart => exact ⟨0, l1 ++ [47], by omega, rfl, hAP.out, by rw [rT_zero, List.append_nil]; exact HE.out⟩
        case round =>
          clear hAP
          obtain ⟨q, l2, hqg, rfl, hB, hl2⟩ := hrel
          have HB := hide hB
          have HL2 := hide hl2
          obtain ⟨av2, cv2, rfl⟩ := hB.form
          have c1 := cell_keep' HNW.out hB.old C1.out
          have d1 := cell_keep' HNW.out hB.old D1.out
          have hsz := hB.size
          clear hB hl2
          cases gk with
          | zero =>
            obtain rfl : q = mm := by omega
            have hnext : Hid (l2 = gT X (j + 1)) := hide (by rw [HL2.out, HPK.out, HM.out])
            clear hsz
            go_wp2_with fail
            go_roundg g
            case rel => exact ⟨j + 1, l2, by omega, by go_num, HB.out, hnext.out⟩
            case measure => omega
          | succ g2 =>
            have hqx : q < xss.length := by rw [← HM.out]; omega
            have hqlt : (q : Int) < (mm : Int) := by omega
            obtain ⟨b2, o2, a2, c2, zs, e2, hcell2, hz2, hg2⟩ := HZ1.out.one hqx
            subst e2
            obtain ⟨lz, hlz⟩ : ∃ lz, lz = zs.length := ⟨_, rfl⟩
            have hzl : lz ≤ 1048576 := by rw [hlz]; exact (HS.out.2.2 xss (mem_of_get HJX.out)).2 zs (mem_of_get hg2.out)
            have HLZ := hide hlz
            have HZ2 := hide hz2
            have hzm : zs ∈ X.flatten := List.mem_flatten.2 ⟨xss, mem_of_get HJX.out, mem_of_get hg2.out⟩
            have HGZ := hide (HT.out zs hzm).2
            have HL9 : Hid ((PK ++ rT xss q).length + 1 + zs.length ≤ 3145730) := hide (by
              have h1 := pk_len HS.out HT.out HJX.out (q := q) (by omega)
              have h2 := drop_len hg2.out
              have h3 := HPL.out
              rw [List.length_append]
              omega)
            rw [← hlz] at hcell2
            have D2 := hide hcell2
            have d2 := cell_keep' HNW.out HB.out.old hcell2
            clear hlz hzm hcell2 hz2
            by_cases hq0 : q = 0
            · obtain ⟨QK, hQ⟩ : ∃ QK, QK = PK ++ rT xss q := ⟨_, rfl⟩
              have HQK : Hid (PK ++ rT xss (q + 1) = QK ++ bT zs) := hide (by rw [hQ, rT_first hq0 hg2.out, List.append_assoc])
              have HQL : Hid (QK.length + zs.length ≤ 3145730) := hide (by have := HL9.out; rw [hQ]; omega)
              have hAQ : Hid (TAt N W0 wr (.slice av2 l2.length cv2) l2) := HB
              have HE : Hid (l2 = QK) := hide (by rw [hQ]; exact HL2.out)
              have hgt : decide (0 < q) = false := decide_eq_false (by omega)
              clear hQ HL9 HB hq0 hsz
              go_wp2_with fail
              clear d2 hgt c1 d1
              obtain ⟨wi, hwi⟩ : ∃ wi : World, wi = wr := ⟨_, rfl⟩
              rw [← hwi] at hAQ ⊢
              clear hwi
              go_loopg [3, 6] lz (fun g3 tx i3 wr => ∃ (p : Nat) (l : List UInt8), p + g3 = lz ∧ i3 = .int .i64 p ∧ TAt N W0 wr tx l ∧ l = QK ++ bT (zs.take p))
              case atStart => exact ⟨0, l2, by omega, rfl, hAQ.out, by rw [List.take_zero, show bT [] = [] from rfl, List.append_nil]; exact HE.out⟩
              case round =>
                clear hAQ
                obtain ⟨p, l3, hpg, rfl, hC, hl3⟩ := hrel
                have HC := hide hC
                have HL3 := hide hl3
                obtain ⟨av3, cv3, rfl⟩ := hC.form
                have c1 := cell_keep' HNW.out hC.old C1.out
                have d1 := cell_keep' HNW.out hC.old D1.out
                have d2 := cell_keep' HNW.out hC.old D2.out
                have hsz := hC.size
                clear hC hl3
                cases gk with
                | zero =>
                  obtain rfl : p = lz := by omega
                  have hnext : Hid (l3 = PK ++ rT xss (q + 1)) := hide (by rw [HL3.out, HQK.out, HLZ.out, List.take_length])
                  clear hsz
                  go_wp2_with fail
                  go_roundg g2
                  case rel => exact ⟨q + 1, l3, by omega, by go_num, HC.out, hnext.out⟩
                  case measure => omega
                | succ g3 =>
                  have hpz : p < zs.length := by rw [← HLZ.out]; omega
                  have hplt : (p : Int) < (lz : Int) := by omega
                  obtain ⟨b3, o3, z, e3, hcell3, hg3⟩ := HZ2.out.one hpz
                  subst e3
                  obtain ⟨z0, z1⟩ := HGZ.out z (mem_of_get hg3.out)
                  have d3 := cell_keep' HNW.out HC.out.old hcell3
                  have hsnoc : Hid (l3 ++ [ltr z] = QK ++ bT (zs.take (p + 1))) := hide (by rw [HL3.out, bT_snoc hg3.out, List.append_assoc])
                  have hm9 : l3.length ≤ 8388608 := by
                    rw [HL3.out, List.length_append]
                    have h1 := HQL.out
                    have h2 := bT_len zs p
                    omega
                  have hln : Hid (((ltr z).toNat : Int) = (97 + z) % 256) := hide (by have := ltr_nat z0 z1; omega)
                  have hown := HC.out.own
                  have hwz : wrap64 (97 + z) = 97 + z := by unfold wrap64; omega
                  obtain ⟨m3, hm3⟩ : ∃ m, m = l3.length := ⟨_, rfl⟩
                  have HM3 := hide hm3
                  rw [← hm3] at hm9 hown ⊢
                  clear hcell3 hm3 z0 z1
                  go_wp2_with (at_builtin; refine wpList_append_own _ rfl _ _ 60 rfl N 5 i0 (.int .u8 0) 1 1 Try.underlying60 hi0 hz0 hz1 hz2 rfl (by decide) _ _ _ rfl (hown.alloc _) ⟨wr.heap.size, 0, none⟩ 1 1 [.int .u8 ((97 + z) % 256)] rfl rfl (cell_one_new _ _ _) (by simp [Value.oneCell']) (by unfold maxLen; omega) (by omega) (by simp; omega) ?_)
                  intro v' w7 hown' hgrow _
                  have hC7 := hide (HC.out.snoc (u := ltr z) hln.out (by rw [← HM3.out]; exact hown') (by rw [← HM3.out]; exact hgrow))
                  clear hown' hgrow hown d3 hwz
                  go_wp2_with fail
                  go_roundg g3
                  case rel => exact ⟨p + 1, _, by omega, by go_num, hC7.out, hsnoc.out⟩
                  case measure => omega
            · obtain ⟨QK, hQ⟩ : ∃ QK, QK = (PK ++ rT xss q) ++ [44] := ⟨_, rfl⟩
              have HQK : Hid (PK ++ rT xss (q + 1) = QK ++ bT zs) := hide (by rw [hQ, rT_next hq0 hg2.out]; simp [List.append_assoc])
              have HQL : Hid (QK.length + zs.length ≤ 3145730) := hide (by have := HL9.out; rw [hQ, List.length_append (bs := [44])]; simp only [List.length_singleton]; omega)
              have hgt : (0 : Int) < (q : Int) := by omega
              have hm9 : l2.length ≤ 8388608 := by have := HL9.out; rw [HL2.out]; omega
              have hown := HB.out.own
              have HE : Hid (l2 ++ [44] = QK) := hide (by rw [hQ, HL2.out])
              obtain ⟨m2, hm2⟩ : ∃ m, m = l2.length := ⟨_, rfl⟩
              have HM2 := hide hm2
              rw [← hm2] at hm9 hown ⊢
              clear hq0 hm2 hQ
              go_wp2_with (at_builtin; refine wpList_append_own _ rfl _ _ 60 rfl N 5 i0 (.int .u8 0) 1 1 Try.underlying60 hi0 hz0 hz1 hz2 rfl (by decide) _ _ _ rfl (hown.alloc _) ⟨wr.heap.size, 0, none⟩ 1 1 [.int .u8 44] rfl rfl (cell_one_new _ _ _) (by simp [Value.oneCell']) (by unfold maxLen; omega) (by omega) (by simp; omega) ?_)
              intro v' w4 hown' hgrow _
              have hAQ : Hid (TAt N W0 w4 v' (l2 ++ [44])) := hide (HB.out.snoc (u := 44) rfl (by rw [← HM2.out]; exact hown') (by rw [← HM2.out]; exact hgrow))
              clear hown' hgrow hown c1 d1 d2 hsz hgt HL9 HB
              go_wp2_with fail
              obtain ⟨wi, hwi⟩ : ∃ wi : World, wi = w4 := ⟨_, rfl⟩
              rw [← hwi] at hAQ ⊢
              clear hwi
              go_loopg [3, 6] lz (fun g3 tx i3 wr => ∃ (p : Nat) (l : List UInt8), p + g3 = lz ∧ i3 = .int .i64 p ∧ TAt N W0 wr tx l ∧ l = QK ++ bT (zs.take p))
              case atStart => exact ⟨0, l2 ++ [44], by omega, rfl, hAQ.out, by rw [List.take_zero, show bT [] = [] from rfl, List.append_nil]; exact HE.out⟩
              case round =>
                clear hAQ
                obtain ⟨p, l3, hpg, rfl, hC, hl3⟩ := hrel
                have HC := hide hC
                have HL3 := hide hl3
                obtain ⟨av3, cv3, rfl⟩ := hC.form
                have c1 := cell_keep' HNW.out hC.old C1.out
                have d1 := cell_keep' HNW.out hC.old D1.out
                have d2 := cell_keep' HNW.out hC.old D2.out
                have hsz := hC.size
                clear hC hl3
                cases gk with
                | zero =>
                  obtain rfl : p = lz := by omega
                  have hnext : Hid (l3 = PK ++ rT xss (q + 1)) := hide (by rw [HL3.out, HQK.out, HLZ.out, List.take_length])
                  clear hsz
                  go_wp2_with fail
                  go_roundg g2
                  case rel => exact ⟨q + 1, l3, by omega, by go_num, HC.out, hnext.out⟩
                  case measure => omega
                | succ g3 =>
                  have hpz : p < zs.length := by rw [← HLZ.out]; omega
                  have hplt : (p : Int) < (lz : Int) := by omega
                  obtain ⟨b3, o3, z, e3, hcell3, hg3⟩ := HZ2.out.one hpz
                  subst e3
                  obtain ⟨z0, z1⟩ := HGZ.out z (mem_of_get hg3.out)
                  have d3 := cell_keep' HNW.out HC.out.old hcell3
                  have hsnoc : Hid (l3 ++ [ltr z] = QK ++ bT (zs.take (p + 1))) := hide (by rw [HL3.out, bT_snoc hg3.out, List.append_assoc])
                  have hm9 : l3.length ≤ 8388608 := by
                    rw [HL3.out, List.length_append]
                    have h1 := HQL.out
                    have h2 := bT_len zs p
                    omega
                  have hln : Hid (((ltr z).toNat : Int) = (97 + z) % 256) := hide (by have := ltr_nat z0 z1; omega)
                  have hown := HC.out.own
                  have hwz : wrap64 (97 + z) = 97 + z := by unfold wrap64; omega
                  obtain ⟨m3, hm3⟩ : ∃ m, m = l3.length := ⟨_, rfl⟩
                  have HM3 := hide hm3
                  rw [← hm3] at hm9 hown ⊢
                  clear hcell3 hm3 z0 z1
                  go_wp2_with (at_builtin; refine wpList_append_own _ rfl _ _ 60 rfl N 5 i0 (.int .u8 0) 1 1 Try.underlying60 hi0 hz0 hz1 hz2 rfl (by decide) _ _ _ rfl (hown.alloc _) ⟨wr.heap.size, 0, none⟩ 1 1 [.int .u8 ((97 + z) % 256)] rfl rfl (cell_one_new _ _ _) (by simp [Value.oneCell']) (by unfold maxLen; omega) (by omega) (by simp; omega) ?_)
                  intro v' w7 hown' hgrow _
                  have hC7 := hide (HC.out.snoc (u := ltr z) hln.out (by rw [← HM3.out]; exact hown') (by rw [← HM3.out]; exact hgrow))
                  clear hown' hgrow hown d3 hwz
                  go_wp2_with fail
                  go_roundg g3
                  case rel => exact ⟨p + 1, _, by omega, by go_num, hC7.out, hsnoc.out⟩
                  case measure => omega

theorem rT_ne {xss : List (List Int)} {k : Nat} {zs : List Int} (h : xss[k]? = some zs) (hz : 1 ≤ zs.length) : rT xss (k + 1) ≠ [] := by
  intro e
  have e2 := congrArg List.length e
  rw [rT, getD_of h, List.length_append, List.length_append] at e2
  unfold bT at e2
  rw [List.length_map] at e2
  simp only [List.length_nil] at e2
  omega
theorem gT_some {X : List (List (List Int))} (hg : ∀ zs ∈ X.flatten, 1 ≤ zs.length) : ∀ k, k ≤ X.length → (X.take k).flatten ≠ [] → gT X k ≠ []
  | 0, _, h => by simp at h
  | k + 1, hk, h => by
    have hx : X[k]? = some X[k] := List.getElem?_eq_getElem (by omega)
    by_cases e : X[k] = []
    · have h2 : (X.take k).flatten ≠ [] := by
        rw [List.take_add_one, hx, e] at h
        simpa using h
      have ih := gT_some hg k (by omega) h2
      intro e2
      rw [gT] at e2
      exact ih (List.append_eq_nil_iff.1 e2).1
    · have hl : 0 < X[k].length := List.length_pos_iff.2 e
      obtain ⟨m, hm⟩ : ∃ m, X[k].length = m + 1 := ⟨X[k].length - 1, by omega⟩
      have hz : X[k][m]? = some (X[k][m]'(by omega)) := List.getElem?_eq_getElem (by omega)
      have h3 := rT_ne hz (hg _ (List.mem_flatten.2 ⟨_, List.getElem_mem (by omega), List.getElem_mem (by omega)⟩))
      intro e2
      rw [gT, getD_of hx, hm] at e2
      exact h3 (List.append_eq_nil_iff.1 (List.append_eq_nil_iff.1 e2).2).2
theorem gT_ne {S : Int} {X : List (List (List Int))} {st : Cts} (h : sprC S X = some st) : gT X X.length ≠ [] := by
  have ht := told_of h
  have h1 := sprC_le h
  obtain ⟨s, rfl⟩ : ∃ s : Nat, S = s := ⟨S.toNat, by omega⟩
  obtain ⟨h2, _, _, hb, ho⟩ := sprC_some h
  refine gT_some (fun zs hz => (ht zs hz).1) X.length (Nat.le_refl _) (fun e => ?_)
  rw [List.take_length] at e
  rw [e] at hb
  simp only [bndC, Option.some.injEq] at hb
  subst hb
  have := okFrom_all ho (i := 0) (by omega)
  simp [badC, Cts.zero, show 0 < s by omega] at this
set_option maxRecDepth 100000 in
set_option maxHeartbeats 1000000 in
theorem specSprText_any (s : Int) (a : Option Addr) (c : Nat) (X : List (List (List Int))) (W : World) (ha : CubeAt W a X) (hs : Small3 X) :
    Calls Try.prog 17 #[.agg #[.int .i64 s, .slice a X.length c]] W (RetB (.tuple #[.string ⟨(sprT s X).1.toArray⟩, .int .i64 (sprT s X).2]) W) := by
  obtain ⟨W0, hW0⟩ : ∃ W0, W0 = W.alloc (.cells #[.int .i64 s, .slice a X.length c] 29) := ⟨_, rfl⟩
  have hB0 : Hid (Below W.heap.size W W0) := by rw [hW0]; exact hide (below_alloc _ _)
  have hX0 : Hid (SprIn W0 W.heap.size s a X.length c) := by rw [hW0]; exact hide (sprIn_new _ _ _ _ _ _)
  have hA0 := hide (ha.keep hB0.out)
  obtain ⟨c0, c1⟩ := hX0.out
  have HIS := hide (l02Is_any s a c X W0 hA0.out hs)
  cases hb : isSprB s X
  · have HR : Hid (sprT s X = ([], 1)) := hide (by unfold sprT; rw [hb]; rfl)
    rw [HR.out]
    rw [hb] at HIS
    clear hb ha hs
    go_enter Try.func17, Try.ntmps17
    go_wp2_with fail
    rw [← hW0]
    clear hW0
    (try go_wp2_with fail)
    refine HIS.out.mono ?_
    rintro e w1 ⟨rfl, hb1⟩
    have hB1 := hide (Below.trans' hB0.out hb1)
    clear hb1 c0 c1
    go_wp2_with fail
    go_ret2
    exact ⟨rfl, hB1.out⟩
  · obtain ⟨st, hst⟩ : ∃ st, sprC s X = some st := by
      unfold isSprB at hb
      cases h : sprC s X with
      | none => rw [h] at hb; cases hb
      | some st => exact ⟨st, rfl⟩
    obtain ⟨r, hr⟩ : ∃ r, r = gT X X.length := ⟨_, rfl⟩
    have HR : Hid (sprT s X = (r, 0)) := hide (by unfold sprT; rw [hb, hr]; rfl)
    have HRT : Hid (∀ V : World, CubeAt V a X → Calls Try.prog 28 #[.agg #[.int .i64 s, .slice a X.length c]] V (RetB (.string ⟨r.toArray⟩) V)) := hide (fun V h => by rw [hr]; exact l02Text_any s a c X V h hs (told_of hst) (gT_ne hst))
    rw [HR.out]
    rw [hb] at HIS
    clear hb ha hs hst hr
    go_enter Try.func17, Try.ntmps17
    go_wp2_with fail
    rw [← hW0]
    clear hW0
    (try go_wp2_with fail)
    refine HIS.out.mono ?_
    rintro e w1 ⟨rfl, hb1⟩
    have hB1 := hide (Below.trans' hB0.out hb1)
    have hA1 := hide (hA0.out.keep hb1)
    have hX1 := hide (hX0.out.keep hb1)
    clear hb1 c0 c1
    obtain ⟨c0, c1⟩ := hX1.out
    go_wp2_with fail
    refine (HRT.out _ hA1.out).mono ?_
    rintro e w2 ⟨rfl, hb2⟩
    have hB2 := hide (Below.trans' hB1.out hb2)
    clear hb2 c0 c1
    go_wp2_with fail
    go_ret2
    exact ⟨rfl, hB2.out⟩
end Go.Proofs.Ytlllkmobhjlmoab
