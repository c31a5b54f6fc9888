/-
  Ends of dots and boxes: BestParts, the model's text.
-/
import Derived.Test.YtbfpbkbhikogiabBs1
namespace Go.Proofs.Ytbfpbkbhikogiab
open Go.RowKit
set_option linter.unusedVariables false

set_option maxRecDepth 100000 in
set_option maxHeartbeats 20000000 in
theorem specParts_any (n k : Int) (W : World) : Calls Try.prog 4 #[.int .i64 n, .int .i64 k] W (NewList (bpR n k) W) := by
  obtain ⟨r, hr⟩ : ∃ r, r = bpR n k := ⟨_, rfl⟩
  rw [← hr]
  cases h1 : inn n 1 20
  · have HF : Hid (r = ([], 2)) := hide (by simp [inn] at h1; rw [hr, bp_no (by omega)])
    have H1 := hide h1
    clear h1 hr
    rw [HF.out]
    go_enter Try.func4, Try.ntmps4
    go_wp2_with fail
    refine (inn_is _ _ _ H1.out _).mono ?_
    rintro e w1 ⟨rfl, hb1⟩
    go_wp2_with fail
    go_ret2
    exact newList_no _ _ hb1
  · have H1 := hide h1
    have k1 : 1 ≤ n ∧ n ≤ 20 := by simpa [inn] using h1
    clear h1
    cases h2 : inn k 1 6
    · have HF : Hid (r = ([], 2)) := hide (by simp [inn] at h2; rw [hr, bp_no (by omega)])
      have H2 := hide h2
      clear h2 hr
      rw [HF.out]
      go_enter Try.func4, Try.ntmps4
      go_wp2_with fail
      refine (inn_is _ _ _ H1.out _).mono ?_
      rintro e w1 ⟨rfl, hb1⟩
      go_wp2_with fail
      refine (inn_is _ _ _ H2.out _).mono ?_
      rintro e w2 ⟨rfl, hb2⟩
      go_wp2_with fail
      go_ret2
      exact newList_no _ _ (Below.trans' hb1 hb2)
    · have H2 := hide h2
      have k2 : 1 ≤ k ∧ k ≤ 6 := by simpa [inn] using h2
      clear h2
      by_cases h3 : n < k
      · have HF : Hid (r = ([], 2)) := hide (by rw [hr, bp_no (by omega)])
        clear hr
        rw [HF.out]
        go_enter Try.func4, Try.ntmps4
        go_wp2_with fail
        refine (inn_is _ _ _ H1.out _).mono ?_
        rintro e w1 ⟨rfl, hb1⟩
        go_wp2_with fail
        refine (inn_is _ _ _ H2.out _).mono ?_
        rintro e w2 ⟨rfl, hb2⟩
        go_wp2_with fail
        go_ret2
        exact newList_no _ _ (Below.trans' hb1 hb2)
      · obtain ⟨N, rfl⟩ : ∃ N : Nat, n = N := ⟨n.toNat, by omega⟩
        obtain ⟨K, rfl⟩ : ∃ K : Nat, k = K := ⟨k.toNat, by omega⟩
        obtain ⟨hsame, hne, hall⟩ := parts_ok (n := N) (k := K) (by omega) (by omega) (by omega) (by omega)
        rw [bp_yes (by omega), ← hsame] at hr
        rw [← hsame] at hne hall
        have hle : (sp K 1 N []).length ≤ 85766121 := Nat.le_trans (sp_le K 1 N [] (by omega)) (pow_bd (by omega))
        have hls : Hid (∀ (g c : Nat) (V : World), W.heap.size ≤ V.heap.size → V.ownsRow W.heap.size 2 1 (.slice (some ⟨g, 0, none⟩) 0 c) 0 [] → Calls Try.prog 10 #[.slice (some ⟨g, 0, none⟩) 0 c, .int .i64 K, .int .i64 1, .int .i64 N] V (NewO W.heap.size (sp K 1 N []) V)) := hide (fun g c V hV ho => lists_any K 1 N g c [] W.heap.size K V rfl (by omega) (by omega) (by omega) (by omega) (by simp; omega) hV (by simpa using ho))
        obtain ⟨ps, hps⟩ : ∃ ps, ps = sp K 1 N [] := ⟨_, rfl⟩
        rw [← hps] at hr hne hall hle hls
        obtain ⟨len, hlen⟩ : ∃ len, len = ps.length := ⟨_, rfl⟩
        rw [← hlen] at hle
        have HR := hide hr
        have HLEN := hide hlen
        have HALL := hide hall
        have hpos : 0 < len := by rw [hlen]; exact List.length_pos_iff.2 hne
        clear hsame hr hps hne hall hlen
        go_enter Try.func4, Try.ntmps4
        go_wp2_with fail
        refine (inn_is _ _ _ H1.out _).mono ?_
        rintro e w1 ⟨rfl, hb1⟩
        go_wp2_with fail
        refine (inn_is _ _ _ H2.out _).mono ?_
        rintro e w2 ⟨rfl, hb2⟩
        have hB2 := hide (Below.trans' hb1 hb2)
        clear hb1 hb2
        go_wp2_with fail
        have ha := below_alloc w2 (.cells #[] 2)
        have hBa := hide (Below.trans' hB2.out ha)
        refine (hls.out _ _ _ hBa.out.size ⟨rfl, .inr ⟨w2.heap.size, 0, #[], rfl, hB2.out.size, heap_alloc_new w2 _, Nat.le_refl _, by decide, rfl, rfl⟩⟩).mono ?_
        rintro e w3 ⟨g, c, vs, rfl, hL, hb3⟩
        have hB3 := hide (Below.trans' hBa.out hb3)
        have HL := hide hL
        rw [← HLEN.out]
        clear ha hb3 hL H1 H2 hls
        clear k1 k2 h3
        go_wp2_with fail
        go_loopg [7, 8, 9] len (fun gm s7 s8 s9 wr => ∃ j : Nat, j + gm = len ∧ s9 = .int .i64 j ∧ s7 = .int .i64 (beV (vI ps) (mxI (vI ps) j)) ∧ s8 = .int .i64 (atV (mxI (vI ps) j)) ∧ Below w3.heap.size w3 wr)
        case atStart => exact ⟨0, by omega, rfl, rfl, rfl, Below.refl _ _⟩
        case round =>
          obtain ⟨j, hj, rfl, rfl, rfl, hBr⟩ := hrel
          have HLr := hide (HL.out.keep hBr)
          cases gk with
          | zero =>
            obtain rfl : j = len := by omega
            obtain ⟨m, hm⟩ := mxI_some (vI ps) j hpos
            have hml := mxI_lt _ _ _ hm
            obtain ⟨a, cz, zs, hv, hz, ho⟩ := HLr.out.row (i := m) (by rw [← HLEN.out]; exact hml)
            obtain ⟨g', e1, _, hcell⟩ := HLr.out.slot hv
            simp only [Option.some.injEq, Addr.mk.injEq, and_true] at e1
            subst e1
            have hfin : Hid (NewList r W (.returned (.tuple #[.slice a zs.length cz, .int .i64 0])) wr) := hide (by
              have e2 : r = (zs, 0) := by
                rw [HR.out, bestP_is (by rw [← HLEN.out]; exact hm) hz]
              rw [e2]
              exact ⟨a, cz, rfl, ho, Below.trans' hB3.out hBr⟩)
            rw [hm]
            simp only [atV, beV]
            obtain ⟨bv, hbv⟩ : ∃ bv, bv = vI ps m := ⟨_, rfl⟩
            rw [← hbv]
            clear hm hv hz ho hBr hbv
            go_wp2_with fail
            refine bodyPost_ret (v := .tuple #[.slice a zs.length cz, .int .i64 0]) (by simp [results, Try.results4, go_sem]) rfl hfin.out
          | succ g2 =>
            have hjl : j < len := by omega
            obtain ⟨a, cz, zs, hv, hz, ho⟩ := HLr.out.row (i := j) (by rw [← HLEN.out]; exact hjl)
            obtain ⟨g', e1, _, hcell⟩ := HLr.out.slot hv
            simp only [Option.some.injEq, Addr.mk.injEq, and_true] at e1
            subst e1
            have hval : Hid (Calls Try.prog 11 #[.agg #[.slice a zs.length cz, .slice none 0 0]] wr (RetB (.int .i64 (vC zs)) wr)) := hide (chains_any a cz zs wr (intsAt_of_ownsRow ho) (HALL.out zs (List.mem_of_getElem? hz)))
            have hstep : mxI (vI ps) (j + 1) = match mxI (vI ps) j with | none => some j | some m => if vI ps m < vI ps j then some j else some m := rfl
            have hvj := vI_is hz
            rw [hvj] at hstep
            obtain ⟨v, hvv⟩ : ∃ v, v = vC zs := ⟨_, rfl⟩
            rw [← hvv] at hval hstep hvj
            have HBR := hide hBr
            have HVJ := hide hvj
            clear hv hz ho hBr hvv hvj HLr
            cases hm : mxI (vI ps) j with
            | none =>
              rw [hm] at hstep
              simp only at hstep
              have HS := hide hstep
              simp only [atV, beV]
              clear hstep hm
              go_wp2_with fail
              refine hval.out.mono ?_
              rintro e w5 ⟨rfl, hb5⟩
              have hB5 := hide (Below.trans' HBR.out hb5)
              clear hb5 hcell
              go_wp2_with fail
              go_roundg g2
              case rel => exact ⟨j + 1, by omega, by go_num, by rw [HS.out]; simp only [beV]; rw [HVJ.out], by rw [HS.out]; rfl, hB5.out⟩
              case measure => omega
            | some m =>
              rw [hm] at hstep
              simp only at hstep
              obtain ⟨bv, hbv⟩ : ∃ bv, bv = vI ps m := ⟨_, rfl⟩
              rw [← hbv] at hstep
              have HBV := hide hbv
              simp only [atV, beV]
              rw [← hbv]
              clear hm hbv
              by_cases hlt : bv < v
              · rw [if_pos hlt] at hstep
                have HS := hide hstep
                clear hstep
                go_wp2_with fail
                refine hval.out.mono ?_
                rintro e w5 ⟨rfl, hb5⟩
                have hB5 := hide (Below.trans' HBR.out hb5)
                clear hb5 hcell
                go_wp2_with fail
                go_roundg g2
                case rel => exact ⟨j + 1, by omega, by go_num, by rw [HS.out]; simp only [beV]; rw [HVJ.out], by rw [HS.out]; rfl, hB5.out⟩
                case measure => omega
              · rw [if_neg hlt] at hstep
                have HS := hide hstep
                clear hstep
                go_wp2_with fail
                refine hval.out.mono ?_
                rintro e w5 ⟨rfl, hb5⟩
                have hB5 := hide (Below.trans' HBR.out hb5)
                clear hb5 hcell hval
                clear HALL HR HVJ hpos
                go_wp2_with fail
                go_roundg g2
                case rel => exact ⟨j + 1, by omega, by go_num, by rw [HS.out]; simp only [beV]; rw [← HBV.out], by rw [HS.out]; rfl, hB5.out⟩
                case measure => omega
end Go.Proofs.Ytbfpbkbhikogiab
