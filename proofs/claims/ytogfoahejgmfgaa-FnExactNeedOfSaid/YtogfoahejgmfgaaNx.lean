/-
  Boards of hexagons: the need, the model's text.
-/
import Derived.Test.YtogfoahejgmfgaaNw
import Derived.Deep.LoopGhost
namespace Go.Proofs.Ytogfoahejgmfgaa
open Go.RowKit
set_option linter.unusedVariables false

set_option maxRecDepth 100000 in
set_option maxHeartbeats 8000000 in
theorem specNeed1_any (N L b off c : Nat) (cs : List Int) (hLL : cs.length = L) (hok : okH N cs = true) (hN1 : 1 ≤ N) (hN8 : N ≤ 8) (hlen : cs.length = N * N) (W : World) (ha : IntsAt W (some ⟨b, off, none⟩) cs) :
    Calls Try.prog 11 #[.agg #[.int .i64 N, .slice (some ⟨b, off, none⟩) L c], .int .i64 1] W (RetB (.tuple #[.int .i64 (ndO (needO N cs 1)).1, .int .i64 (ndO (needO N cs 1)).2]) W) := by
  obtain ⟨i0, hi0, hz0, hz1, hz2⟩ := info_parts Try.info2
  have hsq := sqN8 hN8
  have hl : cs.length ≤ 1048576 := by omega
  have hz := (okH_yes hok).2.2.2
  have hmul : (N : Int) * (N : Int) = (L : Int) := by rw [← hLL, hlen]; push_cast; rfl
  have hL64 : L ≤ 64 := by omega
  have hL1 : 1 ≤ L := by rw [← hLL, hlen]; exact Nat.mul_le_mul hN1 hN1
  have HZ : Hid (∀ c : Int, 0 ≤ c → c < (N : Int) * N → 0 ≤ hexAt cs c ∧ hexAt cs c ≤ 2) := hide (fun c c0 c1 => hz _ (hexAt_mem (by rw [hmul] at c1; omega)))
  have HA := hide ha
  obtain ⟨b', off', hab, hcc⟩ := CellsAt.lt ha (by intro e; have h2 := congrArg List.length e; simp at h2; rw [h2] at hLL; simp at hLL; omega)
  cases hab
  have hbW := hide hcc
  have HCS : Hid (∀ V : World, Below W.heap.size W V → ∀ i, i < L → V.cell? ⟨b, off + i, none⟩ = some (.int .i64 (hexAt cs (i : Int)))) := hide (fun V hV i hi => by
    obtain ⟨b', off', he, hcc⟩ := HA.out.at (by omega)
    cases he
    exact (hV.cell (p := ⟨b, off + i, none⟩) hbW.out).trans (hcc i (by omega)))
  obtain ⟨W0, hW0⟩ : ∃ W0, W0 = W.alloc (.cells #[.int .i64 N, .slice (some ⟨b, off, none⟩) L c] 28) := ⟨_, rfl⟩
  have hB0 : Hid (Below W.heap.size W W0) := by rw [hW0]; exact hide (below_alloc _ _)
  have hr0 : Hid (W0.heap[W.heap.size]? = some (.cells #[.int .i64 N, .slice (some ⟨b, off, none⟩) L c] 28 (0, 0))) := by rw [hW0]; exact hide (alloc_row _ _ _)
  have hs0 : Hid (W0.heap.size = W.heap.size + 1) := by rw [hW0]; exact hide (by simp)
  obtain ⟨c0, c1, _, _⟩ := row2' hr0.out
  have hIn : Hid (inn 1 1 2 = true) := hide (by decide)
  have HIS := hide (specIsX_is (c := c) hok (ha.keep hB0.out) hl)
  rw [hLL] at HIS
  have hn1 : (1 : Int) ≤ (N : Int) := by omega
  have HN1 := hide hn1
  have HMUL := hide hmul
  have HLC := hide hLL
  obtain ⟨rz, hrz⟩ : ∃ rz, rz = needO N cs 1 := ⟨_, rfl⟩
  rw [← hrz]
  have HRZ := hide hrz
  have hne : ((N : Int) == 0) = false := by simp; omega
  have hne' : ¬ (N : Int) = 0 := by omega
  have hwq : wrap64 ((N : Int) * (N : Int)) = (L : Int) := by rw [hmul]; unfold wrap64; omega
  clear ha hz hlen hl hcc hn1 hmul hsq hrz hLL
  go_enter Try.func11, Try.ntmps11
  go_wp2_with fail
  rw [← hW0]
  clear hW0
  (try go_wp2_with fail)
  refine (HIS.out).mono ?_
  rintro e w1 ⟨rfl, hb1⟩
  have hB1 := hide (Below.trans' hB0.out hb1)
  have hr1 := hide (box_keep hr0.out hb1)
  clear hb1 c0 c1
  go_wp2_with fail
  refine (inn_is _ _ _ hIn.out _).mono ?_
  rintro e w2 ⟨rfl, hb2⟩
  have hB2 := hide (Below.trans' hB1.out hb2)
  have hr2 := hide (box_keep hr1.out hb2)
  clear hb2
  obtain ⟨c0, c1, _, _⟩ := row2' hr2.out
  obtain ⟨W3, hW3⟩ : ∃ W3, W3 = w2.alloc (.cells #[] 2) := ⟨_, rfl⟩
  have hb3 : Below w2.heap.size w2 W3 := by rw [hW3]; exact below_alloc _ _
  have hO3 : Hid (Owns w2.heap.size w2 W3 (.slice (some ⟨w2.heap.size, 0, none⟩) 0 0) (List.replicate 0 (-1))) := by
    rw [hW3]
    exact hide ⟨ownsRow_empty (alloc_row _ _ _) (Nat.le_refl _), below_alloc _ _, by simp⟩
  go_wp2_with fail
  rw [← hW3]
  clear hW3 c0 c1
  (try go_wp2_with fail)
  go_loopw [7, 8] (fun v i wr => ∃ (k : Nat) (v0 : Value), v0 = v ∧ k ≤ L ∧ i = .int .i64 k ∧ Hid (Owns w2.heap.size w2 wr v (List.replicate k (-1)))) (fun _ i _ => L - (intOf i).toNat)
  case atStart => exact ⟨0, _, rfl, Nat.zero_le _, rfl, hO3⟩
  case round =>
    clear hO3
    obtain ⟨k, v, rfl, hk, rfl, hO⟩ := hrel
    obtain ⟨c0, c1, _, _⟩ := row2' ((hO.out.old.block _ (block_lt hr2.out)).trans hr2.out)
    by_cases hlt : k < L
    · have hown := hO.out.own
      have hsz := hO.out.size
      rw [List.length_replicate] at hown
      go_wp2_with (at_builtin; refine wpList_append_own _ rfl _ _ 22 rfl (w2.heap.size) 2 i0 (.int .i64 0) 1 8 Try.underlying22 hi0 hz0 hz1 hz2 rfl (by decide) _ _ _ rfl (hown.alloc _) ⟨wr.heap.size, 0, none⟩ 1 1 [.int .i64 (-1)] rfl rfl (cell_one_new _ _ _) (by simp [Value.oneCell']) (by unfold maxLen; omega) (by omega) (by simp; omega) ?_)
      intro v' w5 hown' hgrow _
      have HO5 : Hid (Owns w2.heap.size w2 w5 v' (List.replicate (k + 1) (-1))) := hide (by
        have h := hO.out.snoc (z := -1) (by rw [List.length_replicate]; simpa using hown') hgrow
        rw [List.replicate_succ']
        exact h)
      clear hown' hgrow hown
      go_wp2_with fail
      go_roundw
      case rel => exact ⟨k + 1, _, rfl, by omega, by go_num, HO5⟩
      case measure => simp [intOf]; omega
    · obtain rfl : L = k := by omega
      -- the table
      have hown := hO.out.own
      rw [List.length_replicate] at hown
      obtain ⟨g, cv, rfl⟩ : ∃ g cv, v = .slice (some ⟨g, 0, none⟩) L cv := by
        rcases hown.2 with ⟨_, h0⟩ | ⟨g, cap, cur, hv, _⟩
        · omega
        · exact ⟨g, cap, hv⟩
      have hgl := hide (hown.lt g rfl)
      have hLS0 := hide (LS.of_owns hown)
      have hBr := hide (Below.trans' hB2.out hO.out.old)
      have hbx : Hid (wr.heap[W.heap.size]? = some (.cells #[.int .i64 N, .slice (some ⟨b, off, none⟩) L c] 28 (0, 0))) := hide ((hO.out.old.block _ (block_lt hr2.out)).trans hr2.out)
      have hgx : Hid (W.heap.size < g) := hide (by have := block_lt hr2.out; have := hgl.out.1; omega)
      clear hown hO
      obtain ⟨wt, rfl⟩ : ∃ wt : World, wt = wr := ⟨_, rfl⟩
      go_wp2_with fail
      go_loopg [9] 100000 (fun gk m wr => ∃ (mo : Bool) (t : Tb), m = .bool mo ∧ Hid (LS g L t wr) ∧ Hid (FarB (fun k => k = g) wt wr) ∧ Hid (Tab N cs 1 t ∧ (mo = false → Still N cs 1 t)) ∧ mass t * 2 + (if mo = true then 1 else 0) ≤ gk)
      case atStart => exact ⟨true, _, rfl, hLS0, hide (FarB.refl _ _), hide ⟨Tab.nil HMUL.out.symm, fun h => by cases h⟩, by rw [mass_rep]; simp; omega⟩
      case round =>
        clear hLS0
        obtain ⟨mo, t, rfl, hLS, hFB, hT, hG⟩ := hrel
        cases mo with
        | false =>
          have hst : Hid (rz = lstF t none (lastP N 1 N)) := hide (by rw [HRZ.out]; exact need_lst (by decide) hN1 hT.out.1 (hT.out.2 rfl))
          have hT64 : Hid (∀ c k, 0 ≤ c → tbAt t c = some k → k ≤ 64) := hide (fun c k h0 hk => by have h1 := hT.out.1.le h0 hk; have h2 := hT.out.1.len; rw [HMUL.out] at h2; omega)
          have hBf := hide ((hBr.out).trans (hFB.out.below (B := W.heap.size) hBr.out.size (fun k hk => by have := hgx.out; omega)))
          obtain ⟨M, hM⟩ : ∃ M, M + 1 = N := ⟨N - 1, by omega⟩
          have hM1 : (N : Int) - 1 = (M : Int) := by omega
          obtain ⟨A, hA⟩ : ∃ A, A = N * M := ⟨_, rfl⟩
          have hAL : A + N = L := by
            have e1 : N * (M + 1) = N * M + N := Nat.mul_succ N M
            rw [hM] at e1
            have e2 : N * N = L := by have := HMUL.out; exact_mod_cast this
            omega
          have hwA : wrap64 ((N : Int) * (M : Int)) = (A : Int) := by
            have e : (N : Int) * (M : Int) = (A : Int) := by rw [hA]; push_cast; rfl
            rw [e]; unfold wrap64; omega
          have HA2 := hide hA
          obtain ⟨wf, rfl⟩ : ∃ wf : World, wf = wr := ⟨_, rfl⟩
          clear hT hG hFB hA
          go_wp2_with fail
          go_loopw [16, 17] (fun o i wr => ∃ k : Nat, k ≤ N ∧ i = .int .i64 k ∧ Hid (o = .int .i64 (encM (lstF t none (lastP N 1 k)))) ∧ Below wf.heap.size wf wr) (fun _ i _ => N - (intOf i).toNat)
          case atStart => exact ⟨0, Nat.zero_le _, rfl, hide rfl, Below.refl _ _⟩
          case round =>
            obtain ⟨k, hk, rfl, ho, hB⟩ := hrel
            have HB := hide hB
            clear hB
            by_cases hlt : k < N
            · have hstep : Hid (lstF t none (lastP N 1 (k + 1)) = minO (lstF t none (lastP N 1 k)) (tbAt t (lstC N 1 (k : Int)))) := hide (by rw [lastP_succ, lstF_snoc])
              have hSI : lstC (N : Int) 1 (k : Int) = ((A + k : Nat) : Int) := by
                have e : (N : Int) * (M : Int) = (A : Int) := by rw [HA2.out]; push_cast; rfl
                simp [lstC, hM1, e]
              have hSL : A + k < L := by omega
              obtain ⟨S, hS⟩ : ∃ S, S = A + k := ⟨_, rfl⟩
              have hS1 : (A : Int) + (k : Int) = (S : Int) := by omega
              rw [← hS] at hSI hSL
              rw [hSI] at hstep
              have hSx := hide (And.intro hS hSI)
              have hcl := ((hLS.out.keep HB.out).cell hSL).1
              have h64 := hT64.out (S : Int)
              obtain ⟨fo, hfo⟩ : ∃ fo, fo = tbAt t (S : Int) := ⟨_, rfl⟩
              rw [← hfo] at hcl hstep h64
              obtain ⟨cu, hcu⟩ : ∃ cu, cu = lstF t none (lastP N 1 k) := ⟨_, rfl⟩
              rw [← hcu] at ho hstep
              obtain ⟨u, hu⟩ : ∃ u, u = encM (lstF t none (lastP N 1 (k + 1))) := ⟨_, rfl⟩
              rw [hstep.out] at hu
              have hfin : Hid (u = encM (lstF t none (lastP N 1 (k + 1)))) := hide (by rw [hu, hstep.out])
              have HO := ho.out
              clear hS hSI hfo hcu hstep ho h64
              cases fo with
              | none =>
                subst HO
                have hu2 : u = encM cu := by rw [hu]; cases cu <;> rfl
                have HU := hide hu2
                clear hu hu2
                simp only [encM] at hcl
                go_wp2_with fail
                go_roundw
                case rel => exact ⟨k + 1, by omega, by go_num, hide (by rw [← hfin.out, HU.out]), HB.out⟩
                case measure => simp [intOf]; omega
              | some f =>
                simp only [encM] at hcl
                cases cu with
                | none =>
                  have HU : Hid (u = (f : Int)) := hide (by rw [hu]; rfl)
                  clear hu
                  replace HO : _ = Value.int .i64 (-1) := HO
                  subst HO
                  go_wp2_with fail
                  go_roundw
                  case rel => exact ⟨k + 1, by omega, by go_num, hide (by rw [← hfin.out, HU.out]), HB.out⟩
                  case measure => simp [intOf]; omega
                | some a =>
                  replace HO : _ = Value.int .i64 (a : Int) := HO
                  subst HO
                  by_cases hfa : f < a
                  · have HU : Hid (u = (f : Int)) := hide (by rw [hu]; simp [minO, hfa, encM])
                    clear hu
                    go_wp2_with fail
                    go_roundw
                    case rel => exact ⟨k + 1, by omega, by go_num, hide (by rw [← hfin.out, HU.out]), HB.out⟩
                    case measure => simp [intOf]; omega
                  · have HU : Hid (u = (a : Int)) := hide (by rw [hu]; simp [minO, hfa, encM])
                    clear hu
                    go_wp2_with fail
                    go_roundw
                    case rel => exact ⟨k + 1, by omega, by go_num, hide (by rw [← hfin.out, HU.out]), HB.out⟩
                    case measure => simp [intOf]; omega
            · obtain rfl : N = k := by omega
              have HO := ho.out
              rw [← hst.out] at HO
              have HBE := hide (Below.trans' hBf.out HB.out)
              clear ho
              cases rz with
              | none =>
                replace HO : _ = Value.int .i64 (-1) := HO
                subst HO
                go_wp2_with fail
                go_ret2
                exact ⟨rfl, HBE.out⟩
              | some k =>
                replace HO : _ = Value.int .i64 (k : Int) := HO
                subst HO
                go_wp2_with fail
                go_ret2
                exact ⟨rfl, HBE.out⟩
        | true =>
          have hT64 := hide hT
          have hms : Hid (mass t * 2 + 1 ≤ gk) := hide (by simpa using hG)
          clear hG hT
          go_wp2_with fail
          go_loopw [9, 10] (fun m i wr => ∃ (k : Nat) (mo : Bool) (t' : Tb), k ≤ L ∧ m = .bool mo ∧ i = .int .i64 k ∧ Hid (LS g L t' wr) ∧ Hid (FarB (fun k => k = g) wt wr) ∧ Hid (Tab N cs 1 t' ∧ (mo = true → mass t' < mass t) ∧ (mo = false → t' = t ∧ ∀ c : Nat, c < k → hexAt cs (c : Int) ≠ 3 - 1 → betB (bstO N cs 1 t (c : Int)) (tbAt t (c : Int)) = false))) (fun _ i _ => L - (intOf i).toNat)
          case atStart => exact ⟨0, false, t, Nat.zero_le _, rfl, rfl, hLS, hFB, hide ⟨hT64.out.1, fun h => (by cases h), fun _ => ⟨rfl, fun c hc => (by omega)⟩⟩⟩
          case round =>
            clear hLS hFB
            rename_i wr00
            obtain ⟨k, mo, t', hk, rfl, rfl, hLS, hFB, hT⟩ := hrel
            have hbxr : Hid (wr.heap[W.heap.size]? = some (.cells #[.int .i64 N, .slice (some ⟨b, off, none⟩) L c] 28 (0, 0))) := hide (hFB.out.row hbx.out (by have := hgx.out; omega))
            have hBr2 := hide (hBr.out.trans (hFB.out.below (B := W.heap.size) hBr.out.size (fun k hk => by have := hgx.out; omega)))
            obtain ⟨c0, c1, _, _⟩ := row2' hbxr.out
            by_cases hlt : k < L
            · have hcell := HCS.out _ hBr2.out k hlt
              have hkn : (k : Int) < (N : Int) * N := by rw [HMUL.out]; omega
              obtain ⟨z0, z2⟩ := HZ.out (k : Int) (by omega) hkn
              have HKN := hide hkn
              obtain ⟨z, hz⟩ : ∃ z, z = hexAt cs (k : Int) := ⟨_, rfl⟩
              rw [← hz] at hcell z0 z2
              have HZZ := hide hz
              have hlen : Hid (t'.length = L) := hide (by have := hT.out.1.len; rw [HMUL.out] at this; omega)
              obtain ⟨k1, k2, k3, k4, q1, q2, q3, q4⟩ := cell_walk HN1.out (by omega) (show (0 : Int) ≤ (k : Int) by omega) hkn
              obtain ⟨x, hx⟩ : ∃ x, x = (k : Int) % (N : Int) := ⟨_, rfl⟩
              rw [← hx] at k3 k4 q2 q3
              have HX := hide hx
              have qx : wrap64 x = x := by have h := q2; rw [q3] at h; exact h
              have hbeg : Hid (begH N 1 (k : Int) = decide (k < N)) := hide (by
                have h := beg_row HN1.out (show (0 : Int) ≤ (k : Int) by omega) hkn
                cases hb : begH N 1 (k : Int) with
                | true => have := h.1 hb; simp; omega
                | false =>
                  have h2 : ¬ ((k : Int) < (N : Int)) := fun e => by rw [h.2 e] at hb; cases hb
                  simp; omega)
              clear hkn hz hx q1 q4 k1 k2
              by_cases hz3 : z = 3 - 1
              · have hzl : z = 2 := by omega
                have hT5 : Hid (Tab N cs 1 t' ∧ (mo = true → mass t' < mass t) ∧ (mo = false → t' = t ∧ ∀ c : Nat, c < k + 1 → hexAt cs (c : Int) ≠ 3 - 1 → betB (bstO N cs 1 t (c : Int)) (tbAt t (c : Int)) = false)) := hide ⟨hT.out.1, hT.out.2.1, fun h => ⟨(hT.out.2.2 h).1, fun c hc hne => by
                  by_cases e : c = k
                  · subst e; rw [← HZZ.out] at hne; exact absurd hz3 hne
                  · exact (hT.out.2.2 h).2 c (by omega) hne⟩⟩
                clear hz3 hT hbeg
                subst hzl
                go_wp2_with fail
                go_roundw
                case rel => exact ⟨k + 1, mo, t', by omega, by first | rfl | trivial, by go_num, hLS, hFB, hT5⟩
                case measure => simp [intOf]; omega
              · have hbst : Hid (bstO N cs 1 t' (k : Int) = bstF t' (costH cs (k : Int)) (if begH N 1 (k : Int) = true then some (costH cs (k : Int)) else none) (near (N : Int) (k : Int))) := hide rfl
                have hcost : Hid (costH cs (k : Int) = if z = 0 then 1 else 0) := hide (by unfold costH; rw [HZZ.out])
                obtain ⟨nl, hnl⟩ : ∃ nl, nl = near (N : Int) (k : Int) := ⟨_, rfl⟩
                rw [← hnl] at hbst
                have HNL := hide hnl
                have hnl6 : nl.length ≤ 6 := by rw [hnl]; exact near_len _ _
                have HNE := hide hz3
                clear hnl hz3
                rcases (by omega : z = 0 ∨ z ≠ 0) with hz0 | hz0
                · subst hz0
                  by_cases hbg : k < N
                  · have hbg2 : (k : Int) < (N : Int) := by omega
                    have hbs : Hid (bstO N cs 1 t' (k : Int) = bstF t' 1 (some 1) nl) := hide (by rw [hbst.out, hcost.out, hbeg.out]; simp [hbg])
                    clear hbst hbeg hcost
                    go_wp2_with fail
                    refine (specNear_any N k HN1.out (by omega) (by omega) HKN.out _).mono ?_
                    rw [← HNL.out]
                    rintro e wn ⟨an, cn, rfl, hon, hbn⟩
                    have hIn := hide (intsAt_of_ownsRow hon)
                    have hLSn := hide (hLS.out.keep hbn)
                    have hFBn := hide (hFB.out.trans (FarB.of_below (S := fun _ => False) hbn) (fun j e _ => e.elim))
                    have hBn2 := hide (hBr2.out.trans (hbn.mono hBr2.out.size))
                    have hbxn := hide (box_keep hbxr.out hbn)
                    clear hon hbn hLS hFB hBr2 hbxr c0 c1 hcell
                    go_wp2_with fail
                    go_loopw [12, 14] (fun bv i wi => ∃ j : Nat, j ≤ nl.length ∧ i = .int .i64 j ∧ Hid (bv = .int .i64 (encM (bstF t' 1 (some 1) (nl.take j)))) ∧ Hid (Below wn.heap.size wn wi)) (fun _ i _ => nl.length - (intOf i).toNat)
                    case atStart => exact ⟨0, Nat.zero_le _, rfl, hide rfl, hide (Below.refl _ _)⟩
                    case round =>
                      obtain ⟨j, hj, rfl, hbv, hBi⟩ := hrel
                      by_cases hlj : j < nl.length
                      · obtain ⟨b2, off2, y, rfl, hcell2, hy⟩ := (IntsAt.keep hIn.out hBi.out).one hlj
                        obtain ⟨y0, y1⟩ := near_in HN1.out (show (0 : Int) ≤ (k : Int) by omega) HKN.out (by rw [← HNL.out]; exact mem_of_get hy.out)
                        obtain ⟨Y, rfl⟩ := Int.eq_ofNat_of_zero_le y0
                        have hYL : Y < L := by have := HMUL.out; omega
                        have hcl := ((hLSn.out.keep hBi.out).cell hYL).1
                        have hnt : Hid (bstF t' 1 (some 1) (nl.take (j + 1)) = bstS t' 1 (bstF t' 1 (some 1) (nl.take j)) (Y : Int)) := hide (by rw [List.take_add_one, hy.out]; exact bstF_snoc _ _ _ _ _)
                        have h64 : ∀ f, tbAt t' (Y : Int) = some f → f ≤ 64 := fun f hf => by have := hT.out.1.le (by omega) hf; have := hlen.out; omega
                        obtain ⟨fo, hfo⟩ : ∃ fo, fo = tbAt t' (Y : Int) := ⟨_, rfl⟩
                        rw [← hfo] at hcl h64
                        obtain ⟨bo, hbo⟩ : ∃ bo, bo = bstF t' 1 (some 1) (nl.take j) := ⟨_, rfl⟩
                        rw [← hbo] at hbv hnt
                        have HFO := hide hfo
                        have HV := hbv.out
                        clear hy y0 y1 hfo hbo hbv
                        cases fo with
                        | none =>
                          have hn5 : Hid (bstF t' 1 (some 1) (nl.take (j + 1)) = bo) := hide (by rw [hnt.out]; unfold bstS; rw [← HFO.out])
                          replace hcl : wr.cell? ⟨g, Y, none⟩ = some (.int .i64 (-1)) := hcl
                          clear h64
                          subst HV
                          go_wp2_with fail
                          go_roundw
                          case rel => exact ⟨j + 1, by omega, by go_num, hide (by first | (rw [hn5.out]; done) | (rw [hn5.out, Int.add_zero])), hBi⟩
                          case measure => simp [intOf]; omega
                        | some f =>
                          have hf64 := h64 f rfl
                          replace hcl : wr.cell? ⟨g, Y, none⟩ = some (.int .i64 (f : Int)) := hcl
                          clear h64
                          cases bo with
                          | none =>
                            have hn5 : Hid (encM (bstF t' 1 (some 1) (nl.take (j + 1))) = (f : Int) + 1) := hide (by rw [hnt.out]; unfold bstS; rw [← HFO.out]; rfl)
                            replace HV : _ = Value.int .i64 (-1) := HV
                            subst HV
                            go_wp2_with fail
                            go_roundw
                            case rel => exact ⟨j + 1, by omega, by go_num, hide (by first | (rw [hn5.out]; done) | (rw [hn5.out, Int.add_zero])), hBi⟩
                            case measure => simp [intOf]; omega
                          | some b0 =>
                            replace HV : _ = Value.int .i64 (b0 : Int) := HV
                            by_cases hfb : f + 1 < b0
                            · have hn5 : Hid (encM (bstF t' 1 (some 1) (nl.take (j + 1))) = (f : Int) + 1) := hide (by rw [hnt.out]; unfold bstS; rw [← HFO.out]; simp only []; rw [if_pos hfb]; rfl)
                              have hfbi : (f : Int) + 1 < (b0 : Int) := by omega
                              subst HV
                              go_wp2_with fail
                              go_roundw
                              case rel => exact ⟨j + 1, by omega, by go_num, hide (by first | (rw [hn5.out]; done) | (rw [hn5.out, Int.add_zero])), hBi⟩
                              case measure => simp [intOf]; omega
                            · have hn5 : Hid (encM (bstF t' 1 (some 1) (nl.take (j + 1))) = (b0 : Int)) := hide (by rw [hnt.out]; unfold bstS; rw [← HFO.out]; simp only []; rw [if_neg hfb]; rfl)
                              have hfbi : ¬ ((f : Int) + 1 < (b0 : Int)) := by omega
                              subst HV
                              go_wp2_with fail
                              go_roundw
                              case rel => exact ⟨j + 1, by omega, by go_num, hide (by first | (rw [hn5.out]; done) | (rw [hn5.out, Int.add_zero])), hBi⟩
                              case measure => simp [intOf]; omega
                      · obtain rfl : j = nl.length := by omega
                        rw [List.take_length, ← hbs.out] at hbv
                        have hLS5 := hide (hLSn.out.keep hBi.out)
                        have hFB5 := hide (hFBn.out.trans (FarB.of_below (S := fun _ => False) hBi.out) (fun j e _ => e.elim))
                        obtain ⟨cl1, cl2⟩ := hLS5.out.cell hlt
                        obtain ⟨bo, hbo⟩ : ∃ bo, bo = bstO N cs 1 t' (k : Int) := ⟨_, rfl⟩
                        rw [← hbo] at hbv
                        obtain ⟨fo, hfo⟩ : ∃ fo, fo = tbAt t' (k : Int) := ⟨_, rfl⟩
                        rw [← hfo] at cl1
                        have HV := hbv.out
                        have HBO := hide (And.intro hbo hfo)
                        have hskip : Hid (betB bo fo = false → (Tab N cs 1 t' ∧ (mo = true → mass t' < mass t) ∧ (mo = false → t' = t ∧ ∀ c : Nat, c < k + 1 → hexAt cs (c : Int) ≠ 3 - 1 → betB (bstO N cs 1 t (c : Int)) (tbAt t (c : Int)) = false))) := hide (fun hb => ⟨hT.out.1, hT.out.2.1, fun h => ⟨(hT.out.2.2 h).1, fun c hc hne => by
                          by_cases e : c = k
                          · subst e
                            have et := (hT.out.2.2 h).1
                            rw [← et, ← HBO.out.1, ← HBO.out.2]; exact hb
                          · exact (hT.out.2.2 h).2 c (by omega) hne⟩⟩)
                        have hput : Hid (∀ k', bo = some k' → betB (some k') fo = true → (Tab N cs 1 (t'.set (k : Int).toNat (some k')) ∧ (true = true → mass (t'.set (k : Int).toNat (some k')) < mass t) ∧ (true = false → t'.set (k : Int).toNat (some k') = t ∧ ∀ c : Nat, c < k + 1 → hexAt cs (c : Int) ≠ 3 - 1 → betB (bstO N cs 1 t (c : Int)) (tbAt t (c : Int)) = false))) := hide (fun k' hk' hb => by
                          obtain ⟨h3, h4⟩ := bst_put HN1.out (by omega) (by decide) hT.out.1 (by omega) HKN.out (HZ.out (k : Int) (by omega) HKN.out).1 (HZ.out (k : Int) (by omega) HKN.out).2 (by rw [← HZZ.out]; exact HNE.out) (by rw [← HBO.out.1]; exact hk') (by rw [← HBO.out.2]; exact hb)
                          refine ⟨h3, fun _ => ?_, fun h => by cases h⟩
                          cases mo with
                          | true => have := hT.out.2.1 rfl; omega
                          | false => rw [← (hT.out.2.2 rfl).1]; exact h4)
                        clear hbv hbo hfo hLSn hFBn
                        cases bo with
                        | none =>
                          replace HV : _ = Value.int .i64 (-1) := HV
                          have hT5 := hide (hskip.out rfl)
                          subst HV
                          go_wp2_with fail
                          go_roundw
                          case rel => exact ⟨k + 1, mo, t', by omega, by first | rfl | trivial, by go_num, hLS5, hFB5, hT5⟩
                          case measure => simp [intOf]; omega
                        | some bk =>
                          replace HV : _ = Value.int .i64 (bk : Int) := HV
                          have hLSs := hide (hLS5.out.set (k := bk) hlt hlen.out)
                          have hFBs := hide (hFB5.out.set (m := g) (o := k) rfl (.int .i64 (bk : Int)))
                          cases fo with
                          | none =>
                            replace cl1 : wr.cell? ⟨g, k, none⟩ = some (.int .i64 (-1)) := cl1
                            have hT5 := hide (hput.out bk rfl rfl)
                            subst HV
                            go_wp2_with fail
                            go_roundw
                            case rel => exact ⟨k + 1, true, _, by omega, by first | rfl | trivial, by go_num, hLSs, hFBs, hT5⟩
                            case measure => simp [intOf]; omega
                          | some fk =>
                            replace cl1 : wr.cell? ⟨g, k, none⟩ = some (.int .i64 (fk : Int)) := cl1
                            by_cases hbf : bk < fk
                            · have hT5 := hide (hput.out bk rfl (by simp [betB, hbf]))
                              subst HV
                              go_wp2_with fail
                              go_roundw
                              case rel => exact ⟨k + 1, true, _, by omega, by first | rfl | trivial, by go_num, hLSs, hFBs, hT5⟩
                              case measure => simp [intOf]; omega
                            · have hT5 := hide (hskip.out (by simp [betB, hbf]))
                              subst HV
                              go_wp2_with fail
                              go_roundw
                              case rel => exact ⟨k + 1, mo, t', by omega, by first | rfl | trivial, by go_num, hLS5, hFB5, hT5⟩
                              case measure => simp [intOf]; omega
                  · have hbg2 : ¬ ((k : Int) < (N : Int)) := by omega
                    have hbs : Hid (bstO N cs 1 t' (k : Int) = bstF t' 1 none nl) := hide (by rw [hbst.out, hcost.out, hbeg.out]; simp [hbg])
                    clear hbst hbeg hcost
                    go_wp2_with fail
                    refine (specNear_any N k HN1.out (by omega) (by omega) HKN.out _).mono ?_
                    rw [← HNL.out]
                    rintro e wn ⟨an, cn, rfl, hon, hbn⟩
                    have hIn := hide (intsAt_of_ownsRow hon)
                    have hLSn := hide (hLS.out.keep hbn)
                    have hFBn := hide (hFB.out.trans (FarB.of_below (S := fun _ => False) hbn) (fun j e _ => e.elim))
                    have hBn2 := hide (hBr2.out.trans (hbn.mono hBr2.out.size))
                    have hbxn := hide (box_keep hbxr.out hbn)
                    clear hon hbn hLS hFB hBr2 hbxr c0 c1 hcell
                    go_wp2_with fail
                    go_loopw [12, 14] (fun bv i wi => ∃ j : Nat, j ≤ nl.length ∧ i = .int .i64 j ∧ Hid (bv = .int .i64 (encM (bstF t' 1 none (nl.take j)))) ∧ Hid (Below wn.heap.size wn wi)) (fun _ i _ => nl.length - (intOf i).toNat)
                    case atStart => exact ⟨0, Nat.zero_le _, rfl, hide rfl, hide (Below.refl _ _)⟩
                    case round =>
                      obtain ⟨j, hj, rfl, hbv, hBi⟩ := hrel
                      by_cases hlj : j < nl.length
                      · obtain ⟨b2, off2, y, rfl, hcell2, hy⟩ := (IntsAt.keep hIn.out hBi.out).one hlj
                        obtain ⟨y0, y1⟩ := near_in HN1.out (show (0 : Int) ≤ (k : Int) by omega) HKN.out (by rw [← HNL.out]; exact mem_of_get hy.out)
                        obtain ⟨Y, rfl⟩ := Int.eq_ofNat_of_zero_le y0
                        have hYL : Y < L := by have := HMUL.out; omega
                        have hcl := ((hLSn.out.keep hBi.out).cell hYL).1
                        have hnt : Hid (bstF t' 1 none (nl.take (j + 1)) = bstS t' 1 (bstF t' 1 none (nl.take j)) (Y : Int)) := hide (by rw [List.take_add_one, hy.out]; exact bstF_snoc _ _ _ _ _)
                        have h64 : ∀ f, tbAt t' (Y : Int) = some f → f ≤ 64 := fun f hf => by have := hT.out.1.le (by omega) hf; have := hlen.out; omega
                        obtain ⟨fo, hfo⟩ : ∃ fo, fo = tbAt t' (Y : Int) := ⟨_, rfl⟩
                        rw [← hfo] at hcl h64
                        obtain ⟨bo, hbo⟩ : ∃ bo, bo = bstF t' 1 none (nl.take j) := ⟨_, rfl⟩
                        rw [← hbo] at hbv hnt
                        have HFO := hide hfo
                        have HV := hbv.out
                        clear hy y0 y1 hfo hbo hbv
                        cases fo with
                        | none =>
                          have hn5 : Hid (bstF t' 1 none (nl.take (j + 1)) = bo) := hide (by rw [hnt.out]; unfold bstS; rw [← HFO.out])
                          replace hcl : wr.cell? ⟨g, Y, none⟩ = some (.int .i64 (-1)) := hcl
                          clear h64
                          subst HV
                          go_wp2_with fail
                          go_roundw
                          case rel => exact ⟨j + 1, by omega, by go_num, hide (by first | (rw [hn5.out]; done) | (rw [hn5.out, Int.add_zero])), hBi⟩
                          case measure => simp [intOf]; omega
                        | some f =>
                          have hf64 := h64 f rfl
                          replace hcl : wr.cell? ⟨g, Y, none⟩ = some (.int .i64 (f : Int)) := hcl
                          clear h64
                          cases bo with
                          | none =>
                            have hn5 : Hid (encM (bstF t' 1 none (nl.take (j + 1))) = (f : Int) + 1) := hide (by rw [hnt.out]; unfold bstS; rw [← HFO.out]; rfl)
                            replace HV : _ = Value.int .i64 (-1) := HV
                            subst HV
                            go_wp2_with fail
                            go_roundw
                            case rel => exact ⟨j + 1, by omega, by go_num, hide (by first | (rw [hn5.out]; done) | (rw [hn5.out, Int.add_zero])), hBi⟩
                            case measure => simp [intOf]; omega
                          | some b0 =>
                            replace HV : _ = Value.int .i64 (b0 : Int) := HV
                            by_cases hfb : f + 1 < b0
                            · have hn5 : Hid (encM (bstF t' 1 none (nl.take (j + 1))) = (f : Int) + 1) := hide (by rw [hnt.out]; unfold bstS; rw [← HFO.out]; simp only []; rw [if_pos hfb]; rfl)
                              have hfbi : (f : Int) + 1 < (b0 : Int) := by omega
                              subst HV
                              go_wp2_with fail
                              go_roundw
                              case rel => exact ⟨j + 1, by omega, by go_num, hide (by first | (rw [hn5.out]; done) | (rw [hn5.out, Int.add_zero])), hBi⟩
                              case measure => simp [intOf]; omega
                            · have hn5 : Hid (encM (bstF t' 1 none (nl.take (j + 1))) = (b0 : Int)) := hide (by rw [hnt.out]; unfold bstS; rw [← HFO.out]; simp only []; rw [if_neg hfb]; rfl)
                              have hfbi : ¬ ((f : Int) + 1 < (b0 : Int)) := by omega
                              subst HV
                              go_wp2_with fail
                              go_roundw
                              case rel => exact ⟨j + 1, by omega, by go_num, hide (by first | (rw [hn5.out]; done) | (rw [hn5.out, Int.add_zero])), hBi⟩
                              case measure => simp [intOf]; omega
                      · obtain rfl : j = nl.length := by omega
                        rw [List.take_length, ← hbs.out] at hbv
                        have hLS5 := hide (hLSn.out.keep hBi.out)
                        have hFB5 := hide (hFBn.out.trans (FarB.of_below (S := fun _ => False) hBi.out) (fun j e _ => e.elim))
                        obtain ⟨cl1, cl2⟩ := hLS5.out.cell hlt
                        obtain ⟨bo, hbo⟩ : ∃ bo, bo = bstO N cs 1 t' (k : Int) := ⟨_, rfl⟩
                        rw [← hbo] at hbv
                        obtain ⟨fo, hfo⟩ : ∃ fo, fo = tbAt t' (k : Int) := ⟨_, rfl⟩
                        rw [← hfo] at cl1
                        have HV := hbv.out
                        have HBO := hide (And.intro hbo hfo)
                        have hskip : Hid (betB bo fo = false → (Tab N cs 1 t' ∧ (mo = true → mass t' < mass t) ∧ (mo = false → t' = t ∧ ∀ c : Nat, c < k + 1 → hexAt cs (c : Int) ≠ 3 - 1 → betB (bstO N cs 1 t (c : Int)) (tbAt t (c : Int)) = false))) := hide (fun hb => ⟨hT.out.1, hT.out.2.1, fun h => ⟨(hT.out.2.2 h).1, fun c hc hne => by
                          by_cases e : c = k
                          · subst e
                            have et := (hT.out.2.2 h).1
                            rw [← et, ← HBO.out.1, ← HBO.out.2]; exact hb
                          · exact (hT.out.2.2 h).2 c (by omega) hne⟩⟩)
                        have hput : Hid (∀ k', bo = some k' → betB (some k') fo = true → (Tab N cs 1 (t'.set (k : Int).toNat (some k')) ∧ (true = true → mass (t'.set (k : Int).toNat (some k')) < mass t) ∧ (true = false → t'.set (k : Int).toNat (some k') = t ∧ ∀ c : Nat, c < k + 1 → hexAt cs (c : Int) ≠ 3 - 1 → betB (bstO N cs 1 t (c : Int)) (tbAt t (c : Int)) = false))) := hide (fun k' hk' hb => by
                          obtain ⟨h3, h4⟩ := bst_put HN1.out (by omega) (by decide) hT.out.1 (by omega) HKN.out (HZ.out (k : Int) (by omega) HKN.out).1 (HZ.out (k : Int) (by omega) HKN.out).2 (by rw [← HZZ.out]; exact HNE.out) (by rw [← HBO.out.1]; exact hk') (by rw [← HBO.out.2]; exact hb)
                          refine ⟨h3, fun _ => ?_, fun h => by cases h⟩
                          cases mo with
                          | true => have := hT.out.2.1 rfl; omega
                          | false => rw [← (hT.out.2.2 rfl).1]; exact h4)
                        clear hbv hbo hfo hLSn hFBn
                        cases bo with
                        | none =>
                          replace HV : _ = Value.int .i64 (-1) := HV
                          have hT5 := hide (hskip.out rfl)
                          subst HV
                          go_wp2_with fail
                          go_roundw
                          case rel => exact ⟨k + 1, mo, t', by omega, by first | rfl | trivial, by go_num, hLS5, hFB5, hT5⟩
                          case measure => simp [intOf]; omega
                        | some bk =>
                          replace HV : _ = Value.int .i64 (bk : Int) := HV
                          have hLSs := hide (hLS5.out.set (k := bk) hlt hlen.out)
                          have hFBs := hide (hFB5.out.set (m := g) (o := k) rfl (.int .i64 (bk : Int)))
                          cases fo with
                          | none =>
                            replace cl1 : wr.cell? ⟨g, k, none⟩ = some (.int .i64 (-1)) := cl1
                            have hT5 := hide (hput.out bk rfl rfl)
                            subst HV
                            go_wp2_with fail
                            go_roundw
                            case rel => exact ⟨k + 1, true, _, by omega, by first | rfl | trivial, by go_num, hLSs, hFBs, hT5⟩
                            case measure => simp [intOf]; omega
                          | some fk =>
                            replace cl1 : wr.cell? ⟨g, k, none⟩ = some (.int .i64 (fk : Int)) := cl1
                            by_cases hbf : bk < fk
                            · have hT5 := hide (hput.out bk rfl (by simp [betB, hbf]))
                              subst HV
                              go_wp2_with fail
                              go_roundw
                              case rel => exact ⟨k + 1, true, _, by omega, by first | rfl | trivial, by go_num, hLSs, hFBs, hT5⟩
                              case measure => simp [intOf]; omega
                            · have hT5 := hide (hskip.out (by simp [betB, hbf]))
                              subst HV
                              go_wp2_with fail
                              go_roundw
                              case rel => exact ⟨k + 1, mo, t', by omega, by first | rfl | trivial, by go_num, hLS5, hFB5, hT5⟩
                              case measure => simp [intOf]; omega
                · have hze : (z == 0) = false := by simp [hz0]
                  have hz3 : (z == 2) = false := by have := HNE.out; simp; omega
                  by_cases hbg : k < N
                  · have hbg2 : (k : Int) < (N : Int) := by omega
                    have hbs : Hid (bstO N cs 1 t' (k : Int) = bstF t' 0 (some 0) nl) := hide (by rw [hbst.out, hcost.out, hbeg.out]; simp [hz0, hbg])
                    clear hbst hbeg hcost
                    go_wp2_with fail
                    refine (specNear_any N k HN1.out (by omega) (by omega) HKN.out _).mono ?_
                    rw [← HNL.out]
                    rintro e wn ⟨an, cn, rfl, hon, hbn⟩
                    have hIn := hide (intsAt_of_ownsRow hon)
                    have hLSn := hide (hLS.out.keep hbn)
                    have hFBn := hide (hFB.out.trans (FarB.of_below (S := fun _ => False) hbn) (fun j e _ => e.elim))
                    have hBn2 := hide (hBr2.out.trans (hbn.mono hBr2.out.size))
                    have hbxn := hide (box_keep hbxr.out hbn)
                    clear hon hbn hLS hFB hBr2 hbxr c0 c1 hcell
                    go_wp2_with fail
                    go_loopw [12, 14] (fun bv i wi => ∃ j : Nat, j ≤ nl.length ∧ i = .int .i64 j ∧ Hid (bv = .int .i64 (encM (bstF t' 0 (some 0) (nl.take j)))) ∧ Hid (Below wn.heap.size wn wi)) (fun _ i _ => nl.length - (intOf i).toNat)
                    case atStart => exact ⟨0, Nat.zero_le _, rfl, hide rfl, hide (Below.refl _ _)⟩
                    case round =>
                      obtain ⟨j, hj, rfl, hbv, hBi⟩ := hrel
                      by_cases hlj : j < nl.length
                      · obtain ⟨b2, off2, y, rfl, hcell2, hy⟩ := (IntsAt.keep hIn.out hBi.out).one hlj
                        obtain ⟨y0, y1⟩ := near_in HN1.out (show (0 : Int) ≤ (k : Int) by omega) HKN.out (by rw [← HNL.out]; exact mem_of_get hy.out)
                        obtain ⟨Y, rfl⟩ := Int.eq_ofNat_of_zero_le y0
                        have hYL : Y < L := by have := HMUL.out; omega
                        have hcl := ((hLSn.out.keep hBi.out).cell hYL).1
                        have hnt : Hid (bstF t' 0 (some 0) (nl.take (j + 1)) = bstS t' 0 (bstF t' 0 (some 0) (nl.take j)) (Y : Int)) := hide (by rw [List.take_add_one, hy.out]; exact bstF_snoc _ _ _ _ _)
                        have h64 : ∀ f, tbAt t' (Y : Int) = some f → f ≤ 64 := fun f hf => by have := hT.out.1.le (by omega) hf; have := hlen.out; omega
                        obtain ⟨fo, hfo⟩ : ∃ fo, fo = tbAt t' (Y : Int) := ⟨_, rfl⟩
                        rw [← hfo] at hcl h64
                        obtain ⟨bo, hbo⟩ : ∃ bo, bo = bstF t' 0 (some 0) (nl.take j) := ⟨_, rfl⟩
                        rw [← hbo] at hbv hnt
                        have HFO := hide hfo
                        have HV := hbv.out
                        clear hy y0 y1 hfo hbo hbv
                        cases fo with
                        | none =>
                          have hn5 : Hid (bstF t' 0 (some 0) (nl.take (j + 1)) = bo) := hide (by rw [hnt.out]; unfold bstS; rw [← HFO.out])
                          replace hcl : wr.cell? ⟨g, Y, none⟩ = some (.int .i64 (-1)) := hcl
                          clear h64
                          subst HV
                          go_wp2_with fail
                          go_roundw
                          case rel => exact ⟨j + 1, by omega, by go_num, hide (by first | (rw [hn5.out]; done) | (rw [hn5.out, Int.add_zero])), hBi⟩
                          case measure => simp [intOf]; omega
                        | some f =>
                          have hf64 := h64 f rfl
                          replace hcl : wr.cell? ⟨g, Y, none⟩ = some (.int .i64 (f : Int)) := hcl
                          clear h64
                          cases bo with
                          | none =>
                            have hn5 : Hid (encM (bstF t' 0 (some 0) (nl.take (j + 1))) = (f : Int) + 0) := hide (by rw [hnt.out]; unfold bstS; rw [← HFO.out]; rfl)
                            replace HV : _ = Value.int .i64 (-1) := HV
                            subst HV
                            go_wp2_with fail
                            go_roundw
                            case rel => exact ⟨j + 1, by omega, by go_num, hide (by first | (rw [hn5.out]; done) | (rw [hn5.out, Int.add_zero])), hBi⟩
                            case measure => simp [intOf]; omega
                          | some b0 =>
                            replace HV : _ = Value.int .i64 (b0 : Int) := HV
                            by_cases hfb : f + 0 < b0
                            · have hn5 : Hid (encM (bstF t' 0 (some 0) (nl.take (j + 1))) = (f : Int) + 0) := hide (by rw [hnt.out]; unfold bstS; rw [← HFO.out]; simp only []; rw [if_pos hfb]; rfl)
                              have hfbi : (f : Int) + 0 < (b0 : Int) := by omega
                              subst HV
                              go_wp2_with fail
                              go_roundw
                              case rel => exact ⟨j + 1, by omega, by go_num, hide (by first | (rw [hn5.out]; done) | (rw [hn5.out, Int.add_zero])), hBi⟩
                              case measure => simp [intOf]; omega
                            · have hn5 : Hid (encM (bstF t' 0 (some 0) (nl.take (j + 1))) = (b0 : Int)) := hide (by rw [hnt.out]; unfold bstS; rw [← HFO.out]; simp only []; rw [if_neg hfb]; rfl)
                              have hfbi : ¬ ((f : Int) + 0 < (b0 : Int)) := by omega
                              subst HV
                              go_wp2_with fail
                              go_roundw
                              case rel => exact ⟨j + 1, by omega, by go_num, hide (by first | (rw [hn5.out]; done) | (rw [hn5.out, Int.add_zero])), hBi⟩
                              case measure => simp [intOf]; omega
                      · obtain rfl : j = nl.length := by omega
                        rw [List.take_length, ← hbs.out] at hbv
                        have hLS5 := hide (hLSn.out.keep hBi.out)
                        have hFB5 := hide (hFBn.out.trans (FarB.of_below (S := fun _ => False) hBi.out) (fun j e _ => e.elim))
                        obtain ⟨cl1, cl2⟩ := hLS5.out.cell hlt
                        obtain ⟨bo, hbo⟩ : ∃ bo, bo = bstO N cs 1 t' (k : Int) := ⟨_, rfl⟩
                        rw [← hbo] at hbv
                        obtain ⟨fo, hfo⟩ : ∃ fo, fo = tbAt t' (k : Int) := ⟨_, rfl⟩
                        rw [← hfo] at cl1
                        have HV := hbv.out
                        have HBO := hide (And.intro hbo hfo)
                        have hskip : Hid (betB bo fo = false → (Tab N cs 1 t' ∧ (mo = true → mass t' < mass t) ∧ (mo = false → t' = t ∧ ∀ c : Nat, c < k + 1 → hexAt cs (c : Int) ≠ 3 - 1 → betB (bstO N cs 1 t (c : Int)) (tbAt t (c : Int)) = false))) := hide (fun hb => ⟨hT.out.1, hT.out.2.1, fun h => ⟨(hT.out.2.2 h).1, fun c hc hne => by
                          by_cases e : c = k
                          · subst e
                            have et := (hT.out.2.2 h).1
                            rw [← et, ← HBO.out.1, ← HBO.out.2]; exact hb
                          · exact (hT.out.2.2 h).2 c (by omega) hne⟩⟩)
                        have hput : Hid (∀ k', bo = some k' → betB (some k') fo = true → (Tab N cs 1 (t'.set (k : Int).toNat (some k')) ∧ (true = true → mass (t'.set (k : Int).toNat (some k')) < mass t) ∧ (true = false → t'.set (k : Int).toNat (some k') = t ∧ ∀ c : Nat, c < k + 1 → hexAt cs (c : Int) ≠ 3 - 1 → betB (bstO N cs 1 t (c : Int)) (tbAt t (c : Int)) = false))) := hide (fun k' hk' hb => by
                          obtain ⟨h3, h4⟩ := bst_put HN1.out (by omega) (by decide) hT.out.1 (by omega) HKN.out (HZ.out (k : Int) (by omega) HKN.out).1 (HZ.out (k : Int) (by omega) HKN.out).2 (by rw [← HZZ.out]; exact HNE.out) (by rw [← HBO.out.1]; exact hk') (by rw [← HBO.out.2]; exact hb)
                          refine ⟨h3, fun _ => ?_, fun h => by cases h⟩
                          cases mo with
                          | true => have := hT.out.2.1 rfl; omega
                          | false => rw [← (hT.out.2.2 rfl).1]; exact h4)
                        clear hbv hbo hfo hLSn hFBn
                        cases bo with
                        | none =>
                          replace HV : _ = Value.int .i64 (-1) := HV
                          have hT5 := hide (hskip.out rfl)
                          subst HV
                          go_wp2_with fail
                          go_roundw
                          case rel => exact ⟨k + 1, mo, t', by omega, by first | rfl | trivial, by go_num, hLS5, hFB5, hT5⟩
                          case measure => simp [intOf]; omega
                        | some bk =>
                          replace HV : _ = Value.int .i64 (bk : Int) := HV
                          have hLSs := hide (hLS5.out.set (k := bk) hlt hlen.out)
                          have hFBs := hide (hFB5.out.set (m := g) (o := k) rfl (.int .i64 (bk : Int)))
                          cases fo with
                          | none =>
                            replace cl1 : wr.cell? ⟨g, k, none⟩ = some (.int .i64 (-1)) := cl1
                            have hT5 := hide (hput.out bk rfl rfl)
                            subst HV
                            go_wp2_with fail
                            go_roundw
                            case rel => exact ⟨k + 1, true, _, by omega, by first | rfl | trivial, by go_num, hLSs, hFBs, hT5⟩
                            case measure => simp [intOf]; omega
                          | some fk =>
                            replace cl1 : wr.cell? ⟨g, k, none⟩ = some (.int .i64 (fk : Int)) := cl1
                            by_cases hbf : bk < fk
                            · have hT5 := hide (hput.out bk rfl (by simp [betB, hbf]))
                              subst HV
                              go_wp2_with fail
                              go_roundw
                              case rel => exact ⟨k + 1, true, _, by omega, by first | rfl | trivial, by go_num, hLSs, hFBs, hT5⟩
                              case measure => simp [intOf]; omega
                            · have hT5 := hide (hskip.out (by simp [betB, hbf]))
                              subst HV
                              go_wp2_with fail
                              go_roundw
                              case rel => exact ⟨k + 1, mo, t', by omega, by first | rfl | trivial, by go_num, hLS5, hFB5, hT5⟩
                              case measure => simp [intOf]; omega
                  · have hbg2 : ¬ ((k : Int) < (N : Int)) := by omega
                    have hbs : Hid (bstO N cs 1 t' (k : Int) = bstF t' 0 none nl) := hide (by rw [hbst.out, hcost.out, hbeg.out]; simp [hz0, hbg])
                    clear hbst hbeg hcost
                    go_wp2_with fail
                    refine (specNear_any N k HN1.out (by omega) (by omega) HKN.out _).mono ?_
                    rw [← HNL.out]
                    rintro e wn ⟨an, cn, rfl, hon, hbn⟩
                    have hIn := hide (intsAt_of_ownsRow hon)
                    have hLSn := hide (hLS.out.keep hbn)
                    have hFBn := hide (hFB.out.trans (FarB.of_below (S := fun _ => False) hbn) (fun j e _ => e.elim))
                    have hBn2 := hide (hBr2.out.trans (hbn.mono hBr2.out.size))
                    have hbxn := hide (box_keep hbxr.out hbn)
                    clear hon hbn hLS hFB hBr2 hbxr c0 c1 hcell
                    go_wp2_with fail
                    go_loopw [12, 14] (fun bv i wi => ∃ j : Nat, j ≤ nl.length ∧ i = .int .i64 j ∧ Hid (bv = .int .i64 (encM (bstF t' 0 none (nl.take j)))) ∧ Hid (Below wn.heap.size wn wi)) (fun _ i _ => nl.length - (intOf i).toNat)
                    case atStart => exact ⟨0, Nat.zero_le _, rfl, hide rfl, hide (Below.refl _ _)⟩
                    case round =>
                      obtain ⟨j, hj, rfl, hbv, hBi⟩ := hrel
                      by_cases hlj : j < nl.length
                      · obtain ⟨b2, off2, y, rfl, hcell2, hy⟩ := (IntsAt.keep hIn.out hBi.out).one hlj
                        obtain ⟨y0, y1⟩ := near_in HN1.out (show (0 : Int) ≤ (k : Int) by omega) HKN.out (by rw [← HNL.out]; exact mem_of_get hy.out)
                        obtain ⟨Y, rfl⟩ := Int.eq_ofNat_of_zero_le y0
                        have hYL : Y < L := by have := HMUL.out; omega
                        have hcl := ((hLSn.out.keep hBi.out).cell hYL).1
                        have hnt : Hid (bstF t' 0 none (nl.take (j + 1)) = bstS t' 0 (bstF t' 0 none (nl.take j)) (Y : Int)) := hide (by rw [List.take_add_one, hy.out]; exact bstF_snoc _ _ _ _ _)
                        have h64 : ∀ f, tbAt t' (Y : Int) = some f → f ≤ 64 := fun f hf => by have := hT.out.1.le (by omega) hf; have := hlen.out; omega
                        obtain ⟨fo, hfo⟩ : ∃ fo, fo = tbAt t' (Y : Int) := ⟨_, rfl⟩
                        rw [← hfo] at hcl h64
                        obtain ⟨bo, hbo⟩ : ∃ bo, bo = bstF t' 0 none (nl.take j) := ⟨_, rfl⟩
                        rw [← hbo] at hbv hnt
                        have HFO := hide hfo
                        have HV := hbv.out
                        clear hy y0 y1 hfo hbo hbv
                        cases fo with
                        | none =>
                          have hn5 : Hid (bstF t' 0 none (nl.take (j + 1)) = bo) := hide (by rw [hnt.out]; unfold bstS; rw [← HFO.out])
                          replace hcl : wr.cell? ⟨g, Y, none⟩ = some (.int .i64 (-1)) := hcl
                          clear h64
                          subst HV
                          go_wp2_with fail
                          go_roundw
                          case rel => exact ⟨j + 1, by omega, by go_num, hide (by first | (rw [hn5.out]; done) | (rw [hn5.out, Int.add_zero])), hBi⟩
                          case measure => simp [intOf]; omega
                        | some f =>
                          have hf64 := h64 f rfl
                          replace hcl : wr.cell? ⟨g, Y, none⟩ = some (.int .i64 (f : Int)) := hcl
                          clear h64
                          cases bo with
                          | none =>
                            have hn5 : Hid (encM (bstF t' 0 none (nl.take (j + 1))) = (f : Int) + 0) := hide (by rw [hnt.out]; unfold bstS; rw [← HFO.out]; rfl)
                            replace HV : _ = Value.int .i64 (-1) := HV
                            subst HV
                            go_wp2_with fail
                            go_roundw
                            case rel => exact ⟨j + 1, by omega, by go_num, hide (by first | (rw [hn5.out]; done) | (rw [hn5.out, Int.add_zero])), hBi⟩
                            case measure => simp [intOf]; omega
                          | some b0 =>
                            replace HV : _ = Value.int .i64 (b0 : Int) := HV
                            by_cases hfb : f + 0 < b0
                            · have hn5 : Hid (encM (bstF t' 0 none (nl.take (j + 1))) = (f : Int) + 0) := hide (by rw [hnt.out]; unfold bstS; rw [← HFO.out]; simp only []; rw [if_pos hfb]; rfl)
                              have hfbi : (f : Int) + 0 < (b0 : Int) := by omega
                              subst HV
                              go_wp2_with fail
                              go_roundw
                              case rel => exact ⟨j + 1, by omega, by go_num, hide (by first | (rw [hn5.out]; done) | (rw [hn5.out, Int.add_zero])), hBi⟩
                              case measure => simp [intOf]; omega
                            · have hn5 : Hid (encM (bstF t' 0 none (nl.take (j + 1))) = (b0 : Int)) := hide (by rw [hnt.out]; unfold bstS; rw [← HFO.out]; simp only []; rw [if_neg hfb]; rfl)
                              have hfbi : ¬ ((f : Int) + 0 < (b0 : Int)) := by omega
                              subst HV
                              go_wp2_with fail
                              go_roundw
                              case rel => exact ⟨j + 1, by omega, by go_num, hide (by first | (rw [hn5.out]; done) | (rw [hn5.out, Int.add_zero])), hBi⟩
                              case measure => simp [intOf]; omega
                      · obtain rfl : j = nl.length := by omega
                        rw [List.take_length, ← hbs.out] at hbv
                        have hLS5 := hide (hLSn.out.keep hBi.out)
                        have hFB5 := hide (hFBn.out.trans (FarB.of_below (S := fun _ => False) hBi.out) (fun j e _ => e.elim))
                        obtain ⟨cl1, cl2⟩ := hLS5.out.cell hlt
                        obtain ⟨bo, hbo⟩ : ∃ bo, bo = bstO N cs 1 t' (k : Int) := ⟨_, rfl⟩
                        rw [← hbo] at hbv
                        obtain ⟨fo, hfo⟩ : ∃ fo, fo = tbAt t' (k : Int) := ⟨_, rfl⟩
                        rw [← hfo] at cl1
                        have HV := hbv.out
                        have HBO := hide (And.intro hbo hfo)
                        have hskip : Hid (betB bo fo = false → (Tab N cs 1 t' ∧ (mo = true → mass t' < mass t) ∧ (mo = false → t' = t ∧ ∀ c : Nat, c < k + 1 → hexAt cs (c : Int) ≠ 3 - 1 → betB (bstO N cs 1 t (c : Int)) (tbAt t (c : Int)) = false))) := hide (fun hb => ⟨hT.out.1, hT.out.2.1, fun h => ⟨(hT.out.2.2 h).1, fun c hc hne => by
                          by_cases e : c = k
                          · subst e
                            have et := (hT.out.2.2 h).1
                            rw [← et, ← HBO.out.1, ← HBO.out.2]; exact hb
                          · exact (hT.out.2.2 h).2 c (by omega) hne⟩⟩)
                        have hput : Hid (∀ k', bo = some k' → betB (some k') fo = true → (Tab N cs 1 (t'.set (k : Int).toNat (some k')) ∧ (true = true → mass (t'.set (k : Int).toNat (some k')) < mass t) ∧ (true = false → t'.set (k : Int).toNat (some k') = t ∧ ∀ c : Nat, c < k + 1 → hexAt cs (c : Int) ≠ 3 - 1 → betB (bstO N cs 1 t (c : Int)) (tbAt t (c : Int)) = false))) := hide (fun k' hk' hb => by
                          obtain ⟨h3, h4⟩ := bst_put HN1.out (by omega) (by decide) hT.out.1 (by omega) HKN.out (HZ.out (k : Int) (by omega) HKN.out).1 (HZ.out (k : Int) (by omega) HKN.out).2 (by rw [← HZZ.out]; exact HNE.out) (by rw [← HBO.out.1]; exact hk') (by rw [← HBO.out.2]; exact hb)
                          refine ⟨h3, fun _ => ?_, fun h => by cases h⟩
                          cases mo with
                          | true => have := hT.out.2.1 rfl; omega
                          | false => rw [← (hT.out.2.2 rfl).1]; exact h4)
                        clear hbv hbo hfo hLSn hFBn
                        cases bo with
                        | none =>
                          replace HV : _ = Value.int .i64 (-1) := HV
                          have hT5 := hide (hskip.out rfl)
                          subst HV
                          go_wp2_with fail
                          go_roundw
                          case rel => exact ⟨k + 1, mo, t', by omega, by first | rfl | trivial, by go_num, hLS5, hFB5, hT5⟩
                          case measure => simp [intOf]; omega
                        | some bk =>
                          replace HV : _ = Value.int .i64 (bk : Int) := HV
                          have hLSs := hide (hLS5.out.set (k := bk) hlt hlen.out)
                          have hFBs := hide (hFB5.out.set (m := g) (o := k) rfl (.int .i64 (bk : Int)))
                          cases fo with
                          | none =>
                            replace cl1 : wr.cell? ⟨g, k, none⟩ = some (.int .i64 (-1)) := cl1
                            have hT5 := hide (hput.out bk rfl rfl)
                            subst HV
                            go_wp2_with fail
                            go_roundw
                            case rel => exact ⟨k + 1, true, _, by omega, by first | rfl | trivial, by go_num, hLSs, hFBs, hT5⟩
                            case measure => simp [intOf]; omega
                          | some fk =>
                            replace cl1 : wr.cell? ⟨g, k, none⟩ = some (.int .i64 (fk : Int)) := cl1
                            by_cases hbf : bk < fk
                            · have hT5 := hide (hput.out bk rfl (by simp [betB, hbf]))
                              subst HV
                              go_wp2_with fail
                              go_roundw
                              case rel => exact ⟨k + 1, true, _, by omega, by first | rfl | trivial, by go_num, hLSs, hFBs, hT5⟩
                              case measure => simp [intOf]; omega
                            · have hT5 := hide (hskip.out (by simp [betB, hbf]))
                              subst HV
                              go_wp2_with fail
                              go_roundw
                              case rel => exact ⟨k + 1, mo, t', by omega, by first | rfl | trivial, by go_num, hLS5, hFB5, hT5⟩
                              case measure => simp [intOf]; omega
            · obtain rfl : L = k := by omega
              have hT5 : Hid (Tab N cs 1 t' ∧ (mo = false → Still N cs 1 t')) := hide ⟨hT.out.1, fun h => by
                obtain ⟨e, h2⟩ := hT.out.2.2 h
                rw [e]
                refine still_pass HN1.out (by decide) HZ.out (fun c c0 c1 hne => ?_)
                obtain ⟨i, rfl⟩ := Int.eq_ofNat_of_zero_le c0
                exact h2 i (by rw [HMUL.out] at c1; omega) hne⟩
              have hm5 : mass t' * 2 + (if mo = true then 1 else 0) + 1 ≤ gk := by
                have h1 := hms.out
                cases mo with
                | true => have := hT.out.2.1 rfl; simp; omega
                | false => rw [(hT.out.2.2 rfl).1]; simp; omega
              have HM5 := hide hm5
              clear hT hm5
              go_wp2_with fail
              go_roundg (gk - 1)
              case measure => have := HM5.out; omega
              case rel => exact ⟨mo, t', by first | rfl | trivial, hLS, hFB, hT5, by have := HM5.out; omega⟩
end Go.Proofs.Ytogfoahejgmfgaa
