/-
  PlayRace: the model's text.
-/
import Derived.Test.YtkekanllfpdeaaaDoorNd
import Derived.Test.YtkekanllfpdeaaaDoorNe
namespace Go.Proofs.YtkekanllfpdeaaaDoor
open Go.RowKit
set_option linter.unusedVariables false

set_option maxRecDepth 100000 in
set_option maxHeartbeats 8000000 in
theorem specPl_any (n : Int) (a : Option Addr) (c : Nat) (cs : List Int) (W : World) (ha : IntsAt W a cs) (hl : cs.length ≤ 1048576) :
    Calls Tryd.prog 29 #[.agg #[.int .i64 n, .slice a cs.length c]] W (NewList (plR n cs) W) := by
  obtain ⟨i0, hi0, hz0, hz1, hz2⟩ := info_parts Tryd.info2
  obtain ⟨W0, hW0⟩ : ∃ W0, W0 = W.alloc (.cells #[.int .i64 n, .slice a cs.length c] 28) := ⟨_, rfl⟩
  have hB0 : Hid (Below W.heap.size W W0) := by rw [hW0]; exact hide (below_alloc _ _)
  have hX0 : Hid (HexIn W0 W.heap.size n a cs.length c) := by rw [hW0]; exact hide (hexIn_new _ _ _ _ _ _)
  have hA0 := hide (ha.keep hB0.out)
  obtain ⟨c0, c1⟩ := hX0.out
  obtain ⟨r, hr⟩ : ∃ r, r = codeL n cs := ⟨_, rfl⟩
  have HC : Hid (Calls Tryd.prog 63 #[.agg #[.int .i64 n, .slice a cs.length c]] W0 (RetB (.int .i64 r) W0)) := hide (by rw [hr]; exact small_any n a c cs W0 hA0.out hl)
  by_cases h0 : r = 0
  · obtain ⟨hok, hn⟩ := codeL_zero (by rw [← hr]; exact h0)
    have HST0 := hide (st_zero hn)
    have HTB := hide (fun V : World => table_any n a cs.length c hn V)
    have hSets := hide (sets_of hok)
    obtain ⟨n1, n9⟩ := hn
    obtain ⟨PR, hPR⟩ : ∃ PR, PR = play n cs 0 0 := ⟨_, rfl⟩
    have HPR := hide hPR
    have HR : Hid (plR n cs = (PR, 0)) := hide (by unfold plR; rw [← hr, if_pos h0, hPR])
    have HFI : Hid (∀ (bK : Nat) (s : Int) (V : World), 0 ≤ s → s < 65536 → KnT (valRc n cs) n a cs bK V → Calls Tryd.prog 75 #[.agg #[.int .i64 n, .slice a cs.length c], .int .i64 s] V (RetB (.bool (fil cs s)) V)) := hide (fun bK s V h1 h2 hk => fills_any n a c cs s hSets.out h1 h2 V hk.ints hl)
    have HBE : Hid (∀ (bK M : Nat) (F S : Int) (V : World), (M : Int) = pow3 n.toNat → St n F S → fil cs F = false → fil cs S = false → KnT (valRc n cs) n a cs bK V → Calls Tryd.prog 73 #[.agg #[.int .i64 n, .slice a cs.length c], .int .i64 F, .int .i64 S, .slice (some ⟨bK, 0, none⟩) M M] V (NewLK bK (KnT (valRc n cs) n a cs bK) (bestL n cs F S) V)) := hide (fun bK M F S V hM hst hf hg hk => l07Best_any n a c cs hok bK M hM F S hst hf hg V hk)
    rw [HR.out]
    subst h0
    clear hr hok hPR ha
    go_enter Tryd.func29, Tryd.ntmps29
    go_wp2_with fail
    rw [← hW0]
    clear hW0
    (try go_wp2_with fail)
    refine HC.out.mono ?_
    rintro e w1 ⟨rfl, hb1⟩
    have hB1 := hide (Below.trans' hB0.out hb1)
    have hX1 := hide (hX0.out.keep hb1)
    have hA1 := hide (hA0.out.keep hb1)
    have hl1 : W.heap.size < w1.heap.size := hX1.out.lt
    clear hb1 c0 c1
    obtain ⟨c0, c1⟩ := hX1.out
    go_wp2_with fail
    refine (HTB.out _).mono ?_
    rintro e w2 ⟨bK, M, rfl, hM, hbK, hkt, hb2⟩
    have HM := hide hM
    have HK2 := hide (hkt (valRc n cs) a cs hA1.out)
    have hB2 := hide (Below.trans' hB1.out hb2)
    have hX2 := hide (hX1.out.keep hb2)
    have hk2 := HK2.out.lt
    have hs2 := hb2.size
    have HK3 := hide (HK2.out.keep (below_alloc w2 (.cells #[] 2)))
    have HO3 : Hid (OwnB w2.heap.size bK w2 (w2.alloc (.cells #[] 2)) (.slice (some ⟨w2.heap.size, 0, none⟩) 0 0) []) := hide (OwnB.made (ButB.refl _ _ _) (Nat.le_refl _))
    have HALT : Hid (cs ≠ [] → ∀ g off, a = some ⟨g, off, none⟩ → g < w2.heap.size) := hide (fun hne g off e => by
      obtain ⟨b, o, hb, hlt⟩ := CellsAt.lt HK2.out.ints (by simpa using hne)
      rw [hb] at e
      simp only [Option.some.injEq, Addr.mk.injEq] at e
      omega)
    have nX : W.heap.size ≠ bK := by omega
    have hWZ : W.heap.size < w2.heap.size := by omega
    have HWK : Hid (W.heap.size ≤ bK) := hide (by omega)
    clear hM hkt hb2 c0 c1
    go_wp2_with fail
    obtain ⟨g0, hg0⟩ : ∃ g, g = freeN n 0 0 := ⟨_, rfl⟩
    have HG0 : Hid (freeN n 0 0 = g0 ∧ (g0 : Int) = n) := hide ⟨hg0.symm, by
      rw [hg0]
      have h1 : frees n 0 0 = pre (fun _ => true) n.toNat := by
        unfold frees
        exact pre_congr (fun i _ => by unfold isFree; rw [show orI 0 0 = 0 by decide, drawn_zero]; rfl)
      have h2 : ∀ k : Nat, (pre (fun _ => true) k).length = k := fun k => by
        unfold pre
        rw [List.filter_eq_self.2 (fun _ _ => rfl), List.length_map, List.length_range]
      unfold freeN
      rw [h1, h2]
      omega⟩
    clear hg0
    go_loopg [6, 7, 8] g0 (fun g v6 v7 v8 wr => ∃ (PL : List Int) (F S : Int) (v0 : Value), v0 = v6 ∧ v7 = .int .i64 F ∧ v8 = .int .i64 S ∧ St n F S ∧ freeN n F S = g ∧ PL ++ play n cs F S = PR ∧ (PL.length : Int) + g = n ∧ t1 F S = decide (PL.length % 2 = 0) ∧ OwnB w2.heap.size bK w2 wr v6 PL ∧ KnT (valRc n cs) n a cs bK wr)
    case atStart => exact ⟨[], 0, 0, _, rfl, rfl, rfl, HST0.out, HG0.out.1, by rw [HPR.out]; rfl, by simpa using HG0.out.2, by decide, HO3.out, HK3.out⟩
    case round =>
      clear HO3 HK3
      obtain ⟨PL, F, S, v, rfl, rfl, rfl, hst, hfr, hpl, hlen, hpar, hO, hK⟩ := hrel
      have HST := hide hst
      have HPL := hide hpl
      have HFR := hide hfr
      have HPAR := hide hpar
      have HO := hide hO
      have HK := hide hK
      obtain ⟨e0, e1, e2, e3⟩ := hst.lt
      obtain ⟨d0', d1'⟩ := hX2.out
      have c0 := (World.cell?_of_block (hO.old.block W.heap.size hWZ nX)).trans d0'
      have c1 := (World.cell?_of_block (hO.old.block W.heap.size hWZ nX)).trans d1'
      have hHX : HexIn wr W.heap.size n a cs.length c := ⟨c0, c1⟩
      have HHX := hide hHX
      have HFIN : Hid (play n cs F S = [] → ∃ av cv, v = .slice av PL.length cv ∧ NewList (PR, 0) W (.returned (.tuple #[.slice av PL.length cv, .int .i64 0])) wr) := hide (fun he => by
        have hpe : PL = PR := by rw [← hpl, he, List.append_nil]
        obtain ⟨av, cv, rfl⟩ := own_form hO.own
        exact ⟨av, cv, rfl, av, cv, by rw [hpe], by rw [← hpe]; exact ownsRow_base hO.own (by omega), below_but hB2.out hO.old.but HWK.out⟩)
      clear hst hfr hpl hpar hO hK d0' d1' hHX
      cases gk with
      | zero =>
        have hpe : play n cs F S = [] := by unfold play; rw [HFR.out]; rfl
        obtain ⟨av, cv, rfl, hfin⟩ := HFIN.out hpe
        have HF2 := hide hfin
        have hle : ¬ ((PL.length : Int) < n) := by omega
        clear hpe hfin
        obtain ⟨m, hm⟩ : ∃ m, m = PL.length := ⟨_, rfl⟩
        rw [← hm] at hle HF2 ⊢
        clear hm hlen
        go_wp2_with fail
        go_ret2
        exact HF2.out
      | succ g =>
        have hlt : (PL.length : Int) < n := by omega
        have hnf : ¬ orI F S = allI n := fun e => by
          have := (free_of_zero HST.out).2 e
          have := HFR.out
          omega
        have HF1 : Hid (∀ V : World, KnT (valRc n cs) n a cs bK V → Calls Tryd.prog 75 #[.agg #[.int .i64 n, .slice a cs.length c], .int .i64 F] V (RetB (.bool (fil cs F)) V)) := hide (fun V hk => HFI.out bK F V e0 (by omega) hk)
        have HF2 : Hid (∀ V : World, KnT (valRc n cs) n a cs bK V → Calls Tryd.prog 75 #[.agg #[.int .i64 n, .slice a cs.length c], .int .i64 S] V (RetB (.bool (fil cs S)) V)) := hide (fun V hk => HFI.out bK S V e2 (by omega) hk)
        obtain ⟨av, cv, rfl⟩ := own_form HO.out.own
        have HLEN := hide hlen
        obtain ⟨m, hm⟩ : ∃ m, m = PL.length := ⟨_, rfl⟩
        have HMM := hide hm
        rw [← hm] at hlt ⊢
        clear hlen hm
        cases hfF : fil cs F
        · cases hfS : fil cs S
          · have hen : endR n cs F S = none := by
              unfold endR
              rw [hfF, hfS, if_neg (by simp), if_neg (by simp), if_neg hnf]
            have hne := bestL_ne HST.out hen
            cases hbl : bestL n cs F S with
            | nil => exact absurd hbl hne
            | cons y jr =>
              have hmem : y ∈ frees n F S := by
                have : y ∈ bestL n cs F S := by rw [hbl]; exact List.mem_cons_self
                exact (List.mem_filter.1 this).1
              obtain ⟨z0, z1, _⟩ := frees_mem hmem
              obtain ⟨h1, h3, h4⟩ := HST.out.move hmem
              have hpl2 : (PL ++ [y]) ++ play n cs (mF F S y) (mS F S y) = PR := by
                rw [← HPL.out, play_go HST.out hen hbl]
                simp
              have HHB : Hid (∀ V : World, KnT (valRc n cs) n a cs bK V → Calls Tryd.prog 73 #[.agg #[.int .i64 n, .slice a cs.length c], .int .i64 F, .int .i64 S, .slice (some ⟨bK, 0, none⟩) M M] V (NewLK bK (KnT (valRc n cs) n a cs bK) (y :: jr) V)) := hide (fun V hk => by rw [← hbl]; exact HBE.out bK M F S V HM.out HST.out hfF hfS hk)
              have HFR2 : Hid (freeN n (mF F S y) (mS F S y) = g) := hide (by have := HFR.out; omega)
              have HPL2 := hide hpl2
              have HST2 := hide h1
              obtain ⟨j, hj⟩ : ∃ j : Nat, y = j := ⟨y.toNat, by omega⟩
              subst hj
              have hj64 : j < 64 := by omega
              have pw2 := (pow_nat_small (j := j) (by omega)).2.2
              have hku := u64_small (show (0 : Int) ≤ (j : Int) by omega) (by omega)
              have hoF := or_own (F := F) (j := j) e0 (by omega) (by omega)
              have hoS := or_own (F := S) (j := j) e2 (by omega) (by omega)
              have HPAR2 : Hid (t1 (mF F S j) (mS F S j) = decide ((m + 1) % 2 = 0)) := hide (by
                rw [h4, HPAR.out, HMM.out]
                by_cases e : PL.length % 2 = 0
                · rw [decide_eq_true e]; symm; simp; omega
                · rw [decide_eq_false e]; symm; simp; omega)
              have HLEN2 : Hid (((PL ++ [(j : Int)]).length : Int) + g = n) := hide (by have := HLEN.out; rw [List.length_append]; simp; omega)
              have hm9 : m ≤ 9 := by omega
              rw [hfF] at HF1
              rw [hfS] at HF2
              clear HFIN hen hne hbl hmem h1 h3 h4 hpl2 hfF hfS hnf z1
              go_wp2_with fail
              refine (HF1.out _ HK.out).mono ?_
              rintro e w4 ⟨rfl, hb4⟩
              have HK4 := hide (HK.out.keep hb4)
              have HO4 := hide (HO.out.keep (by omega) (But.of_below hb4))
              have hX4 := hide (HHX.out.keep hb4)
              clear hb4 c0 c1
              obtain ⟨c0, c1⟩ := hX4.out
              go_wp2_with fail
              refine (HF2.out _ HK4.out).mono ?_
              rintro e w5 ⟨rfl, hb5⟩
              have HK5 := hide (HK4.out.keep hb5)
              have HO5 := hide (HO4.out.keep (by omega) (But.of_below hb5))
              have hX5 := hide (hX4.out.keep hb5)
              clear hb5 c0 c1
              obtain ⟨c0, c1⟩ := hX5.out
              go_wp2_with fail
              refine (HHB.out _ HK5.out).mono ?_
              rintro e w6 ⟨a6, c6, rfl, ho6, hb6, hk6⟩
              have HK6 := hide hk6
              have hO6 := HO5.out.keep (by omega) hb6
              have HO6 := hide hO6
              obtain ⟨bl, off, y, rfl, hci, hi'⟩ := (intsAt_of_ownsRow ho6).one (k := 0) (by simp)
              obtain rfl : y = (j : Int) := by have := hi'.out; simp at this; exact this.symm
              have hci' : w6.cell? ⟨bl, off, none⟩ = some (.int .i64 (j : Int)) := by simpa using hci
              have hown6 := hO6.own
              have hsz6 := hO6.size
              have hrl : (0 : Int) < (((j : Int) :: jr).length : Int) := by simp
              obtain ⟨nb, hnb⟩ : ∃ nb, nb = ((j : Int) :: jr).length := ⟨_, rfl⟩
              rw [← hnb] at hrl ⊢
              have hmr : (m : Int).tmod 2 = ((m % 2 : Nat) : Int) := by rw [Int.tmod_eq_emod_of_nonneg (by omega)]; omega
              have hmr2 : (m : Int) % 2 = ((m % 2 : Nat) : Int) := by omega
              have hmln : PL.length ≤ 9 := by rw [← HMM.out]; exact hm9
              clear ho6 hb6 hk6 hO6 hci hi' hnb c0 c1
              cases htt : t1 F S
              · have hmm : mF F S j = F ∧ mS F S j = withE S j := by simp [mF, mS, htt]
                have hz1' : m % 2 = 1 := by
                  have := HPAR.out
                  rw [htt] at this
                  have h9 : ¬ PL.length % 2 = 0 := by simpa using this
                  rw [HMM.out]
                  omega
                rw [hz1'] at hmr hmr2
                rw [hmm.1, hmm.2] at HFR2 HPL2 HST2 HPAR2
                obtain ⟨bb, hbb⟩ : ∃ bb, bb = withE S j := ⟨_, rfl⟩
                rw [← hbb] at hoS HFR2 HPL2 HST2 HPAR2
                clear htt hmm hbb hz1' hoF
                rw [HMM.out] at hlt hmr hmr2 HPAR2 hm9 ⊢
                go_wp2_with (at_builtin; refine wpList_append_own _ rfl _ _ 22 rfl (w2.heap.size) 2 i0 (.int .i64 0) 1 8 Tryd.underlying22 hi0 hz0 hz1 hz2 rfl (by decide) _ _ _ rfl (hown6.alloc _) ⟨w6.heap.size, 0, none⟩ 1 1 [.int .i64 j] rfl rfl (cell_one_new _ _ _) (by simp [Value.oneCell']) (by unfold maxLen; omega) (by omega) (by simp; omega) ?_)
                intro v' w7 hown' hgrow _
                have HO7 := hide (HO6.out.snoc (by simpa using hown') hgrow)
                have HK7 := hide (HK6.out.turn (HO6.out.blockAny (by omega) HK6.out.lt hgrow) (HO6.out.intsOf HK6.out.ints HALT.out hgrow))
                clear hown' hgrow hown6 hci'
                go_wp2_with fail
                go_roundg g
                case rel => exact ⟨PL ++ [(j : Int)], F, bb, _, rfl, rfl, rfl, HST2.out, HFR2.out, HPL2.out, HLEN2.out, by rw [HPAR2.out, List.length_append]; rfl, HO7.out, HK7.out⟩
                case measure => omega
              · have hmm : mF F S j = withE F j ∧ mS F S j = S := by simp [mF, mS, htt]
                have hz1' : m % 2 = 0 := by
                  have := HPAR.out
                  rw [htt] at this
                  have h9 : PL.length % 2 = 0 := by simpa using this.symm
                  rw [HMM.out]
                  omega
                rw [hz1'] at hmr hmr2
                rw [hmm.1, hmm.2] at HFR2 HPL2 HST2 HPAR2
                obtain ⟨bb, hbb⟩ : ∃ bb, bb = withE F j := ⟨_, rfl⟩
                rw [← hbb] at hoF HFR2 HPL2 HST2 HPAR2
                clear htt hmm hbb hz1' hoS
                rw [HMM.out] at hlt hmr hmr2 HPAR2 hm9 ⊢
                go_wp2_with (at_builtin; refine wpList_append_own _ rfl _ _ 22 rfl (w2.heap.size) 2 i0 (.int .i64 0) 1 8 Tryd.underlying22 hi0 hz0 hz1 hz2 rfl (by decide) _ _ _ rfl (hown6.alloc _) ⟨w6.heap.size, 0, none⟩ 1 1 [.int .i64 j] rfl rfl (cell_one_new _ _ _) (by simp [Value.oneCell']) (by unfold maxLen; omega) (by omega) (by simp; omega) ?_)
                intro v' w7 hown' hgrow _
                have HO7 := hide (HO6.out.snoc (by simpa using hown') hgrow)
                have HK7 := hide (HK6.out.turn (HO6.out.blockAny (by omega) HK6.out.lt hgrow) (HO6.out.intsOf HK6.out.ints HALT.out hgrow))
                clear hown' hgrow hown6 hci'
                go_wp2_with fail
                go_roundg g
                case rel => exact ⟨PL ++ [(j : Int)], bb, S, _, rfl, rfl, rfl, HST2.out, HFR2.out, HPL2.out, HLEN2.out, by rw [HPAR2.out, List.length_append]; rfl, HO7.out, HK7.out⟩
                case measure => omega
          · have hen : endR n cs F S = some (-1) := by unfold endR; rw [hfF, hfS]; rfl
            obtain ⟨av', cv', hv', hfin⟩ := HFIN.out (play_end hen)
            obtain ⟨rfl, _, rfl⟩ : av = av' ∧ True ∧ cv = cv' := by
              simp only [Value.slice.injEq] at hv'
              exact ⟨hv'.1, trivial, hv'.2.2⟩
            have HFF : Hid (∀ V : World, Below wr.heap.size wr V → NewList (PR, 0) W (.returned (.tuple #[.slice av m cv, .int .i64 0])) V) := hide (fun V hv => by
              obtain ⟨a9, c9, q1, q2, q3⟩ := hfin
              exact ⟨a9, c9, by rw [HMM.out]; exact q1, ownsRow_keep q2 hv, q3.trans (hv.mono q3.size)⟩)
            rw [hfF] at HF1
            rw [hfS] at HF2
            clear HFIN hen hfF hfS hfin hv' hnf
            go_wp2_with fail
            refine (HF1.out _ HK.out).mono ?_
            rintro e w4 ⟨rfl, hb4⟩
            have HK4 := hide (HK.out.keep hb4)
            have hX4 := hide (HHX.out.keep hb4)
            have hb4' := hide hb4
            clear hb4 c0 c1
            obtain ⟨c0, c1⟩ := hX4.out
            go_wp2_with fail
            refine (HF2.out _ HK4.out).mono ?_
            rintro e w5 ⟨rfl, hb5⟩
            have hb5' := hide (Below.trans' hb4'.out hb5)
            clear hb5 c0 c1
            go_wp2_with fail
            go_ret2
            exact HFF.out _ hb5'.out
        · have hen : endR n cs F S = some 1 := by unfold endR; rw [hfF]; rfl
          obtain ⟨av', cv', hv', hfin⟩ := HFIN.out (play_end hen)
          obtain ⟨rfl, _, rfl⟩ : av = av' ∧ True ∧ cv = cv' := by
            simp only [Value.slice.injEq] at hv'
            exact ⟨hv'.1, trivial, hv'.2.2⟩
          have HFF : Hid (∀ V : World, Below wr.heap.size wr V → NewList (PR, 0) W (.returned (.tuple #[.slice av m cv, .int .i64 0])) V) := hide (fun V hv => by
            obtain ⟨a9, c9, q1, q2, q3⟩ := hfin
            exact ⟨a9, c9, by rw [HMM.out]; exact q1, ownsRow_keep q2 hv, q3.trans (hv.mono q3.size)⟩)
          rw [hfF] at HF1
          clear HFIN hen hfF hfin hv' hnf
          go_wp2_with fail
          refine (HF1.out _ HK.out).mono ?_
          rintro e w4 ⟨rfl, hb4⟩
          have hb4' := hide hb4
          clear hb4 c0 c1
          go_wp2_with fail
          go_ret2
          exact HFF.out _ hb4'.out
  · have HR : Hid (plR n cs = ([], r)) := hide (by unfold plR; rw [← hr, if_neg h0])
    rw [HR.out]
    have e0 : (r != 0) = true := by simp [h0]
    clear hr ha h0
    go_enter Tryd.func29, Tryd.ntmps29
    go_wp2_with fail
    rw [← hW0]
    clear hW0
    (try go_wp2_with fail)
    refine HC.out.mono ?_
    rintro e w1 ⟨rfl, hb1⟩
    have hB1 := hide (Below.trans' hB0.out hb1)
    clear hb1
    go_wp2_with fail
    go_ret2
    exact newList_nil hB1.out
end Go.Proofs.YtkekanllfpdeaaaDoor
