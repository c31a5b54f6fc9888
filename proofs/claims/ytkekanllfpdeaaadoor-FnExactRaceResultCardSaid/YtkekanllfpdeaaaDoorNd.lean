/-
  RaceResult, BestNodes: the model's text; l07Best.
-/
import Derived.Test.YtkekanllfpdeaaaDoorNq
import Derived.Test.YtkekanllfpdeaaaDoorNp
import Derived.Deep.RegionHeld3
namespace Go.Proofs.YtkekanllfpdeaaaDoor
open Go.RowKit
set_option linter.unusedVariables false

set_option maxRecDepth 100000 in
set_option maxHeartbeats 4000000 in
theorem specRr_any (n : Int) (a : Option Addr) (c : Nat) (cs : List Int) (F S : Int) (W : World) (ha : IntsAt W a cs) (hl : cs.length ≤ 1048576) :
    Calls Tryd.prog 21 #[.agg #[.int .i64 n, .slice a cs.length c], .int .i64 F, .int .i64 S] W (RetB (.tuple #[.int .i64 (rrR n cs F S).1, .int .i64 (rrR n cs F S).2]) W) := by
  obtain ⟨W0, hW0⟩ : ∃ W0, W0 = W.alloc (.cells #[.int .i64 n, .slice a cs.length c] 28) := ⟨_, rfl⟩
  have hB0 : Hid (Below W.heap.size W W0) := by rw [hW0]; exact hide (below_alloc _ _)
  have hX0 : Hid (HexIn W0 W.heap.size n a cs.length c) := by rw [hW0]; exact hide (hexIn_new _ _ _ _ _ _)
  have hA0 := hide (ha.keep hB0.out)
  obtain ⟨c0, c1⟩ := hX0.out
  obtain ⟨r, hr⟩ : ∃ r, r = codeR n cs F S := ⟨_, rfl⟩
  have HC : Hid (Calls Tryd.prog 69 #[.agg #[.int .i64 n, .slice a cs.length c], .int .i64 F, .int .i64 S] W0 (RetB (.int .i64 r) W0)) := hide (by rw [hr]; exact running_any n a c cs F S W0 hA0.out hl)
  by_cases h0 : r = 0
  · obtain ⟨hcs, hen, hn9⟩ := codeR_zero (by rw [← hr]; exact h0)
    have hst := st_of_code hcs hn9
    obtain ⟨hok, _⟩ := codeS_zero hcs
    have hfg : fil cs F = false ∧ fil cs S = false := by
      unfold endR at hen
      cases h1 : fil cs F <;> cases h2 : fil cs S <;> simp [h1, h2] at hen ⊢
    obtain ⟨x, hx⟩ : ∃ x, x = sgn F S (lvR n cs F S) := ⟨_, rfl⟩
    have HR : Hid (rrR n cs F S = (x, 0)) := hide (by unfold rrR; rw [← hr, if_pos h0, ← hx])
    have HTB := hide (fun V : World => table_any n a cs.length c hst.nn V)
    have HVA : Hid (∀ (bK M : Nat) (V : World), (M : Int) = pow3 n.toNat → KnT (valRc n cs) n a cs bK V → Calls Tryd.prog 70 #[.agg #[.int .i64 n, .slice a cs.length c], .int .i64 F, .int .i64 S, .slice (some ⟨bK, 0, none⟩) M M] V (RetK bK (KnT (valRc n cs) n a cs bK) (.int .i64 x) V)) := hide (fun bK M V hM hk => by rw [hx]; exact race_any n a c cs hok bK M hM _ F S V hst hfg.1 hfg.2 rfl hk)
    rw [HR.out]
    subst h0
    clear hr ha hok hx hst hcs hen hfg
    go_enter Tryd.func21, Tryd.ntmps21
    go_wp2_with fail
    rw [← hW0]
    clear hW0
    (try go_wp2_with fail)
    refine HC.out.mono ?_
    rintro e w1 ⟨rfl, hb1⟩
    have hB1 := hide (Below.trans' hB0.out hb1)
    have hX1 := hide (hX0.out.keep hb1)
    have hA1 := hide (hA0.out.keep hb1)
    have hl1 : W.heap.size < w1.heap.size := hX1.out.lt
    clear hb1 c0 c1
    obtain ⟨c0, c1⟩ := hX1.out.keep (Below.drew (Below.refl _ _))
    go_wp2_with fail
    go_region_held3 (fun W' => W'.cell? ⟨W.heap.size, 0, none⟩ = some (.int .i64 n) ∧ W'.cell? ⟨W.heap.size, 1, none⟩ = some (.slice a cs.length c)) (first | exact ⟨c0, c1⟩ | exact ⟨y0, y1⟩ | exact ⟨k0', k1'⟩) ((first | (go_at_call 65; (with_reducible refine (HTB.out _).mono ?_); rintro e w2 ⟨bK, M, rfl, hM, hbK', hkt, hb2'⟩; have hb2 : Below w1.heap.size w1 w2 := Below.trans' (Below.drew (Below.refl _ _)) hb2'; have hbK : w1.heap.size ≤ bK := hbK'; have HK2 := hide (hkt (valRc n cs) a cs (hA1.out.keep (Below.drew (Below.refl _ _)))); have HMM := hide hM; have hB2 := hide (Below.trans' hB1.out hb2); (obtain ⟨y0, y1⟩ := hX1.out.keep hb2); clear hkt hM hb2 hb2' hbK') | (go_at_call 70; (with_reducible refine (HVA.out _ _ _ HMM.out HK2.out).mono ?_); rintro e w3 ⟨rfl, hbut3, hk3⟩; have HBUT3 := hide hbut3; have k0' := hbut3.cell y0 (by show W.heap.size ≠ bK; omega); have k1' := hbut3.cell y1 (by show W.heap.size ≠ bK; omega); clear hbut3 hk3)))
    all_goals
      go_wp2_with fail
      go_ret2
      exact ⟨rfl, below_but hB2.out HBUT3.out (by omega)⟩
  · have HR : Hid (rrR n cs F S = (0, r)) := hide (by unfold rrR; rw [← hr, if_neg h0])
    rw [HR.out]
    have e0 : (r != 0) = true := by simp [h0]
    clear hr ha h0
    go_enter Tryd.func21, Tryd.ntmps21
    go_wp2_with fail
    rw [← hW0]
    clear hW0
    (try go_wp2_with fail)
    refine HC.out.mono ?_
    rintro e w1 ⟨rfl, hb1⟩
    have hB1 := hide (Below.trans' hB0.out hb1)
    clear hb1
    go_wp2_with fail
    go_ret2
    exact ⟨rfl, hB1.out⟩

/-! ### l07Best -/
theorem sgn_beq (F S x y : Int) : (sgn F S x == sgn F S y) = (x == y) := by
  unfold sgn
  cases t1 F S
  · simp only [Bool.false_eq_true, if_false]
    by_cases e : x = y
    · simp [e]
    · rw [beq_eq_false_iff_ne.2 (show -x ≠ -y by omega), beq_eq_false_iff_ne.2 e]
  · simp
theorem OwnB.made {B n : Nat} {W0 w : World} (h : ButB B n W0 w) (hs : B ≤ w.heap.size) : OwnB B n W0 (w.alloc (.cells #[] 2)) (.slice (some ⟨w.heap.size, 0, none⟩) 0 0) [] := by
  refine ⟨⟨rfl, .inr ⟨w.heap.size, 0, #[], rfl, hs, heap_alloc_new w _, Nat.le_refl _, by unfold maxLen; omega, rfl, rfl⟩⟩, h.alloc hs _, by simp; omega⟩
theorem preF_yes {p q : Int → Bool} {j : Nat} (h : p j = true) (hq : q j = true) : (pre p (j + 1)).filter q = (pre p j).filter q ++ [(j : Int)] := by rw [pre_yes h, List.filter_append]; simp [hq]
theorem preF_no {p q : Int → Bool} {j : Nat} (h : p j = true) (hq : q j = false) : (pre p (j + 1)).filter q = (pre p j).filter q := by rw [pre_yes h, List.filter_append]; simp [hq]

set_option maxRecDepth 100000 in
set_option maxHeartbeats 4000000 in
theorem l07Best_any (n : Int) (a : Option Addr) (c : Nat) (cs : List Int) (hok : okB n cs = true) (bK M : Nat) (hM : (M : Int) = pow3 n.toNat) (F S : Int) (hst : St n F S) (hf : fil cs F = false) (hg : fil cs S = false) (W : World) (hT : KnT (valRc n cs) n a cs bK W) :
    Calls Tryd.prog 73 #[.agg #[.int .i64 n, .slice a cs.length c], .int .i64 F, .int .i64 S, .slice (some ⟨bK, 0, none⟩) M M] W (NewLK bK (KnT (valRc n cs) n a cs bK) (bestL n cs F S) W) := by
  obtain ⟨i0, hi0, hz0, hz1, hz2⟩ := info_parts Tryd.info2
  have hn := hst.nn
  obtain ⟨f0, f1, s0, s1⟩ := hst.lt
  obtain ⟨W0, hW0⟩ : ∃ W0, W0 = W.alloc (.cells #[.int .i64 n, .slice a cs.length c] 28) := ⟨_, rfl⟩
  have hB0 : Hid (Below W.heap.size W W0) := by rw [hW0]; exact hide (below_alloc _ _)
  have hX0 : Hid (HexIn W0 W.heap.size n a cs.length c) := by rw [hW0]; exact hide (hexIn_new _ _ _ _ _ _)
  have hbK : bK < W.heap.size := hT.lt
  have HT0 := hide (hT.keep hB0.out)
  obtain ⟨v, hv⟩ : ∃ v, v = sgn F S (lvR n cs F S) := ⟨_, rfl⟩
  have HRA : Hid (∀ V : World, KnT (valRc n cs) n a cs bK V → Calls Tryd.prog 70 #[.agg #[.int .i64 n, .slice a cs.length c], .int .i64 F, .int .i64 S, .slice (some ⟨bK, 0, none⟩) M M] V (RetK bK (KnT (valRc n cs) n a cs bK) (.int .i64 v) V)) := hide (fun V hk => by rw [hv]; exact race_any n a c cs hok bK M hM _ F S V hst hf hg rfl hk)
  have HBE : Hid (∀ (p : Int) (V : World), p ∈ frees n F S → KnT (valRc n cs) n a cs bK V → Calls Tryd.prog 125 #[.agg #[.int .i64 n, .slice a cs.length c], .int .i64 F, .int .i64 S, .int .i64 p, .slice (some ⟨bK, 0, none⟩) M M] V (RetK bK (KnT (valRc n cs) n a cs bK) (.int .i64 (gR n cs F S p)) V)) := hide (fun p V hp hk => behindAll_any n a c cs hok bK M hM F S hst hf hg p hp V hk)
  obtain ⟨q, hq⟩ : ∃ q : Int → Bool, q = fun p => lvR n cs (mF F S p) (mS F S p) == lvR n cs F S := ⟨_, rfl⟩
  have HQ : Hid (∀ p, q p = (gR n cs F S p == v)) := hide (fun p => by rw [hq, hv]; unfold gR; rw [sgn_beq])
  obtain ⟨bl, hbl⟩ : ∃ bl, bl = bestL n cs F S := ⟨_, rfl⟩
  have HBL : Hid (bl = (pre (isFree F S) n.toNat).filter q) := hide (by rw [hbl, hq]; rfl)
  rw [← hbl]
  obtain ⟨N, hN⟩ : ∃ N : Nat, n = N := ⟨n.toNat, by omega⟩
  have hN9 : N ≤ 9 := by omega
  have ho := or_walkI (x := F) (y := S) f0 (by omega) s0 (by omega)
  have hor := orI_range (n := 9) (x := F) (y := S) f0 (by omega) s0 (by omega)
  obtain ⟨o, hoo⟩ : ∃ o, o = orI F S := ⟨_, rfl⟩
  have HFO : Hid (∀ j : Nat, isFree F S j = !drawn o j) := hide (fun j => by rw [hoo]; rfl)
  rw [← hoo] at ho hor
  obtain ⟨o0, o1⟩ := hor
  obtain ⟨X0, X1⟩ := hX0.out
  clear hT hv hf hg hok hq hbl hoo hst hM
  subst hN
  rw [Int.toNat_natCast] at HBL
  go_enter Tryd.func73, Tryd.ntmps73
  go_wp2_with fail
  rw [← hW0]
  clear hW0
  (try go_wp2_with fail)
  refine (HRA.out _ HT0.out).mono ?_
  rintro e w1 ⟨rfl, hbut1, hk1⟩
  have HT1 := hide hk1
  have hX1 : Hid (HexIn w1 W.heap.size N a cs.length c) := hide ⟨hbut1.cell X0 (by show W.heap.size ≠ bK; omega), hbut1.cell X1 (by show W.heap.size ≠ bK; omega)⟩
  have HB1 := hide ((But.of_below (n := bK) hB0.out).trans hbut1)
  have hs1 : W.heap.size < w1.heap.size := hX1.out.lt
  have hO1 : Hid (OwnB w1.heap.size bK w1 (w1.alloc (.cells #[] 2)) (.slice (some ⟨w1.heap.size, 0, none⟩) 0 0) ((pre (isFree F S) 0).filter q)) := hide (OwnB.made (ButB.refl _ _ _) (Nat.le_refl _))
  have HT1a := hide (HT1.out.keep (below_alloc w1 (.cells #[] 2)))
  have HALT : Hid (cs ≠ [] → ∀ g off, a = some ⟨g, off, none⟩ → g < w1.heap.size) := hide (fun hne g off e => by
    obtain ⟨b, o, hb, hlt⟩ := CellsAt.lt HT1.out.ints (by simpa using hne)
    rw [hb] at e
    simp only [Option.some.injEq, Addr.mk.injEq] at e
    omega)
  clear hbut1 hk1 X0 X1
  go_wp2_with fail
  go_loopw [10, 11] (fun u i wr => ∃ (j : Nat) (v0 : Value), v0 = u ∧ j ≤ N ∧ i = .int .i64 j ∧ OwnB w1.heap.size bK w1 wr u ((pre (isFree F S) j).filter q) ∧ KnT (valRc N cs) N a cs bK wr) (fun _ i _ => N - (intOf i).toNat)
  case atStart => exact ⟨0, _, rfl, Nat.zero_le _, rfl, hO1.out, HT1a.out⟩
  case round =>
    clear hO1
    obtain ⟨j, u, rfl, hj, rfl, hO, hTr⟩ := hrel
    have HO := hide hO
    have HTR := hide hTr
    obtain ⟨d0, d1⟩ := hX1.out
    have c0 := (World.cell?_of_block (hO.old.block W.heap.size (by omega) (by omega))).trans d0
    have c1 := (World.cell?_of_block (hO.old.block W.heap.size (by omega) (by omega))).trans d1
    clear d0 d1
    by_cases hlt : j < N
    · have hdw := dg_walkL (E := o) (k := (j : Int)) o0 (by omega)
      rw [Int.toNat_natCast] at hdw
      have hku := u64_small (show (0 : Int) ≤ (j : Int) by omega) (by omega)
      have hlj : ((pre (isFree F S) j).filter q).length ≤ 9 := by
        have h1 := List.length_filter_le q (pre (isFree F S) j)
        have h2 := pre_le (isFree F S) j
        omega
      cases hdr : drawn o j
      · have hfree : isFree F S j = true := by rw [HFO.out, hdr]; rfl
        rw [dg_of_free hdr] at hdw
        have HME := hide (frees_mk (n := (N : Int)) (by simpa using hlt) hfree)
        have HFREE := hide hfree
        obtain ⟨x, hx⟩ : ∃ x, x = gR N cs F S j := ⟨_, rfl⟩
        have HQJ : Hid (q j = (x == v)) := hide (by rw [HQ.out, hx])
        have HVA : Hid (∀ V : World, KnT (valRc N cs) N a cs bK V → Calls Tryd.prog 125 #[.agg #[.int .i64 N, .slice a cs.length c], .int .i64 F, .int .i64 S, .int .i64 (j : Int), .slice (some ⟨bK, 0, none⟩) M M] V (RetK bK (KnT (valRc N cs) N a cs bK) (.int .i64 x) V)) := hide (fun V hk => by rw [hx]; exact HBE.out j V HME.out hk)
        clear hx hfree hdr hO hTr
        go_wp2_with fail
        refine (HVA.out _ HTR.out).mono ?_
        rintro e w5 ⟨rfl, hb5, hk5⟩
        have hO5 := HO.out.keep (by omega) hb5
        have HK5 := hide hk5
        have hown5 := hO5.own
        have hsz := hO5.size
        have HO5 := hide hO5
        clear hb5 hk5 c0 c1 hO5
        cases hxv : (x == v)
        · have HN := hide (preF_no (p := isFree F S) (q := q) HFREE.out (by rw [HQJ.out]; exact hxv))
          clear hown5
          go_wp2_with fail
          go_roundw
          case rel => exact ⟨j + 1, _, rfl, by omega, by go_num, by rw [HN.out]; exact HO5.out, HK5.out⟩
          case measure => simp [intOf]; omega
        · have HY := hide (preF_yes (p := isFree F S) (q := q) HFREE.out (by rw [HQJ.out]; exact hxv))
          go_wp2_with (at_builtin; refine wpList_append_own _ rfl _ _ 22 rfl (w1.heap.size) 2 i0 (.int .i64 0) 1 8 Tryd.underlying22 hi0 hz0 hz1 hz2 rfl (by decide) _ _ _ rfl (hown5.alloc _) ⟨w5.heap.size, 0, none⟩ 1 1 [.int .i64 j] rfl rfl (cell_one_new _ _ _) (by simp [Value.oneCell']) (by unfold maxLen; omega) (by omega) (by simp; omega) ?_)
          intro v' w7 hown' hgrow _
          have HO7 := hide (HO5.out.snoc (by simpa using hown') hgrow)
          have HK7 := hide (HK5.out.turn (HO5.out.blockAny (by omega) HK5.out.lt hgrow) (HO5.out.intsOf HK5.out.ints HALT.out hgrow))
          clear hown' hgrow hown5
          go_wp2_with fail
          go_roundw
          case rel => exact ⟨j + 1, _, rfl, by omega, by go_num, by rw [HY.out]; exact HO7.out, HK7.out⟩
          case measure => simp [intOf]; omega
      · have hfree : isFree F S j = false := by rw [HFO.out, hdr]; rfl
        rw [dg_of_drawn hdr] at hdw
        have HN : Hid ((pre (isFree F S) (j + 1)).filter q = (pre (isFree F S) j).filter q) := hide (by rw [pre_no hfree])
        clear hfree hdr hO hTr
        go_wp2_with fail
        go_roundw
        case rel => exact ⟨j + 1, _, rfl, by omega, by go_num, by rw [HN.out]; exact HO.out, HTR.out⟩
        case measure => simp [intOf]; omega
    · obtain rfl : j = N := by omega
      rw [← HBL.out] at hO
      have HFIN : Hid (NewLK bK (KnT (valRc j cs) j a cs bK) bl W (.returned u) wr) := by
        obtain ⟨av, cv, rfl⟩ := own_form hO.own
        exact hide ⟨av, cv, rfl, ownsRow_base hO.own HB1.out.size, HB1.out.trans hO.old.but, hTr⟩
      clear hO hTr
      go_wp2_with fail
      go_ret
      exact HFIN.out

set_option maxRecDepth 100000 in
set_option maxHeartbeats 4000000 in
theorem specBn_any (n : Int) (a : Option Addr) (c : Nat) (cs : List Int) (F S : Int) (W : World) (ha : IntsAt W a cs) (hl : cs.length ≤ 1048576) :
    Calls Tryd.prog 23 #[.agg #[.int .i64 n, .slice a cs.length c], .int .i64 F, .int .i64 S] W (NewList (bnR n cs F S) W) := by
  obtain ⟨W0, hW0⟩ : ∃ W0, W0 = W.alloc (.cells #[.int .i64 n, .slice a cs.length c] 28) := ⟨_, rfl⟩
  have hB0 : Hid (Below W.heap.size W W0) := by rw [hW0]; exact hide (below_alloc _ _)
  have hX0 : Hid (HexIn W0 W.heap.size n a cs.length c) := by rw [hW0]; exact hide (hexIn_new _ _ _ _ _ _)
  have hA0 := hide (ha.keep hB0.out)
  obtain ⟨c0, c1⟩ := hX0.out
  obtain ⟨r, hr⟩ : ∃ r, r = codeR n cs F S := ⟨_, rfl⟩
  have HC : Hid (Calls Tryd.prog 69 #[.agg #[.int .i64 n, .slice a cs.length c], .int .i64 F, .int .i64 S] W0 (RetB (.int .i64 r) W0)) := hide (by rw [hr]; exact running_any n a c cs F S W0 hA0.out hl)
  by_cases h0 : r = 0
  · obtain ⟨hcs, hen, hn9⟩ := codeR_zero (by rw [← hr]; exact h0)
    have hst := st_of_code hcs hn9
    obtain ⟨hok, _⟩ := codeS_zero hcs
    have hfg : fil cs F = false ∧ fil cs S = false := by
      unfold endR at hen
      cases h1 : fil cs F <;> cases h2 : fil cs S <;> simp [h1, h2] at hen ⊢
    obtain ⟨bl, hbl⟩ : ∃ bl, bl = bestL n cs F S := ⟨_, rfl⟩
    have HR : Hid (bnR n cs F S = (bl, 0)) := hide (by unfold bnR; rw [← hr, if_pos h0, hbl])
    have HTB := hide (fun V : World => table_any n a cs.length c hst.nn V)
    have HVA : Hid (∀ (bK M : Nat) (V : World), (M : Int) = pow3 n.toNat → KnT (valRc n cs) n a cs bK V → Calls Tryd.prog 73 #[.agg #[.int .i64 n, .slice a cs.length c], .int .i64 F, .int .i64 S, .slice (some ⟨bK, 0, none⟩) M M] V (NewLK bK (KnT (valRc n cs) n a cs bK) bl V)) := hide (fun bK M V hM hk => by rw [hbl]; exact l07Best_any n a c cs hok bK M hM F S hst hfg.1 hfg.2 V hk)
    rw [HR.out]
    subst h0
    clear hr ha hok hbl hst hcs hen hfg
    go_enter Tryd.func23, Tryd.ntmps23
    go_wp2_with fail
    rw [← hW0]
    clear hW0
    (try go_wp2_with fail)
    refine HC.out.mono ?_
    rintro e w1 ⟨rfl, hb1⟩
    have hB1 := hide (Below.trans' hB0.out hb1)
    have hX1 := hide (hX0.out.keep hb1)
    have hA1 := hide (hA0.out.keep hb1)
    have hl1 : W.heap.size < w1.heap.size := hX1.out.lt
    clear hb1 c0 c1
    obtain ⟨c0, c1⟩ := hX1.out.keep (Below.drew (Below.refl _ _))
    go_wp2_with fail
    go_region_held3 (fun W' => W'.cell? ⟨W.heap.size, 0, none⟩ = some (.int .i64 n) ∧ W'.cell? ⟨W.heap.size, 1, none⟩ = some (.slice a cs.length c)) (first | exact ⟨c0, c1⟩ | exact ⟨y0, y1⟩ | exact ⟨k0', k1'⟩) ((first | (go_at_call 65; (with_reducible refine (HTB.out _).mono ?_); rintro e w2 ⟨bK, M, rfl, hM, hbK', hkt, hb2'⟩; have hb2 : Below w1.heap.size w1 w2 := Below.trans' (Below.drew (Below.refl _ _)) hb2'; have hbK : w1.heap.size ≤ bK := hbK'; have HK2 := hide (hkt (valRc n cs) a cs (hA1.out.keep (Below.drew (Below.refl _ _)))); have HMM := hide hM; have hB2 := hide (Below.trans' hB1.out hb2); (obtain ⟨y0, y1⟩ := hX1.out.keep hb2); clear hkt hM hb2 hb2' hbK') | (go_at_call 73; (with_reducible refine (HVA.out _ _ _ HMM.out HK2.out).mono ?_); rintro e w3 ⟨a3, c3, rfl, ho3, hbut3, hk3⟩; have HBUT3 := hide hbut3; have HO3 := hide ho3; have k0' := hbut3.cell y0 (by show W.heap.size ≠ bK; omega); have k1' := hbut3.cell y1 (by show W.heap.size ≠ bK; omega); clear hbut3 hk3 ho3)))
    all_goals
      go_wp2_with fail
      go_ret2
      exact ⟨a3, c3, rfl, ownsRow_base HO3.out hB2.out.size, below_but hB2.out HBUT3.out (by omega)⟩
  · have HR : Hid (bnR n cs F S = ([], r)) := hide (by unfold bnR; rw [← hr, if_neg h0])
    rw [HR.out]
    have e0 : (r != 0) = true := by simp [h0]
    clear hr ha h0
    go_enter Tryd.func23, Tryd.ntmps23
    go_wp2_with fail
    rw [← hW0]
    clear hW0
    (try go_wp2_with fail)
    refine HC.out.mono ?_
    rintro e w1 ⟨rfl, hb1⟩
    have hB1 := hide (Below.trans' hB0.out hb1)
    clear hb1
    go_wp2_with fail
    go_ret2
    exact newList_nil hB1.out
end Go.Proofs.YtkekanllfpdeaaaDoor
