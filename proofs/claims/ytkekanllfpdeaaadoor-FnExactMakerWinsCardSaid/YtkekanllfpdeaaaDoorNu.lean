/-
  MakerWins: the model's text; l07Small, l07Running.
-/
import Derived.Test.YtkekanllfpdeaaaDoorNt
import Derived.Deep.RegionHeld3
namespace Go.Proofs.YtkekanllfpdeaaaDoor
open Go.RowKit
set_option linter.unusedVariables false

set_option maxHeartbeats 1000000 in
theorem small_any (n : Int) (a : Option Addr) (c : Nat) (cs : List Int) (W : World) (ha : IntsAt W a cs) (hl : cs.length ≤ 1048576) :
    Calls Tryd.prog 63 #[.agg #[.int .i64 n, .slice a cs.length c]] W (RetB (.int .i64 (codeL n cs)) W) := by
  obtain ⟨W0, hW0⟩ : ∃ W0, W0 = W.alloc (.cells #[.int .i64 n, .slice a cs.length c] 28) := ⟨_, rfl⟩
  have hB0 : Hid (Below W.heap.size W W0) := by rw [hW0]; exact hide (below_alloc _ _)
  have hX0 : Hid (HexIn W0 W.heap.size n a cs.length c) := by rw [hW0]; exact hide (hexIn_new _ _ _ _ _ _)
  have hA0 := hide (ha.keep hB0.out)
  obtain ⟨c0, c1⟩ := hX0.out
  obtain ⟨b, hb⟩ : ∃ b, b = okB n cs := ⟨_, rfl⟩
  have HI : Hid (Calls Tryd.prog 56 #[.agg #[.int .i64 n, .slice a cs.length c]] W0 (RetB (.bool b) W0)) := hide (l07Is_is hb.symm hA0.out hl)
  clear ha
  cases b
  · have HR : Hid (codeL n cs = 1) := hide (by unfold codeL; rw [← hb]; rfl)
    rw [HR.out]
    clear hb
    go_enter Tryd.func63, Tryd.ntmps63
    go_wp2_with fail
    rw [← hW0]
    clear hW0
    (try go_wp2_with fail)
    refine (HI.out).mono ?_
    rintro e w1 ⟨rfl, hb1⟩
    have hB1 := hide (Below.trans' hB0.out hb1)
    clear hb1
    go_wp2_with fail
    go_ret
    exact ⟨rfl, hB1.out⟩
  · by_cases h9 : n ≤ 9
    · have HR : Hid (codeL n cs = 0) := hide (by unfold codeL; rw [← hb, if_pos rfl, if_pos h9])
      rw [HR.out]
      have hgt : ¬ (9 < n) := by omega
      clear hb
      go_enter Tryd.func63, Tryd.ntmps63
      go_wp2_with fail
      rw [← hW0]
      clear hW0
      (try go_wp2_with fail)
      refine (HI.out).mono ?_
      rintro e w1 ⟨rfl, hb1⟩
      have hB1 := hide (Below.trans' hB0.out hb1)
      have hX1 := hide (hX0.out.keep hb1)
      clear hb1 c0 c1
      obtain ⟨c0, c1⟩ := hX1.out
      go_wp2_with fail
      go_ret
      exact ⟨rfl, hB1.out⟩
    · have HR : Hid (codeL n cs = 3) := hide (by unfold codeL; rw [← hb, if_pos rfl, if_neg h9])
      rw [HR.out]
      have hgt : 9 < n := by omega
      clear hb
      go_enter Tryd.func63, Tryd.ntmps63
      go_wp2_with fail
      rw [← hW0]
      clear hW0
      (try go_wp2_with fail)
      refine (HI.out).mono ?_
      rintro e w1 ⟨rfl, hb1⟩
      have hB1 := hide (Below.trans' hB0.out hb1)
      have hX1 := hide (hX0.out.keep hb1)
      clear hb1 c0 c1
      obtain ⟨c0, c1⟩ := hX1.out
      go_wp2_with fail
      go_ret
      exact ⟨rfl, hB1.out⟩

theorem fil_zero {n : Int} {cs : List Int} (h : okB n cs = true) : fil cs 0 = false := by
  unfold fil
  rw [List.any_eq_false]
  intro l hl
  obtain ⟨z0, _, _⟩ := okB_mem h hl
  unfold subB
  simp only [decide_eq_true_eq]
  intro e
  have : diffI l 0 = l := by
    unfold diffI
    simp
    omega
  omega

set_option maxRecDepth 100000 in
set_option maxHeartbeats 4000000 in
theorem specMk_any (n : Int) (a : Option Addr) (c : Nat) (cs : List Int) (W : World) (ha : IntsAt W a cs) (hl : cs.length ≤ 1048576) :
    Calls Tryd.prog 19 #[.agg #[.int .i64 n, .slice a cs.length c]] W (RetB (.tuple #[.bool (mkR n cs).1, .int .i64 (mkR n cs).2]) W) := by
  obtain ⟨W0, hW0⟩ : ∃ W0, W0 = W.alloc (.cells #[.int .i64 n, .slice a cs.length c] 28) := ⟨_, rfl⟩
  have hB0 : Hid (Below W.heap.size W W0) := by rw [hW0]; exact hide (below_alloc _ _)
  have hX0 : Hid (HexIn W0 W.heap.size n a cs.length c) := by rw [hW0]; exact hide (hexIn_new _ _ _ _ _ _)
  have hA0 := hide (ha.keep hB0.out)
  obtain ⟨c0, c1⟩ := hX0.out
  obtain ⟨r, hr⟩ : ∃ r, r = codeL n cs := ⟨_, rfl⟩
  have HC : Hid (Calls Tryd.prog 63 #[.agg #[.int .i64 n, .slice a cs.length c]] W0 (RetB (.int .i64 r) W0)) := hide (by rw [hr]; exact small_any n a c cs W0 hA0.out hl)
  by_cases h0 : r = 0
  · obtain ⟨hok, hn⟩ := codeL_zero (by rw [← hr]; exact h0)
    obtain ⟨x, hx⟩ : ∃ x, x = decide (lvM n cs 0 0 = 1) := ⟨_, rfl⟩
    have HR : Hid (mkR n cs = (x, 0)) := hide (by unfold mkR; rw [← hr, if_pos h0, ← hx])
    have HTB := hide (fun V : World => table_any n a cs.length c hn V)
    have HVA : Hid (∀ (bK M : Nat) (V : World), (M : Int) = pow3 n.toNat → KnT (valMk n cs) n a cs bK V → Calls Tryd.prog 64 #[.agg #[.int .i64 n, .slice a cs.length c], .int .i64 0, .int .i64 0, .slice (some ⟨bK, 0, none⟩) M M] V (RetK bK (KnT (valMk n cs) n a cs bK) (.bool x) V)) := hide (fun bK M V hM hk => by rw [hx]; exact maker_any n a c cs hok bK M hM _ 0 0 V (st_zero hn) (fil_zero hok) rfl hk)
    rw [HR.out]
    subst h0
    clear hr ha hok hn hx
    go_enter Tryd.func19, Tryd.ntmps19
    go_wp2_with fail
    rw [← hW0]
    clear hW0
    (try go_wp2_with fail)
    refine HC.out.mono ?_
    rintro e w1 ⟨rfl, hb1⟩
    have hB1 := hide (Below.trans' hB0.out hb1)
    have hX1 := hide (hX0.out.keep hb1)
    have hA1 := hide (hA0.out.keep hb1)
    have hl1 : W.heap.size < w1.heap.size := hX1.out.lt
    clear hb1 c0 c1
    obtain ⟨c0, c1⟩ := hX1.out.keep (Below.drew (Below.refl _ _))
    go_wp2_with fail
    go_region_held3 (fun W' => W'.cell? ⟨W.heap.size, 0, none⟩ = some (.int .i64 n) ∧ W'.cell? ⟨W.heap.size, 1, none⟩ = some (.slice a cs.length c)) (first | exact ⟨c0, c1⟩ | exact ⟨y0, y1⟩ | exact ⟨k0', k1'⟩) ((first | (go_at_call 65; (with_reducible refine (HTB.out _).mono ?_); rintro e w2 ⟨bK, M, rfl, hM, hbK', hkt, hb2'⟩; have hb2 : Below w1.heap.size w1 w2 := Below.trans' (Below.drew (Below.refl _ _)) hb2'; have hbK : w1.heap.size ≤ bK := hbK'; have HK2 := hide (hkt (valMk n cs) a cs (hA1.out.keep (Below.drew (Below.refl _ _)))); have HMM := hide hM; have hB2 := hide (Below.trans' hB1.out hb2); (obtain ⟨y0, y1⟩ := hX1.out.keep hb2); clear hkt hM hb2 hb2' hbK') | (go_at_call 64; (with_reducible refine (HVA.out _ _ _ HMM.out HK2.out).mono ?_); rintro e w3 ⟨rfl, hbut3, hk3⟩; have HBUT3 := hide hbut3; have k0' := hbut3.cell y0 (by show W.heap.size ≠ bK; omega); have k1' := hbut3.cell y1 (by show W.heap.size ≠ bK; omega); clear hbut3 hk3)))
    all_goals
      go_wp2_with fail
      go_ret2
      exact ⟨rfl, below_but hB2.out HBUT3.out (by omega)⟩
  · have HR : Hid (mkR n cs = (false, r)) := hide (by unfold mkR; rw [← hr, if_neg h0])
    rw [HR.out]
    have e0 : (r != 0) = true := by simp [h0]
    clear hr ha h0
    go_enter Tryd.func19, Tryd.ntmps19
    go_wp2_with fail
    rw [← hW0]
    clear hW0
    (try go_wp2_with fail)
    refine HC.out.mono ?_
    rintro e w1 ⟨rfl, hb1⟩
    have hB1 := hide (Below.trans' hB0.out hb1)
    clear hb1
    go_wp2_with fail
    go_ret2
    exact ⟨rfl, hB1.out⟩

/-! ### l07Running -/
theorem codeR_fil (n : Int) (cs : List Int) (F S : Int) : codeR n cs F S = if codeS n cs F S = 0 then (if (fil cs F || fil cs S || decide (orI F S = allI n)) = true then 5 else if 9 < n then 3 else 0) else codeS n cs F S := by
  unfold codeR endR
  by_cases h : codeS n cs F S = 0
  · rw [if_pos h, if_pos h]
    cases fil cs F
    · cases fil cs S
      · by_cases e : orI F S = allI n
        · simp [e]
        · simp only [Bool.false_eq_true, if_false, if_neg e, Option.isSome_none, Bool.false_or, decide_eq_true_eq]
          by_cases h9 : n ≤ 9
          · rw [if_pos h9, if_neg (by omega)]
          · rw [if_neg h9, if_pos (by omega)]
      · simp
    · simp
  · rw [if_neg h, if_neg h]

set_option maxRecDepth 100000 in
set_option maxHeartbeats 4000000 in
theorem running_any (n : Int) (a : Option Addr) (c : Nat) (cs : List Int) (F S : Int) (W : World) (ha : IntsAt W a cs) (hl : cs.length ≤ 1048576) :
    Calls Tryd.prog 69 #[.agg #[.int .i64 n, .slice a cs.length c], .int .i64 F, .int .i64 S] W (RetB (.int .i64 (codeR n cs F S)) W) := by
  obtain ⟨W0, hW0⟩ : ∃ W0, W0 = W.alloc (.cells #[.int .i64 n, .slice a cs.length c] 28) := ⟨_, rfl⟩
  have hB0 : Hid (Below W.heap.size W W0) := by rw [hW0]; exact hide (below_alloc _ _)
  have hX0 : Hid (HexIn W0 W.heap.size n a cs.length c) := by rw [hW0]; exact hide (hexIn_new _ _ _ _ _ _)
  have hA0 := hide (ha.keep hB0.out)
  obtain ⟨c0, c1⟩ := hX0.out
  obtain ⟨r, hr⟩ : ∃ r, r = codeS n cs F S := ⟨_, rfl⟩
  have HC : Hid (Calls Tryd.prog 124 #[.agg #[.int .i64 n, .slice a cs.length c], .int .i64 F, .int .i64 S] W0 (RetB (.int .i64 r) W0)) := hide (by rw [hr]; exact l07Sets_any n a c cs F S W0 hA0.out hl)
  obtain ⟨y, hy⟩ : ∃ y, y = codeR n cs F S := ⟨_, rfl⟩
  have HY := hide (show y = _ from hy.trans (codeR_fil n cs F S))
  rw [← hy]
  by_cases h0 : r = 0
  · obtain ⟨hok, hF, hS, _⟩ := codeS_zero (by rw [← hr]; exact h0)
    have hn := (okB_parts hok).1
    have hp16 := nn16 hn
    have f1 : F < 65536 := by omega
    have s1 : S < 65536 := by omega
    have HY2 : Hid (y = (if (fil cs F || fil cs S || decide (orI F S = allI n)) = true then 5 else if 9 < n then 3 else 0)) := hide (by rw [HY.out, ← hr, if_pos h0])
    have HFF : Hid (∀ V : World, Below W0.heap.size W0 V → Calls Tryd.prog 75 #[.agg #[.int .i64 n, .slice a cs.length c], .int .i64 F] V (RetB (.bool (fil cs F)) V)) := hide (fun V hv => fills_any n a c cs F (sets_of hok) hF.1 f1 V (hA0.out.keep hv) hl)
    have HFS : Hid (∀ V : World, Below W0.heap.size W0 V → Calls Tryd.prog 75 #[.agg #[.int .i64 n, .slice a cs.length c], .int .i64 S] V (RetB (.bool (fil cs S)) V)) := hide (fun V hv => fills_any n a c cs S (sets_of hok) hS.1 s1 V (hA0.out.keep hv) hl)
    have ho := or_walkI (x := F) (y := S) hF.1 (by omega) hS.1 (by omega)
    obtain ⟨o, hoo⟩ : ∃ o, o = orI F S := ⟨_, rfl⟩
    obtain ⟨m, hm⟩ : ∃ m, m = allI n := ⟨_, rfl⟩
    have hm2 : (2 : Int) ^ n.toNat - 1 = m := hm.symm
    have hm16 := allI_16 hn
    rw [← hm] at hm16
    obtain ⟨m0, m1⟩ := hm16
    have hpw := shl_16 hn.2
    have hku := u64_small (k := n) (by omega) (by omega)
    obtain ⟨n1, n16⟩ := hn
    rw [← hoo] at ho
    rw [← hoo, ← hm] at HY2
    subst h0
    clear hr ha hok hF hS hp16 hoo hm f1 s1 hy
    go_enter Tryd.func69, Tryd.ntmps69
    go_wp2_with fail
    rw [← hW0]
    clear hW0
    (try go_wp2_with fail)
    refine HC.out.mono ?_
    rintro e w1 ⟨rfl, hb1⟩
    have hB1 := hide (Below.trans' hB0.out hb1)
    have hb1' := hide hb1
    have hX1 := hide (hX0.out.keep hb1)
    clear hb1 c0 c1
    obtain ⟨c0, c1⟩ := hX1.out
    go_wp2_with fail
    refine (HFF.out _ hb1'.out).mono ?_
    rintro e w2 ⟨rfl, hb2⟩
    have hB2 := hide (Below.trans' hB1.out hb2)
    have hb2' := hide (Below.trans' hb1'.out hb2)
    have hX2 := hide (hX1.out.keep hb2)
    clear hb2 c0 c1
    obtain ⟨c0, c1⟩ := hX2.out
    cases hfF : fil cs F
    · rw [hfF] at HY2
      clear hfF
      go_wp2_with fail
      refine (HFS.out _ hb2'.out).mono ?_
      rintro e w3 ⟨rfl, hb3⟩
      have hB3 := hide (Below.trans' hB2.out hb3)
      have hX3 := hide (hX2.out.keep hb3)
      clear hb3 c0 c1
      obtain ⟨c0, c1⟩ := hX3.out
      cases hfS : fil cs S
      · rw [hfS] at HY2
        clear hfS
        by_cases hom : o = m
        · have HE : Hid (y = 5) := hide (by rw [HY2.out, hom]; simp)
          have e1 : (o == m) = true := by simp [hom]
          clear hom
          go_wp2_with fail
          go_ret
          exact ⟨by rw [HE.out]; rfl, hB3.out⟩
        · have e1 : (o == m) = false := by simp [hom]
          by_cases h9 : 9 < n
          · have HE : Hid (y = 3) := hide (by rw [HY2.out]; simp [hom, h9])
            clear hom
            go_wp2_with fail
            go_ret
            exact ⟨by rw [HE.out]; rfl, hB3.out⟩
          · have HE : Hid (y = 0) := hide (by rw [HY2.out]; simp [hom, h9])
            clear hom
            go_wp2_with fail
            go_ret
            exact ⟨by rw [HE.out]; rfl, hB3.out⟩
      · rw [hfS] at HY2
        have HE : Hid (y = 5) := hide (by rw [HY2.out]; simp)
        clear hfS
        go_wp2_with fail
        go_ret
        exact ⟨by rw [HE.out]; rfl, hB3.out⟩
    · rw [hfF] at HY2
      have HE : Hid (y = 5) := hide (by rw [HY2.out]; simp)
      clear hfF
      go_wp2_with fail
      go_ret
      exact ⟨by rw [HE.out]; rfl, hB2.out⟩
  · have HE : Hid (y = r) := hide (by rw [HY.out, ← hr, if_neg h0])
    have e0 : (r == 0) = false := by simp [h0]
    clear hr ha h0 hy
    go_enter Tryd.func69, Tryd.ntmps69
    go_wp2_with fail
    rw [← hW0]
    clear hW0
    (try go_wp2_with fail)
    refine HC.out.mono ?_
    rintro e w1 ⟨rfl, hb1⟩
    have hB1 := hide (Below.trans' hB0.out hb1)
    clear hb1
    go_wp2_with fail
    go_ret
    exact ⟨by rw [HE.out]; rfl, hB1.out⟩
end Go.Proofs.YtkekanllfpdeaaaDoor
