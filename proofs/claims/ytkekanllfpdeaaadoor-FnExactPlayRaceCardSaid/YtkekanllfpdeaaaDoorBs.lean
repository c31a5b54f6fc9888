/-
  IsState, checkState, l07Sets; FilledLine: both texts.
-/
import Derived.Test.YtkekanllfpdeaaaDoorBw
import Derived.Test.YtkekanllfpdeaaaDoorBg
namespace Go.Proofs.YtkekanllfpdeaaaDoor
open Go.RowKit
set_option linter.unusedVariables false

/-- The code of two sets. -/
def stOk (F S : Int) : Bool := decide (andI F S = 0) && (decide (ones F - ones S = 0) || decide (ones F - ones S = 1))
def codeS (n : Int) (cs : List Int) (F S : Int) : Int := if okB n cs = true then (if (setB F n.toNat && setB S n.toNat) = true then (if stOk F S = true then 0 else 5) else 2) else 1
def isR (n : Int) (cs : List Int) (F S : Int) : Bool × Int := if codeS n cs F S = 5 then (false, 0) else (decide (codeS n cs F S = 0), codeS n cs F S)
theorem codeS_cases (n : Int) (cs : List Int) (F S : Int) : codeS n cs F S = 0 ∨ codeS n cs F S = 1 ∨ codeS n cs F S = 2 ∨ codeS n cs F S = 5 := by
  unfold codeS
  split
  · split
    · split <;> simp
    · simp
  · simp
theorem codeS_zero {n : Int} {cs : List Int} {F S : Int} (h : codeS n cs F S = 0) : okB n cs = true ∧ (0 ≤ F ∧ F < 2 ^ n.toNat) ∧ (0 ≤ S ∧ S < 2 ^ n.toNat) ∧ andI F S = 0 ∧ (ones F = ones S ∨ ones F = ones S + 1) := by
  unfold codeS at h
  split at h
  · rename_i h1
    split at h
    · rename_i h2
      split at h
      · rename_i h3
        simp only [Bool.and_eq_true] at h2
        simp only [stOk, Bool.and_eq_true, Bool.or_eq_true, decide_eq_true_eq] at h3
        exact ⟨h1, setB_yes h2.1, setB_yes h2.2, h3.1, by omega⟩
      · omega
    · omega
  · omega
theorem set_inn {n F : Int} : setB F n.toNat = inn F 0 (allI n) := by
  unfold setB inn allI
  congr 1
  apply decide_eq_decide.2
  omega

set_option maxRecDepth 100000 in
set_option maxHeartbeats 4000000 in
theorem implIsS_any (n : Int) (a : Option Addr) (c : Nat) (cs : List Int) (F S : Int) (W : World) (ha : IntsAt W a cs) (hl : cs.length ≤ 1048576) :
    Calls Tryd.prog 169 #[.agg #[.int .i64 n, .slice a cs.length c], .int .i64 F, .int .i64 S] W (RetB (.tuple #[.bool (isR n cs F S).1, .int .i64 (isR n cs F S).2]) W) := by
  obtain ⟨W0, hW0⟩ : ∃ W0, W0 = W.alloc (.cells #[.int .i64 n, .slice a cs.length c] 28) := ⟨_, rfl⟩
  have hB0 : Hid (Below W.heap.size W W0) := by rw [hW0]; exact hide (below_alloc _ _)
  have hX0 : Hid (HexIn W0 W.heap.size n a cs.length c) := by rw [hW0]; exact hide (hexIn_new _ _ _ _ _ _)
  have hA0 := hide (ha.keep hB0.out)
  obtain ⟨c0, c1⟩ := hX0.out
  clear ha
  cases hok : okB n cs
  · have HR : Hid (isR n cs F S = (false, 1)) := hide (by simp [isR, codeS, hok])
    have HOK := hide hok
    rw [HR.out]
    clear hok
    go_enter Tryd.func169, Tryd.ntmps169
    go_wp2_with fail
    rw [← hW0]
    clear hW0
    refine (implIs_is HOK.out hA0.out hl).mono ?_
    rintro e w1 ⟨rfl, hb1⟩
    have hB1 := hide (Below.trans' hB0.out hb1)
    clear hb1
    go_wp2_with fail
    go_ret2
    exact ⟨rfl, hB1.out⟩
  · obtain ⟨hn, hk100, _⟩ := okB_parts hok
    obtain ⟨n1, n16⟩ := hn
    have HOK := hide hok
    cases hF : setB F n.toNat
    · have HR : Hid (isR n cs F S = (false, 2)) := hide (by simp [isR, codeS, hok, hF])
      have HF : Hid (∀ V : World, Calls Tryd.prog 220 #[.int .i64 F, .int .i64 n] V (RetB (.bool false) V)) := hide (fun V => isSet_is F n (by omega) (by omega) hF V)
      rw [HR.out]
      clear hok hF
      go_enter Tryd.func169, Tryd.ntmps169
      go_wp2_with fail
      rw [← hW0]
      clear hW0
      refine (implIs_is HOK.out hA0.out hl).mono ?_
      rintro e w1 ⟨rfl, hb1⟩
      have hB1 := hide (Below.trans' hB0.out hb1)
      have hX1 := hide (hX0.out.keep hb1)
      clear hb1 c0 c1
      obtain ⟨c0, c1⟩ := hX1.out
      go_wp2_with fail
      refine (HF.out _).mono ?_
      rintro e w2 ⟨rfl, hb2⟩
      have hB2 := hide (Below.trans' hB1.out hb2)
      clear hb2
      go_wp2_with fail
      go_ret2
      exact ⟨rfl, hB2.out⟩
    · have HF : Hid (∀ V : World, Calls Tryd.prog 220 #[.int .i64 F, .int .i64 n] V (RetB (.bool true) V)) := hide (fun V => isSet_is F n (by omega) (by omega) hF V)
      cases hS : setB S n.toNat
      · have HR : Hid (isR n cs F S = (false, 2)) := hide (by simp [isR, codeS, hok, hF, hS])
        have HS : Hid (∀ V : World, Calls Tryd.prog 220 #[.int .i64 S, .int .i64 n] V (RetB (.bool false) V)) := hide (fun V => isSet_is S n (by omega) (by omega) hS V)
        rw [HR.out]
        clear hok hF hS
        go_enter Tryd.func169, Tryd.ntmps169
        go_wp2_with fail
        rw [← hW0]
        clear hW0
        refine (implIs_is HOK.out hA0.out hl).mono ?_
        rintro e w1 ⟨rfl, hb1⟩
        have hB1 := hide (Below.trans' hB0.out hb1)
        have hX1 := hide (hX0.out.keep hb1)
        clear hb1 c0 c1
        obtain ⟨c0, c1⟩ := hX1.out
        go_wp2_with fail
        refine (HF.out _).mono ?_
        rintro e w2 ⟨rfl, hb2⟩
        have hB2 := hide (Below.trans' hB1.out hb2)
        have hX2 := hide (hX1.out.keep hb2)
        clear hb2 c0 c1
        obtain ⟨c0, c1⟩ := hX2.out
        go_wp2_with fail
        refine (HS.out _).mono ?_
        rintro e w3 ⟨rfl, hb3⟩
        have hB3 := hide (Below.trans' hB2.out hb3)
        clear hb3
        go_wp2_with fail
        go_ret2
        exact ⟨rfl, hB3.out⟩
      · have HS : Hid (∀ V : World, Calls Tryd.prog 220 #[.int .i64 S, .int .i64 n] V (RetB (.bool true) V)) := hide (fun V => isSet_is S n (by omega) (by omega) hS V)
        obtain ⟨f0, f1⟩ := setB_yes hF
        obtain ⟨s0, s1⟩ := setB_yes hS
        have hpw := nn16 ⟨n1, n16⟩
        have hF5 : F < 65536 := by omega
        have hS5 : S < 65536 := by omega
        have HR : Hid (isR n cs F S = (stOk F S, 0)) := hide (by
          have hc : codeS n cs F S = if stOk F S = true then 0 else 5 := by unfold codeS; rw [if_pos hok, hF, hS]; rfl
          unfold isR
          rw [hc]
          cases stOk F S <;> simp)
        obtain ⟨yF, hyF⟩ : ∃ y, y = ones F := ⟨_, rfl⟩
        obtain ⟨yS, hyS⟩ : ∃ y, y = ones S := ⟨_, rfl⟩
        obtain ⟨d, hd⟩ : ∃ d, d = andI F S := ⟨_, rfl⟩
        have hbw := and_walkI (x := F) (y := S) f0 (by omega) s0 (by omega)
        have rF := ones_range F
        have rS := ones_range S
        rw [← hyF] at rF
        rw [← hyS] at rS
        rw [← hd] at hbw
        have HCF : Hid (∀ V : World, Calls Tryd.prog 128 #[.int .i64 F] V (RetB (.int .i64 yF) V)) := hide (fun V => by rw [hyF]; exact countNodes_any F f0 hF5 V)
        have HCS : Hid (∀ V : World, Calls Tryd.prog 128 #[.int .i64 S] V (RetB (.int .i64 yS) V)) := hide (fun V => by rw [hyS]; exact countNodes_any S s0 hS5 V)
        obtain ⟨r, hr⟩ : ∃ r, r = stOk F S := ⟨_, rfl⟩
        have HRR : Hid (r = (decide (d = 0) && (decide (yF - yS = 0) || decide (yF - yS = 1)))) := hide (by rw [hr, hd, hyF, hyS]; rfl)
        rw [HR.out, ← hr]
        clear hok hF hS hpw hF5 hS5 hyF hyS hd hr f1 s1
        go_enter Tryd.func169, Tryd.ntmps169
        go_wp2_with fail
        rw [← hW0]
        clear hW0
        refine (implIs_is HOK.out hA0.out hl).mono ?_
        rintro e w1 ⟨rfl, hb1⟩
        have hB1 := hide (Below.trans' hB0.out hb1)
        have hX1 := hide (hX0.out.keep hb1)
        clear hb1 c0 c1
        obtain ⟨c0, c1⟩ := hX1.out
        go_wp2_with fail
        refine (HF.out _).mono ?_
        rintro e w2 ⟨rfl, hb2⟩
        have hB2 := hide (Below.trans' hB1.out hb2)
        have hX2 := hide (hX1.out.keep hb2)
        clear hb2 c0 c1
        obtain ⟨c0, c1⟩ := hX2.out
        go_wp2_with fail
        refine (HS.out _).mono ?_
        rintro e w3 ⟨rfl, hb3⟩
        have hB3 := hide (Below.trans' hB2.out hb3)
        clear hb3 c0 c1
        go_wp2_with fail
        refine (HCF.out _).mono ?_
        rintro e w4 ⟨rfl, hb4⟩
        have hB4 := hide (Below.trans' hB3.out hb4)
        clear hb4
        go_wp2_with fail
        refine (HCS.out _).mono ?_
        rintro e w5 ⟨rfl, hb5⟩
        have hB5 := hide (Below.trans' hB4.out hb5)
        clear hb5
        by_cases hd0 : d = 0
        · have e0 : (d == 0) = true := by simp [hd0]
          by_cases h0 : yF - yS = 0
          · have e1 : (yF - yS == 0) = true := by simp [h0]
            have hf : Hid (r = true) := hide (by rw [HRR.out]; simp [hd0, h0])
            clear hd0 h0
            go_wp2_with fail
            go_ret2
            exact ⟨by rw [hf.out]; rfl, hB5.out⟩
          · have e1 : (yF - yS == 0) = false := by simp [h0]
            by_cases h1 : yF - yS = 1
            · have e2 : (yF - yS == 1) = true := by simp [h1]
              have hf : Hid (r = true) := hide (by rw [HRR.out]; simp [hd0, h1])
              clear hd0 h0 h1
              go_wp2_with fail
              go_ret2
              exact ⟨by rw [hf.out]; rfl, hB5.out⟩
            · have e2 : (yF - yS == 1) = false := by simp [h1]
              have hf : Hid (r = false) := hide (by rw [HRR.out]; simp [h0, h1])
              clear hd0 h0 h1
              go_wp2_with fail
              go_ret2
              exact ⟨by rw [hf.out]; rfl, hB5.out⟩
        · have e0 : (d == 0) = false := by simp [hd0]
          have hf : Hid (r = false) := hide (by rw [HRR.out]; simp [hd0])
          clear hd0
          go_wp2_with fail
          go_ret2
          exact ⟨by rw [hf.out]; rfl, hB5.out⟩

set_option maxRecDepth 100000 in
set_option maxHeartbeats 4000000 in
theorem l07Sets_any (n : Int) (a : Option Addr) (c : Nat) (cs : List Int) (F S : Int) (W : World) (ha : IntsAt W a cs) (hl : cs.length ≤ 1048576) :
    Calls Tryd.prog 124 #[.agg #[.int .i64 n, .slice a cs.length c], .int .i64 F, .int .i64 S] W (RetB (.int .i64 (codeS n cs F S)) W) := by
  obtain ⟨W0, hW0⟩ : ∃ W0, W0 = W.alloc (.cells #[.int .i64 n, .slice a cs.length c] 28) := ⟨_, rfl⟩
  have hB0 : Hid (Below W.heap.size W W0) := by rw [hW0]; exact hide (below_alloc _ _)
  have hX0 : Hid (HexIn W0 W.heap.size n a cs.length c) := by rw [hW0]; exact hide (hexIn_new _ _ _ _ _ _)
  have hA0 := hide (ha.keep hB0.out)
  obtain ⟨c0, c1⟩ := hX0.out
  clear ha
  cases hok : okB n cs
  · have HR : Hid (codeS n cs F S = 1) := hide (by simp [codeS, hok])
    have HOK := hide hok
    rw [HR.out]
    clear hok
    go_enter Tryd.func124, Tryd.ntmps124
    go_wp2_with fail
    rw [← hW0]
    clear hW0
    refine (l07Is_is HOK.out hA0.out hl).mono ?_
    rintro e w1 ⟨rfl, hb1⟩
    have hB1 := hide (Below.trans' hB0.out hb1)
    clear hb1
    go_wp2_with fail
    go_ret
    exact ⟨rfl, hB1.out⟩
  · obtain ⟨hn, hk100, _⟩ := okB_parts hok
    obtain ⟨n1, n16⟩ := hn
    have HOK := hide hok
    obtain ⟨m, hm⟩ : ∃ m, m = allI n := ⟨_, rfl⟩
    have hm2 : (2 : Int) ^ n.toNat - 1 = m := hm.symm
    have hm16 : 0 ≤ m ∧ m < 65536 := by rw [hm]; exact allI_16 ⟨n1, n16⟩
    obtain ⟨m0, m1⟩ := hm16
    have hpw := shl_16 n16
    have hku := u64_small (k := n) (by omega) (by omega)
    cases hF : setB F n.toNat
    · have HR : Hid (codeS n cs F S = 2) := hide (by simp [codeS, hok, hF])
      have HF : Hid (∀ V : World, Calls Tryd.prog 110 #[.int .i64 F, .int .i64 0, .int .i64 m] V (RetB (.bool false) V)) := hide (fun V => inn_is F 0 m (by rw [hm, ← set_inn]; exact hF) V)
      rw [HR.out]
      clear hok hF hm
      go_enter Tryd.func124, Tryd.ntmps124
      go_wp2_with fail
      rw [← hW0]
      clear hW0
      refine (l07Is_is HOK.out hA0.out hl).mono ?_
      rintro e w1 ⟨rfl, hb1⟩
      have hB1 := hide (Below.trans' hB0.out hb1)
      have hX1 := hide (hX0.out.keep hb1)
      clear hb1 c0 c1
      obtain ⟨c0, c1⟩ := hX1.out
      go_wp2_with fail
      refine (HF.out _).mono ?_
      rintro e w2 ⟨rfl, hb2⟩
      have hB2 := hide (Below.trans' hB1.out hb2)
      clear hb2
      go_wp2_with fail
      go_ret
      exact ⟨rfl, hB2.out⟩
    · have HF : Hid (∀ V : World, Calls Tryd.prog 110 #[.int .i64 F, .int .i64 0, .int .i64 m] V (RetB (.bool true) V)) := hide (fun V => inn_is F 0 m (by rw [hm, ← set_inn]; exact hF) V)
      cases hS : setB S n.toNat
      · have HR : Hid (codeS n cs F S = 2) := hide (by simp [codeS, hok, hF, hS])
        have HS : Hid (∀ V : World, Calls Tryd.prog 110 #[.int .i64 S, .int .i64 0, .int .i64 m] V (RetB (.bool false) V)) := hide (fun V => inn_is S 0 m (by rw [hm, ← set_inn]; exact hS) V)
        rw [HR.out]
        clear hok hF hS hm
        go_enter Tryd.func124, Tryd.ntmps124
        go_wp2_with fail
        rw [← hW0]
        clear hW0
        refine (l07Is_is HOK.out hA0.out hl).mono ?_
        rintro e w1 ⟨rfl, hb1⟩
        have hB1 := hide (Below.trans' hB0.out hb1)
        have hX1 := hide (hX0.out.keep hb1)
        clear hb1 c0 c1
        obtain ⟨c0, c1⟩ := hX1.out
        go_wp2_with fail
        refine (HF.out _).mono ?_
        rintro e w2 ⟨rfl, hb2⟩
        have hB2 := hide (Below.trans' hB1.out hb2)
        have hX2 := hide (hX1.out.keep hb2)
        clear hb2 c0 c1
        obtain ⟨c0, c1⟩ := hX2.out
        go_wp2_with fail
        refine (HS.out _).mono ?_
        rintro e w3 ⟨rfl, hb3⟩
        have hB3 := hide (Below.trans' hB2.out hb3)
        clear hb3
        go_wp2_with fail
        go_ret
        exact ⟨rfl, hB3.out⟩
      · have HS : Hid (∀ V : World, Calls Tryd.prog 110 #[.int .i64 S, .int .i64 0, .int .i64 m] V (RetB (.bool true) V)) := hide (fun V => inn_is S 0 m (by rw [hm, ← set_inn]; exact hS) V)
        obtain ⟨f0, f1⟩ := setB_yes hF
        obtain ⟨s0, s1⟩ := setB_yes hS
        have hpw2 := nn16 ⟨n1, n16⟩
        have hF5 : F < 65536 := by omega
        have hS5 : S < 65536 := by omega
        have hc : codeS n cs F S = if stOk F S = true then 0 else 5 := by unfold codeS; rw [if_pos hok, hF, hS]; rfl
        obtain ⟨yF, hyF⟩ : ∃ y, y = ones F := ⟨_, rfl⟩
        obtain ⟨yS, hyS⟩ : ∃ y, y = ones S := ⟨_, rfl⟩
        obtain ⟨d, hd⟩ : ∃ d, d = andI F S := ⟨_, rfl⟩
        have hbw := and_walkI (x := F) (y := S) f0 (by omega) s0 (by omega)
        have rF := ones_range F
        have rS := ones_range S
        rw [← hyF] at rF
        rw [← hyS] at rS
        rw [← hd] at hbw
        have HCF : Hid (∀ V : World, Calls Tryd.prog 120 #[.int .i64 F] V (RetB (.int .i64 yF) V)) := hide (fun V => by rw [hyF]; exact l07Ones_any F f0 hF5 V)
        have HCS : Hid (∀ V : World, Calls Tryd.prog 120 #[.int .i64 S] V (RetB (.int .i64 yS) V)) := hide (fun V => by rw [hyS]; exact l07Ones_any S s0 hS5 V)
        obtain ⟨r, hr⟩ : ∃ r, r = codeS n cs F S := ⟨_, rfl⟩
        have hst : stOk F S = (decide (d = 0) && (decide (yF - yS = 0) || decide (yF - yS = 1))) := by rw [hd, hyF, hyS]; rfl
        have HRR : Hid (r = if (decide (d = 0) && (decide (yF - yS = 0) || decide (yF - yS = 1))) = true then 0 else 5) := hide (by rw [hr, hc, hst])
        rw [← hr]
        clear hok hF hS hpw2 hF5 hS5 hyF hyS hd hr f1 s1 hm hc hst
        go_enter Tryd.func124, Tryd.ntmps124
        go_wp2_with fail
        rw [← hW0]
        clear hW0
        refine (l07Is_is HOK.out hA0.out hl).mono ?_
        rintro e w1 ⟨rfl, hb1⟩
        have hB1 := hide (Below.trans' hB0.out hb1)
        have hX1 := hide (hX0.out.keep hb1)
        clear hb1 c0 c1
        obtain ⟨c0, c1⟩ := hX1.out
        go_wp2_with fail
        refine (HF.out _).mono ?_
        rintro e w2 ⟨rfl, hb2⟩
        have hB2 := hide (Below.trans' hB1.out hb2)
        have hX2 := hide (hX1.out.keep hb2)
        clear hb2 c0 c1
        obtain ⟨c0, c1⟩ := hX2.out
        go_wp2_with fail
        refine (HS.out _).mono ?_
        rintro e w3 ⟨rfl, hb3⟩
        have hB3 := hide (Below.trans' hB2.out hb3)
        clear hb3 c0 c1
        by_cases hd0 : d = 0
        · have e0 : (d != 0) = false := by simp [hd0]
          have HD := hide hd0
          clear hd0
          go_wp2_with fail
          refine (HCF.out _).mono ?_
          rintro e w4 ⟨rfl, hb4⟩
          have hB4 := hide (Below.trans' hB3.out hb4)
          clear hb4
          go_wp2_with fail
          refine (HCS.out _).mono ?_
          rintro e w5 ⟨rfl, hb5⟩
          have hB5 := hide (Below.trans' hB4.out hb5)
          clear hb5
          cases hi : inn (yF - yS) 0 1
          · have hf : Hid (r = 5) := hide (by
              have := inn_no hi
              rw [HRR.out, if_neg]
              simp
              omega)
            have HI := hide hi
            clear hi
            go_wp2_with fail
            refine (inn_is _ _ _ HI.out _).mono ?_
            rintro e w6 ⟨rfl, hb6⟩
            have hB6 := hide (Below.trans' hB5.out hb6)
            clear hb6
            go_wp2_with fail
            go_ret
            exact ⟨by rw [hf.out]; rfl, hB6.out⟩
          · have hf : Hid (r = 0) := hide (by
              have := inn_yes hi
              rw [HRR.out, if_pos]
              simp [HD.out]
              omega)
            have HI := hide hi
            clear hi
            go_wp2_with fail
            refine (inn_is _ _ _ HI.out _).mono ?_
            rintro e w6 ⟨rfl, hb6⟩
            have hB6 := hide (Below.trans' hB5.out hb6)
            clear hb6
            go_wp2_with fail
            go_ret
            exact ⟨by rw [hf.out]; rfl, hB6.out⟩
        · have e0 : (d != 0) = true := by simp [hd0]
          have hf : Hid (r = 5) := hide (by rw [HRR.out, if_neg (by simp [hd0])])
          clear hd0
          go_wp2_with fail
          go_ret
          exact ⟨by rw [hf.out]; rfl, hB3.out⟩

end Go.Proofs.YtkekanllfpdeaaaDoor
