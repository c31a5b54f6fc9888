/-
  The race: l07Race: the model's text, beside its table.
-/
import Derived.Test.YtkekanllfpdeaaaDoorNr
import Derived.IntWalk
namespace Go.Proofs.YtkekanllfpdeaaaDoor
open Go.RowKit
set_option linter.unusedVariables false

theorem i8_small {n : Int} (h0 : 0 ≤ n) (h1 : n ≤ 127) : IntKind.i8.wrap n = n := Go.IntWalk.i8_in n (by omega)
theorem i64_small {n : Int} (h0 : -128 ≤ n) (h1 : n ≤ 127) : IntKind.i64.wrap n = n := by rw [IntKind.wrap_i64]; omega

set_option maxRecDepth 100000 in
set_option maxHeartbeats 8000000 in
theorem race_walk (n : Int) (a : Option Addr) (c : Nat) (cs : List Int) (hok : okB n cs = true) (bK M : Nat) (hM : (M : Int) = pow3 n.toNat) (F S : Int) (hst : St n F S) (hf : fil cs F = false) (hg : fil cs S = false) (W : World) (hT : KnT (valRc n cs) n a cs bK W) (hD : DeepU n a c cs bK M F S) :
    Calls Tryd.prog 70 #[.agg #[.int .i64 n, .slice a cs.length c], .int .i64 F, .int .i64 S, .slice (some ⟨bK, 0, none⟩) M M] W (RetK bK (KnT (valRc n cs) n a cs bK) (.int .i64 (sgn F S (lvR n cs F S))) W) := by
  have hn := hst.nn
  have hM8 : M ≤ 19683 := by
    have := pow3_9 (n := n.toNat) (by omega)
    omega
  obtain ⟨f0, f1, s0, s1⟩ := hst.lt
  obtain ⟨W0, hW0⟩ : ∃ W0, W0 = W.alloc (.cells #[.int .i64 n, .slice a cs.length c] 28) := ⟨_, rfl⟩
  have hB0 : Hid (Below W.heap.size W W0) := by rw [hW0]; exact hide (below_alloc _ _)
  have hX0 : Hid (HexIn W0 W.heap.size n a cs.length c) := by rw [hW0]; exact hide (hexIn_new _ _ _ _ _ _)
  have hbK : bK < W.heap.size := hT.lt
  have HT0 := hide (hT.keep hB0.out)
  have HST := hide hst
  have HM := hide hM
  have HBE : Hid (∀ (p : Int) (V : World), p ∈ frees n F S → KnT (valRc n cs) n a cs bK V → Calls Tryd.prog 125 #[.agg #[.int .i64 n, .slice a cs.length c], .int .i64 F, .int .i64 S, .int .i64 p, .slice (some ⟨bK, 0, none⟩) M M] V (RetK bK (KnT (valRc n cs) n a cs bK) (.int .i64 (gR n cs F S p)) V)) := hide (fun p V hp hk => behind_any n a c cs hok bK M F S hst hf hg p hp V hk hD)
  have hvr := sgn_range (F := F) (S := S) (lvR_range n cs F S)
  obtain ⟨v, hv⟩ : ∃ v, v = sgn F S (lvR n cs F S) := ⟨_, rfl⟩
  rw [← hv] at hvr ⊢
  obtain ⟨vr0, vr1⟩ := hvr
  have HVV : Hid (valRc n cs F S = v + 2) := hide (by rw [hv]; rfl)
  have HVG : Hid (v = if FrJ F S n.toNat = true then BJ n cs F S n.toNat else 0) := hide (by rw [hv]; exact race_step hst hf hg)
  have HPL : Hid (∀ V : World, Calls Tryd.prog 119 #[.agg #[.int .i64 n, .slice a cs.length c], .int .i64 F, .int .i64 S] V (RetB (.int .i64 (plc3 F S n.toNat)) V)) := hide (fun V => place_any n a _ c F S HST.out V)
  obtain ⟨X0, X1⟩ := hX0.out
  clear hT hD hM hv hf hg hok
  go_enter Tryd.func70, Tryd.ntmps70
  go_wp2_with fail
  rw [← hW0]
  clear hW0
  (try go_wp2_with fail)
  refine (HPL.out _).mono ?_
  rintro e w1 ⟨rfl, hb1⟩
  have HT1' := hide (HT0.out.keep hb1)
  have hX1 := hide (hX0.out.keep hb1)
  have hB1 := hide (Below.trans' hB0.out hb1)
  have hs1 := hX1.out.lt
  clear hb1 X0 X1
  obtain ⟨p, t, hp, hpM, hc, hfz, ht⟩ := HT1'.out.cell HST.out
  rw [hp]
  have HP := hide hp
  have HTV := hide ht
  have hpM' : p < M := by have := HM.out; omega
  clear hp hpM ht
  by_cases h0 : 0 < t
  · have htv : t = v + 2 := by
      rcases HTV.out with h | h
      · omega
      · rw [h, HVV.out]
    have hi := i64_small (n := t) (by omega) (by omega)
    have HFIN : Hid (RetK bK (KnT (valRc n cs) n a cs bK) (.int .i64 v) W (.returned (.int .i64 (t - 2))) w1) := hide ⟨by rw [show t - 2 = v by omega], But.of_below hB1.out, HT1'.out⟩
    have ht3 : t ≤ 3 := by omega
    clear HTV htv
    go_wp2_with fail
    go_ret
    exact HFIN.out
  · obtain rfl : t = 0 := by
      rcases HTV.out with h | h
      · exact h
      · rw [HVV.out] at h
        omega
    clear HTV h0
    obtain ⟨N, hN⟩ : ∃ N : Nat, n = N := ⟨n.toNat, by omega⟩
    have hN9 : N ≤ 9 := by omega
    obtain ⟨G, hG⟩ : ∃ G : Nat → Int, G = BJ n cs F S := ⟨_, rfl⟩
    obtain ⟨R, hR⟩ : ∃ R : Nat → Bool, R = FrJ F S := ⟨_, rfl⟩
    have HG0 : Hid (G 0 = -1 ∧ R 0 = false) := hide ⟨by rw [hG]; rfl, by rw [hR]; rfl⟩
    have HGR : Hid (∀ j, -1 ≤ G j ∧ G j ≤ 1) := hide (fun j => by rw [hG]; exact BJ_range n cs F S j)
    have HGN : Hid (∀ j : Nat, isFree F S j = false → G (j + 1) = G j ∧ R (j + 1) = R j) := hide (fun j h => by rw [hG, hR]; exact ⟨by simp [BJ, h], by unfold FrJ; rw [pre_no h]⟩)
    have HGY : Hid (∀ j : Nat, isFree F S j = true → G (j + 1) = (if G j < gR n cs F S j then gR n cs F S j else G j) ∧ R (j + 1) = true) := hide (fun j h => by rw [hG, hR]; exact ⟨by simp [BJ, h], by unfold FrJ; rw [pre_yes h]; simp⟩)
    have HVN : Hid (v = if R N = true then G N else 0) := hide (by rw [HVG.out, hG, hR, hN, Int.toNat_natCast])
    have ho := or_walkI (x := F) (y := S) f0 (by omega) s0 (by omega)
    have hor := orI_range (n := 9) (x := F) (y := S) f0 (by omega) s0 (by omega)
    obtain ⟨o, hoo⟩ : ∃ o, o = orI F S := ⟨_, rfl⟩
    have HFO : Hid (∀ j : Nat, isFree F S j = !drawn o j) := hide (fun j => by rw [hoo]; rfl)
    rw [← hoo] at ho hor
    obtain ⟨o0, o1⟩ := hor
    clear hG hR hoo
    subst hN
    go_wp2_with fail
    clear hc hfz
    go_loopw [10, 11, 12] (fun u fr i wr => ∃ (j : Nat), j ≤ N ∧ i = .int .i64 j ∧ u = .int .i64 (G j) ∧ fr = .bool (R j) ∧ But bK w1 wr ∧ KnT (valRc N cs) N a cs bK wr) (fun _ _ i _ => N - (intOf i).toNat)
    case atStart => exact ⟨0, Nat.zero_le _, rfl, by rw [HG0.out.1], by rw [HG0.out.2], But.refl _ _, HT1'.out⟩
    case round =>
      obtain ⟨j, hj, rfl, rfl, rfl, hBr, hTr⟩ := hrel
      have HBR := hide hBr
      have HTR := hide hTr
      have nX : W.heap.size ≠ bK := by omega
      obtain ⟨c0', c1'⟩ := hX1.out
      have c0 := hBr.cell c0' nX
      have c1 := hBr.cell c1' nX
      clear c0' c1'
      obtain ⟨ur0, ur1⟩ := HGR.out j
      obtain ⟨u, hu⟩ : ∃ u, u = G j := ⟨_, rfl⟩
      obtain ⟨fr, hfr⟩ : ∃ fr, fr = R j := ⟨_, rfl⟩
      rw [← hu] at ur0 ur1
      rw [← hu, ← hfr]
      have HU := hide hu
      have HFR := hide hfr
      clear hu hfr hBr hTr
      by_cases hlt : j < N
      · have hdw := dg_walkL (E := o) (k := (j : Int)) o0 (by omega)
        rw [Int.toNat_natCast] at hdw
        have hku := u64_small (show (0 : Int) ≤ (j : Int) by omega) (by omega)
        cases hdr : drawn o j
        · have hfree : isFree F S j = true := by rw [HFO.out, hdr]; rfl
          rw [dg_of_free hdr] at hdw
          have HNX := hide (HGY.out j hfree)
          have HME := hide (frees_mk (n := (N : Int)) (by simpa using hlt) hfree)
          obtain ⟨x, hx⟩ : ∃ x, x = gR N cs F S j := ⟨_, rfl⟩
          have hxr := gR_range N cs F S j
          rw [← hx] at hxr
          obtain ⟨xr0, xr1⟩ := hxr
          have HVA : Hid (∀ V : World, KnT (valRc N cs) N a cs bK V → Calls Tryd.prog 125 #[.agg #[.int .i64 N, .slice a cs.length c], .int .i64 F, .int .i64 S, .int .i64 (j : Int), .slice (some ⟨bK, 0, none⟩) M M] V (RetK bK (KnT (valRc N cs) N a cs bK) (.int .i64 x) V)) := hide (fun V hk => by rw [hx]; exact HBE.out j V HME.out hk)
          have HN1 : Hid (G (j + 1) = (if u < x then x else u) ∧ R (j + 1) = true) := hide ⟨by rw [HNX.out.1, hx, HU.out], HNX.out.2⟩
          clear hx hfree hdr
          by_cases hux : u < x
          · have HN2 : Hid (G (j + 1) = x) := hide (by rw [HN1.out.1, if_pos hux])
            have HUX := hide hux
            go_wp2_with fail
            refine (HVA.out _ HTR.out).mono ?_
            rintro e w5 ⟨rfl, hb5, hk5⟩
            have HB5 := hide (HBR.out.trans hb5)
            have HK5 := hide hk5
            clear hb5 hk5 c0 c1
            go_wp2_with fail
            go_roundw
            case rel => exact ⟨j + 1, by omega, by go_num, by rw [HN2.out], by rw [HN1.out.2], HB5.out, HK5.out⟩
            case measure => simp [intOf]; omega
          · have HN2 : Hid (G (j + 1) = u) := hide (by rw [HN1.out.1, if_neg hux])
            go_wp2_with fail
            refine (HVA.out _ HTR.out).mono ?_
            rintro e w5 ⟨rfl, hb5, hk5⟩
            have HB5 := hide (HBR.out.trans hb5)
            have HK5 := hide hk5
            clear hb5 hk5 c0 c1
            go_wp2_with fail
            go_roundw
            case rel => exact ⟨j + 1, by omega, by go_num, by rw [HN2.out], by rw [HN1.out.2], HB5.out, HK5.out⟩
            case measure => simp [intOf]; omega
        · have hfree : isFree F S j = false := by rw [HFO.out, hdr]; rfl
          rw [dg_of_drawn hdr] at hdw
          have HNX := hide (HGN.out j hfree)
          clear hfree hdr
          go_wp2_with fail
          go_roundw
          case rel => exact ⟨j + 1, by omega, by go_num, by rw [HNX.out.1, ← HU.out], by rw [HNX.out.2, ← HFR.out], HBR.out, HTR.out⟩
          case measure => simp [intOf]; omega
      · obtain rfl : j = N := by omega
        have hov : v = if fr = true then u else 0 := by rw [HVN.out, HU.out, HFR.out]
        obtain ⟨p', t', hp', hpM2, hc', hfz', _⟩ := HTR.out.cell HST.out
        obtain rfl : p' = p := by have h1 := HP.out; rw [hp'] at h1; omega
        have hS1 := HTR.out.set HST.out hp'
        rw [HVV.out] at hS1
        have HBW := hide ((But.of_below (n := bK) hB1.out).trans HBR.out)
        have HFIN : Hid (RetK bK (KnT (valRc j cs) j a cs bK) (.int .i64 v) W (.returned (.int .i64 v)) (wr.setCell ⟨bK, p', none⟩ (.int .i8 (v + 2)))) := hide ⟨rfl, HBW.out.set p' _, hS1⟩
        clear hp' hpM2 hS1
        cases fr
        · obtain rfl : v = 0 := by simpa using hov
          clear hov vr0 vr1
          go_wp2_with fail
          go_ret
          exact HFIN.out
        · obtain rfl : v = u := by simpa using hov
          have hi8 := i8_small (n := v + 2) (by omega) (by omega)
          clear hov
          go_wp2_with fail
          go_ret
          exact HFIN.out

/-- The race, from any state on. -/
theorem race_any (n : Int) (a : Option Addr) (c : Nat) (cs : List Int) (hok : okB n cs = true) (bK M : Nat) (hM : (M : Int) = pow3 n.toNat) : ∀ (k : Nat) (F S : Int) (W : World), St n F S → fil cs F = false → fil cs S = false → freeN n F S = k → KnT (valRc n cs) n a cs bK W → Calls Tryd.prog 70 #[.agg #[.int .i64 n, .slice a cs.length c], .int .i64 F, .int .i64 S, .slice (some ⟨bK, 0, none⟩) M M] W (RetK bK (KnT (valRc n cs) n a cs bK) (.int .i64 (sgn F S (lvR n cs F S))) W) := by
  intro k
  induction k with
  | zero =>
    intro F S W hst hf hg hk hT
    refine race_walk n a c cs hok bK M hM F S hst hf hg W hT (fun p V hp _ _ _ => ?_)
    rw [show frees n F S = [] from List.eq_nil_of_length_eq_zero hk] at hp
    cases hp
  | succ k ih =>
    intro F S W hst hf hg hk hT
    refine race_walk n a c cs hok bK M hM F S hst hf hg W hT (fun p V hp hfp hgp hv => ?_)
    obtain ⟨h1, h2, _⟩ := hst.move hp
    exact ih _ _ V h1 hfp hgp (by omega) hv
theorem behindAll_any (n : Int) (a : Option Addr) (c : Nat) (cs : List Int) (hok : okB n cs = true) (bK M : Nat) (hM : (M : Int) = pow3 n.toNat) (F S : Int) (hst : St n F S) (hf : fil cs F = false) (hg : fil cs S = false) (p : Int) (hp : p ∈ frees n F S) (W : World) (hT : KnT (valRc n cs) n a cs bK W) :
    Calls Tryd.prog 125 #[.agg #[.int .i64 n, .slice a cs.length c], .int .i64 F, .int .i64 S, .int .i64 p, .slice (some ⟨bK, 0, none⟩) M M] W (RetK bK (KnT (valRc n cs) n a cs bK) (.int .i64 (gR n cs F S p)) W) :=
  behind_any n a c cs hok bK M F S hst hf hg p hp W hT (fun q V hq h1 h2 hv => race_any n a c cs hok bK M hM _ _ _ V (hst.move hq).1 h1 h2 rfl hv)
end Go.Proofs.YtkekanllfpdeaaaDoor
