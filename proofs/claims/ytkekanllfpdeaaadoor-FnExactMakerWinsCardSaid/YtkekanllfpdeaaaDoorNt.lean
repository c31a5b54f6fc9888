/-
  The maker: the model's text, beside its table.
-/
import Derived.Test.YtkekanllfpdeaaaDoorNt0
namespace Go.Proofs.YtkekanllfpdeaaaDoor
open Go.RowKit
set_option linter.unusedVariables false

/-! ### the walk -/
def valMk (n : Int) (cs : List Int) (F S : Int) : Int := if lvM n cs F S = 1 then 2 else 1
def DeepT (n : Int) (a : Option Addr) (c : Nat) (cs : List Int) (bK M : Nat) (F S : Int) : Prop :=
  ∀ (p : Int) (V : World), p ∈ frees n F S → fil cs (mF F S p) = false → KnT (valMk n cs) n a cs bK V → Calls Tryd.prog 64 #[.agg #[.int .i64 n, .slice a cs.length c], .int .i64 (mF F S p), .int .i64 (mS F S p), .slice (some ⟨bK, 0, none⟩) M M] V (RetK bK (KnT (valMk n cs) n a cs bK) (.bool (gM n cs F S p)) V)

set_option maxRecDepth 100000 in
set_option maxHeartbeats 8000000 in
theorem maker_walk (n : Int) (a : Option Addr) (c : Nat) (cs : List Int) (hok : okB n cs = true) (bK M : Nat) (hM : (M : Int) = pow3 n.toNat) (F S : Int) (hst : St n F S) (hf : fil cs F = false) (W : World) (hT : KnT (valMk n cs) n a cs bK W) (hD : DeepT n a c cs bK M F S) :
    Calls Tryd.prog 64 #[.agg #[.int .i64 n, .slice a cs.length c], .int .i64 F, .int .i64 S, .slice (some ⟨bK, 0, none⟩) M M] W (RetK bK (KnT (valMk n cs) n a cs bK) (.bool (decide (lvM n cs F S = 1))) W) := by
  have hn := hst.nn
  have hM8 : M ≤ 19683 := by
    have := pow3_9 (n := n.toNat) (by omega)
    omega
  obtain ⟨f0, f1, s0, s1⟩ := hst.lt
  have hl : cs.length ≤ 1048576 := by have := (okB_parts hok).2.1; omega
  obtain ⟨W0, hW0⟩ : ∃ W0, W0 = W.alloc (.cells #[.int .i64 n, .slice a cs.length c] 28) := ⟨_, rfl⟩
  have hB0 : Hid (Below W.heap.size W W0) := by rw [hW0]; exact hide (below_alloc _ _)
  have hX0 : Hid (HexIn W0 W.heap.size n a cs.length c) := by rw [hW0]; exact hide (hexIn_new _ _ _ _ _ _)
  have hbK : bK < W.heap.size := hT.lt
  have HT0 := hide (hT.keep hB0.out)
  have HST := hide hst
  have HD := hide hD
  have HM := hide hM
  obtain ⟨v, hv⟩ : ∃ v, v = decide (lvM n cs F S = 1) := ⟨_, rfl⟩
  rw [← hv]
  have HVV : Hid (valMk n cs F S = if v = true then 2 else 1) := hide (by rw [hv]; unfold valMk; by_cases e : lvM n cs F S = 1 <;> simp [e])
  have HVG : Hid (v = (GM n cs F S n.toNat && FrJ F S n.toNat)) := hide (by rw [hv]; exact maker_step hst hf)
  have HPL : Hid (∀ V : World, Calls Tryd.prog 119 #[.agg #[.int .i64 n, .slice a cs.length c], .int .i64 F, .int .i64 S] V (RetB (.int .i64 (plc3 F S n.toNat)) V)) := hide (fun V => place_any n a _ c F S HST.out V)
  obtain ⟨yF, hyF⟩ : ∃ y, y = ones F := ⟨_, rfl⟩
  obtain ⟨yS, hyS⟩ : ∃ y, y = ones S := ⟨_, rfl⟩
  have HT1 : Hid (t1 F S = (yF == yS)) := hide (by unfold t1; rw [← hyF, ← hyS]; by_cases e : yF = yS <;> simp [e])
  have HCF : Hid (∀ V : World, Calls Tryd.prog 120 #[.int .i64 F] V (RetB (.int .i64 yF) V)) := hide (fun V => by rw [hyF]; exact l07Ones_any F f0 (by omega) V)
  have HCS : Hid (∀ V : World, Calls Tryd.prog 120 #[.int .i64 S] V (RetB (.int .i64 yS) V)) := hide (fun V => by rw [hyS]; exact l07Ones_any S s0 (by omega) V)
  obtain ⟨X0, X1⟩ := hX0.out
  clear hT hD hM hv hyF hyS
  go_enter Tryd.func64, Tryd.ntmps64
  go_wp2_with fail
  rw [← hW0]
  clear hW0
  (try go_wp2_with fail)
  refine (HPL.out _).mono ?_
  rintro e w1 ⟨rfl, hb1⟩
  have HT1' := hide (HT0.out.keep hb1)
  have hX1 := hide (hX0.out.keep hb1)
  have hB1 := hide (Below.trans' hB0.out hb1)
  have hs1 := hX1.out.lt
  clear hb1 X0 X1
  obtain ⟨p, t, hp, hpM, hc, hfz, ht⟩ := HT1'.out.cell HST.out
  rw [hp]
  have HP := hide hp
  have HTV := hide ht
  have hpM' : p < M := by have := HM.out; omega
  clear hp hpM ht
  by_cases h0 : 0 < t
  · have htv : t = if v = true then 2 else 1 := by
      rcases HTV.out with h | h
      · omega
      · rw [h, HVV.out]
    have HFIN : Hid (RetK bK (KnT (valMk n cs) n a cs bK) (.bool v) W (.returned (.bool v)) w1) := hide ⟨rfl, But.of_below hB1.out, HT1'.out⟩
    clear HTV
    cases v
    · obtain rfl : t = 1 := by simpa using htv
      clear htv
      go_wp2_with fail
      go_ret
      exact HFIN.out
    · obtain rfl : t = 2 := by simpa using htv
      clear htv
      go_wp2_with fail
      go_ret
      exact HFIN.out
  · obtain rfl : t = 0 := by
      rcases HTV.out with h | h
      · exact h
      · rw [HVV.out] at h
        split at h <;> omega
    clear HTV h0
    go_wp2_with fail
    refine (HCF.out _).mono ?_
    rintro e w2 ⟨rfl, hb2⟩
    have HT2 := hide (HT1'.out.keep hb2)
    have hX2 := hide (hX1.out.keep hb2)
    have hB2 := hide (Below.trans' hB1.out hb2)
    clear hb2 hc hfz
    go_wp2_with fail
    refine (HCS.out _).mono ?_
    rintro e w3 ⟨rfl, hb3⟩
    have HT3 := hide (HT2.out.keep hb3)
    have hX3 := hide (hX2.out.keep hb3)
    have hB3 := hide (Below.trans' hB2.out hb3)
    clear hb3
    obtain ⟨tt, htt⟩ : ∃ tt, tt = (yF == yS) := ⟨_, rfl⟩
    have HTT : Hid (t1 F S = tt) := hide (by rw [HT1.out, htt])
    obtain ⟨N, hN⟩ : ∃ N : Nat, n = N := ⟨n.toNat, by omega⟩
    have HN := hide hN
    have hN9 : N ≤ 9 := by omega
    obtain ⟨G, hG⟩ : ∃ G : Nat → Bool, G = GM n cs F S := ⟨_, rfl⟩
    obtain ⟨R, hR⟩ : ∃ R : Nat → Bool, R = FrJ F S := ⟨_, rfl⟩
    have HG0 : Hid (G 0 = !tt ∧ R 0 = false) := hide ⟨by rw [hG, GM_zero, HTT.out], by rw [hR]; rfl⟩
    have HGN : Hid (∀ j : Nat, isFree F S j = false → G (j + 1) = G j ∧ R (j + 1) = R j) := hide (fun j h => by rw [hG, hR]; exact GM_no h)
    have HGY : Hid (∀ j : Nat, isFree F S j = true → G (j + 1) = (if tt = true then G j || gM n cs F S j else G j && gM n cs F S j) ∧ R (j + 1) = true) := hide (fun j h => by rw [hG, hR, ← HTT.out]; exact GM_yes h)
    have HVN : Hid (v = (G N && R N)) := hide (by rw [HVG.out, hG, hR, hN, Int.toNat_natCast])
    have ho := or_walkI (x := F) (y := S) f0 (by omega) s0 (by omega)
    have hor := orI_range (n := 9) (x := F) (y := S) f0 (by omega) s0 (by omega)
    obtain ⟨o, hoo⟩ : ∃ o, o = orI F S := ⟨_, rfl⟩
    have HFO : Hid (∀ j : Nat, isFree F S j = !drawn o j) := hide (fun j => by rw [hoo]; rfl)
    rw [← hoo] at ho hor
    obtain ⟨o0, o1⟩ := hor
    clear hG hR hoo
    subst hN
    go_wp2_with fail
    rw [← htt]
    clear htt
    obtain ⟨nt, hnt⟩ : ∃ nt, nt = !tt := ⟨_, rfl⟩
    rw [← hnt]
    have HNT := hide hnt
    rw [← hnt] at HG0
    clear hnt
    go_loopw [11, 12, 13] (fun u fr i wr => ∃ (j : Nat), j ≤ N ∧ i = .int .i64 j ∧ u = .bool (G j) ∧ fr = .bool (R j) ∧ But bK w3 wr ∧ KnT (valMk N cs) N a cs bK wr) (fun _ _ i _ => N - (intOf i).toNat)
    case atStart => exact ⟨0, Nat.zero_le _, rfl, by rw [HG0.out.1], by rw [HG0.out.2], But.refl _ _, HT3.out⟩
    case round =>
      obtain ⟨j, hj, rfl, rfl, rfl, hBr, hTr⟩ := hrel
      have HBR := hide hBr
      have HTR := hide hTr
      have nX : W.heap.size ≠ bK := by omega
      obtain ⟨c0', c1'⟩ := hX3.out
      have c0 := hBr.cell c0' nX
      have c1 := hBr.cell c1' nX
      clear c0' c1'
      obtain ⟨u, hu⟩ : ∃ u, u = G j := ⟨_, rfl⟩
      obtain ⟨fr, hfr⟩ : ∃ fr, fr = R j := ⟨_, rfl⟩
      rw [← hu, ← hfr]
      have HU := hide hu
      have HFR := hide hfr
      clear hu hfr hBr hTr
      by_cases hlt : j < N
      · have pw2 := (pow_nat_small (j := j) (by omega)).2.2
        obtain ⟨e, he1, he2⟩ := and_own (o := o) (j := j) o0 (by omega) (by omega)
        have hku := u64_small (show (0 : Int) ≤ (j : Int) by omega) (by omega)
        cases hdr : drawn o j
        · have hfree : isFree F S j = true := by rw [HFO.out, hdr]; rfl
          rw [hdr] at he2
          have HNX := hide (HGY.out j hfree)
          have hmem : (j : Int) ∈ frees N F S := frees_mk (n := (N : Int)) (by simpa using hlt) hfree
          have HME := hide hmem
          clear hmem hfree hdr
          cases tt
          · -- the breaker's turn
            have hmm : mF F S j = F ∧ mS F S j = withE S j := by simp [mF, mS, HTT.out]
            have hos := or_own (F := S) (j := j) s0 (by omega) (by omega)
            obtain ⟨bb, hbb⟩ : ∃ bb, bb = withE S j := ⟨_, rfl⟩
            rw [← hbb] at hos
            obtain ⟨x, hx⟩ : ∃ x, x = gM N cs F S j := ⟨_, rfl⟩
            have HVA : Hid (∀ V : World, KnT (valMk N cs) N a cs bK V → Calls Tryd.prog 64 #[.agg #[.int .i64 N, .slice a cs.length c], .int .i64 F, .int .i64 bb, .slice (some ⟨bK, 0, none⟩) M M] V (RetK bK (KnT (valMk N cs) N a cs bK) (.bool x) V)) := hide (fun V hk => by
              have h := HD.out j V HME.out (by rw [hmm.1]; exact hf) hk
              rw [hmm.1, hmm.2, ← hbb, ← hx] at h
              exact h)
            have HN1 : Hid (G (j + 1) = (u && x) ∧ R (j + 1) = true) := hide ⟨by rw [HNX.out.1, hx, HU.out]; rfl, HNX.out.2⟩
            clear hmm hbb hx
            cases u
            · go_wp2_with fail
              go_roundw
              case rel => exact ⟨j + 1, by omega, by go_num, by rw [HN1.out.1]; rfl, by rw [HN1.out.2], HBR.out, HTR.out⟩
              case measure => simp [intOf]; omega
            · go_wp2_with fail
              refine (HVA.out _ HTR.out).mono ?_
              rintro e w5 ⟨rfl, hb5, hk5⟩
              have HB5 := hide (HBR.out.trans hb5)
              have HK5 := hide hk5
              clear hb5 hk5 c0 c1
              go_wp2_with fail
              go_roundw
              case rel => exact ⟨j + 1, by omega, by go_num, by rw [HN1.out.1]; rfl, by rw [HN1.out.2], HB5.out, HK5.out⟩
              case measure => simp [intOf]; omega
          · -- the maker's turn
            have hmm : mF F S j = withE F j ∧ mS F S j = S := by simp [mF, mS, HTT.out]
            have hos := or_own (F := F) (j := j) f0 (by omega) (by omega)
            obtain ⟨r, hr⟩ : ∃ r, r = withE F j := ⟨_, rfl⟩
            rw [← hr] at hos
            have hst2 := (HST.out.move HME.out).1
            have hr0 := hst2.lt
            rw [hmm.1, ← hr] at hr0
            obtain ⟨x, hx⟩ : ∃ x, x = gM N cs F S j := ⟨_, rfl⟩
            have HFI : Hid (∀ V : World, KnT (valMk N cs) N a cs bK V → Calls Tryd.prog 75 #[.agg #[.int .i64 N, .slice a cs.length c], .int .i64 r] V (RetB (.bool (fil cs r)) V)) := hide (fun V hk => fills_any N a c cs r (sets_of hok) hr0.1 (by omega) V hk.ints hl)
            have HN1 : Hid (G (j + 1) = (u || x) ∧ R (j + 1) = true) := hide ⟨by rw [HNX.out.1, hx, HU.out]; rfl, HNX.out.2⟩
            cases u
            · cases hfl : fil cs r
              · rw [hfl] at HFI
                have HVA : Hid (∀ V : World, KnT (valMk N cs) N a cs bK V → Calls Tryd.prog 64 #[.agg #[.int .i64 N, .slice a cs.length c], .int .i64 r, .int .i64 S, .slice (some ⟨bK, 0, none⟩) M M] V (RetK bK (KnT (valMk N cs) N a cs bK) (.bool x) V)) := hide (fun V hk => by
                  have h := HD.out j V HME.out (by rw [hmm.1, ← hr]; exact hfl) hk
                  rw [hmm.1, hmm.2, ← hr, ← hx] at h
                  exact h)
                clear hmm hr hx hst2 hr0 hfl
                go_wp2_with fail
                refine (HFI.out _ HTR.out).mono ?_
                rintro e w5 ⟨rfl, hb5⟩
                have HB5 := hide (HBR.out.below hb5)
                have HK5 := hide (HTR.out.keep hb5)
                have d0 := cell_keep hb5 c0
                have d1 := cell_keep hb5 c1
                clear hb5 c0 c1
                go_wp2_with fail
                refine (HVA.out _ HK5.out).mono ?_
                rintro e w6 ⟨rfl, hb6, hk6⟩
                have HB6 := hide (HB5.out.trans hb6)
                have HK6 := hide hk6
                clear hb6 hk6 d0 d1
                go_wp2_with fail
                go_roundw
                case rel => exact ⟨j + 1, by omega, by go_num, by rw [HN1.out.1]; rfl, by rw [HN1.out.2], HB6.out, HK6.out⟩
                case measure => simp [intOf]; omega
              · rw [hfl] at HFI
                have HXT : Hid (x = true) := hide (by rw [hx]; exact gM_fil (by rw [hmm.1, ← hr]; exact hfl))
                clear hmm hr hx hst2 hr0 hfl
                go_wp2_with fail
                refine (HFI.out _ HTR.out).mono ?_
                rintro e w5 ⟨rfl, hb5⟩
                have HB5 := hide (HBR.out.below hb5)
                have HK5 := hide (HTR.out.keep hb5)
                clear hb5 c0 c1
                go_wp2_with fail
                go_roundw
                case rel => exact ⟨j + 1, by omega, by go_num, by rw [HN1.out.1, HXT.out]; rfl, by rw [HN1.out.2], HB5.out, HK5.out⟩
                case measure => simp [intOf]; omega
            · clear hmm hr hx hst2 hr0
              go_wp2_with fail
              go_roundw
              case rel => exact ⟨j + 1, by omega, by go_num, by rw [HN1.out.1]; rfl, by rw [HN1.out.2], HBR.out, HTR.out⟩
              case measure => simp [intOf]; omega
        · have hfree : isFree F S j = false := by rw [HFO.out, hdr]; rfl
          rw [hdr] at he2
          have HNX := hide (HGN.out j hfree)
          clear hfree hdr
          go_wp2_with fail
          go_roundw
          case rel => exact ⟨j + 1, by omega, by go_num, by rw [HNX.out.1, ← HU.out], by rw [HNX.out.2, ← HFR.out], HBR.out, HTR.out⟩
          case measure => simp [intOf]; omega
      · obtain rfl : j = N := by omega
        have hov : Hid ((u && fr) = v) := hide (by rw [HVN.out, HU.out, HFR.out])
        obtain ⟨p', t', hp', hpM2, hc', hfz', _⟩ := HTR.out.cell HST.out
        obtain rfl : p' = p := by have h1 := HP.out; rw [hp'] at h1; omega
        obtain ⟨k1, k2, hk⟩ := HTR.out.stored HST.out hp' (.int .i8 1)
        have HS1 := hide (HTR.out.set HST.out hp')
        have HS2 := hide hk
        have HBW := hide ((But.of_below (n := bK) hB3.out).trans HBR.out)
        clear hp' hpM2 hk
        cases hv2 : v
        · have huf : (u && fr) = false := by rw [hov.out, hv2]
          have hval : valMk j cs F S = 1 := by rw [HVV.out, hv2]; rfl
          rw [hval] at HS1
          have HFIN : Hid (RetK bK (KnT (valMk j cs) j a cs bK) (.bool v) W (.returned (.bool false)) (wr.setCell ⟨bK, p', none⟩ (.int .i8 1))) := hide ⟨by rw [hv2], HBW.out.set p' _, HS1.out⟩
          clear k1 k2 hval hv2
          cases u
          · clear huf
            go_wp2_with fail
            go_ret
            exact HFIN.out
          · cases fr
            · clear huf
              go_wp2_with fail
              go_ret
              exact HFIN.out
            · cases huf
        · have huf : (u && fr) = true := by rw [hov.out, hv2]
          have hval : valMk j cs F S = 2 := by rw [HVV.out, hv2]; rfl
          rw [hval] at HS2
          have HFIN : Hid (RetK bK (KnT (valMk j cs) j a cs bK) (.bool v) W (.returned (.bool true)) ((wr.setCell ⟨bK, p', none⟩ (.int .i8 1)).setCell ⟨bK, p', none⟩ (.int .i8 2))) := hide ⟨by rw [hv2], (HBW.out.set p' _).set p' _, HS2.out⟩
          clear hval hv2
          cases u
          · cases huf
          · cases fr
            · cases huf
            · clear huf
              go_wp2_with fail
              go_ret
              exact HFIN.out

/-- The maker, from any state on. -/
theorem maker_any (n : Int) (a : Option Addr) (c : Nat) (cs : List Int) (hok : okB n cs = true) (bK M : Nat) (hM : (M : Int) = pow3 n.toNat) : ∀ (k : Nat) (F S : Int) (W : World), St n F S → fil cs F = false → freeN n F S = k → KnT (valMk n cs) n a cs bK W → Calls Tryd.prog 64 #[.agg #[.int .i64 n, .slice a cs.length c], .int .i64 F, .int .i64 S, .slice (some ⟨bK, 0, none⟩) M M] W (RetK bK (KnT (valMk n cs) n a cs bK) (.bool (decide (lvM n cs F S = 1))) W) := by
  intro k
  induction k with
  | zero =>
    intro F S W hst hf hk hT
    refine maker_walk n a c cs hok bK M hM F S hst hf W hT (fun p V hp _ _ => ?_)
    rw [show frees n F S = [] from List.eq_nil_of_length_eq_zero hk] at hp
    cases hp
  | succ k ih =>
    intro F S W hst hf hk hT
    refine maker_walk n a c cs hok bK M hM F S hst hf W hT (fun p V hp hfp hv => ?_)
    obtain ⟨h1, h2, _⟩ := hst.move hp
    exact ih _ _ V h1 hfp (by omega) hv
end Go.Proofs.YtkekanllfpdeaaaDoor
