/-
  CellsOfFleet: both texts.
-/
import Derived.Test.YtkekanllfpdeaaaDoorAn
import Derived.Test.YtkekanllfpdeaaaDoorTz
namespace Go.Proofs.YtkekanllfpdeaaaDoor
open Go.RowKit
set_option linter.unusedVariables false

theorem codF_zero {wd hi : Int} {cs f : List Int} (h : codF wd hi cs f = 0) : seaB wd hi cs = true ∧ fleetB wd hi cs f = true := by
  unfold codF at h
  split at h
  · split at h
    · exact ⟨by assumption, by assumption⟩
    · omega
  · omega
theorem fleet_facts {wd hi : Int} {cs f : List Int} (hs : seaB wd hi cs = true) (h : fleetB wd hi cs f = true) : f.length = cs.length ∧ ∀ z ∈ f, 0 ≤ z ∧ z < 33554432 := by
  simp only [fleetB, Bool.and_eq_true, decide_eq_true_eq, List.all_eq_true, List.mem_range] at h
  refine ⟨h.1, fun z hz => ?_⟩
  obtain ⟨i, hi, rfl⟩ := List.mem_iff_getElem.1 hz
  have h2 := h.2 i hi
  unfold stepB at h2
  rw [Bool.and_eq_true, List.getD_eq_getElem?_getD, List.getElem?_eq_getElem hi] at h2
  exact (plAt_facts hs (by omega)).1 _ (List.contains_iff_mem.1 h2.1)

def celR (wd hi : Int) (cs f : List Int) : List Int × Int := if codF wd hi cs f = 0 then (pre (drawn (setL f)) 25, 0) else ([], codF wd hi cs f)
theorem celR_le (wd hi : Int) (cs f : List Int) : (celR wd hi cs f).1.length ≤ 1048576 := by
  unfold celR
  split
  · have := pre_le (drawn (setL f)) 25
    show (pre (drawn (setL f)) 25).length ≤ _
    omega
  · simp
theorem made_own {B : Nat} {W0 w : World} (h : Below B W0 w) (hs : B ≤ w.heap.size) : Owns B W0 (w.alloc (.cells #[] 2)) (.slice (some ⟨w.heap.size, 0, none⟩) 0 0) [] := by
  refine ⟨⟨rfl, .inr ⟨w.heap.size, 0, #[], rfl, hs, heap_alloc_new w _, Nat.le_refl _, by unfold maxLen; omega, rfl, rfl⟩⟩, h.alloc hs _, by simp; omega⟩
theorem u64_smallC {k : Int} (h0 : 0 ≤ k) (h1 : k ≤ 64) : IntKind.u64.wrap k = k := by
  rw [IntKind.wrap_u64]
  omega

set_option maxRecDepth 100000 in
set_option maxHeartbeats 1000000 in
theorem l09Cells_any (x : Int) (h0 : 0 ≤ x) (h1 : x < 33554432) (W : World) : Calls Tryd.prog 82 #[.int .i64 x] W (NewL (pre (drawn x) 25) W) := by
  obtain ⟨i0, hi0, hz0, hz1, hz2⟩ := info_parts Tryd.info2
  obtain ⟨q, hq⟩ : ∃ q, q = drawn x := ⟨_, rfl⟩
  have HQ := hide hq
  rw [← hq]
  have hO : Hid (Owns W.heap.size W (W.alloc (.cells #[] 2)) (.slice (some ⟨W.heap.size, 0, none⟩) 0 0) (pre q 0)) := hide (made_own (Below.refl _ _) (Nat.le_refl _))
  clear hq
  go_enter Tryd.func82, Tryd.ntmps82
  go_wp2_with fail
  go_loopw [3, 4] (fun v i wr => ∃ (k : Nat) (v0 : Value), v0 = v ∧ k ≤ 25 ∧ i = .int .i64 k ∧ Owns W.heap.size W wr v (pre q k)) (fun _ i _ => 25 - (intOf i).toNat)
  case atStart => exact ⟨0, _, rfl, Nat.zero_le _, rfl, hO.out⟩
  case round =>
    clear hO
    obtain ⟨k, v, rfl, hk, rfl, hO⟩ := hrel
    by_cases hlt : k < 25
    · have hple := pre_le q k
      have hdw := dg_walkL (E := x) (k := (k : Int)) h0 (by omega)
      rw [Int.toNat_natCast] at hdw
      have hku := u64_smallC (show (0 : Int) ≤ (k : Int) by omega) (by omega)
      have HO := hide hO
      have hown := hO.own
      have hsz := hO.size
      cases hd : drawn x (k : Int)
      · have hdg := dg_of_free hd
        rw [hdg] at hdw
        have HN := hide (pre_no (p := q) (k := k) (by rw [HQ.out]; exact hd))
        clear hO hown hd hdg
        go_wp2_with fail
        go_roundw
        case rel => exact ⟨k + 1, _, rfl, by omega, by go_num, by rw [HN.out]; exact HO.out⟩
        case measure => simp [intOf]; omega
      · have hdg := dg_of_drawn hd
        rw [hdg] at hdw
        have HY := hide (pre_yes (p := q) (k := k) (by rw [HQ.out]; exact hd))
        clear hO hd hdg
        go_wp2_with (at_builtin; refine wpList_append_own _ rfl _ _ 22 rfl (W.heap.size) 2 i0 (.int .i64 0) 1 8 Tryd.underlying22 hi0 hz0 hz1 hz2 rfl (by decide) _ _ _ rfl (hown.alloc _) ⟨wr.heap.size, 0, none⟩ 1 1 [.int .i64 k] rfl rfl (cell_one_new _ _ _) (by simp [Value.oneCell']) (by unfold maxLen; omega) (by omega) (by simp; omega) ?_)
        intro v' w5 hown' hgrow _
        have HO5 := hide (HO.out.snoc (by simpa using hown') hgrow)
        clear hown' hgrow hown
        go_wp2_with fail
        go_roundw
        case rel => exact ⟨k + 1, _, rfl, by omega, by go_num, by rw [HY.out]; exact HO5.out⟩
        case measure => simp [intOf]; omega
    · obtain rfl : k = 25 := by omega
      have HL := hide (hO.list (Below.refl _ _) (Nat.le_refl _))
      clear hO
      go_wp2_with fail
      go_ret
      exact HL.out

set_option maxRecDepth 100000 in
set_option maxHeartbeats 1000000 in
theorem l09Set_any (af : Option Addr) (cf : Nat) (f : List Int) (W : World) (hf : IntsAt W af f) (hl : f.length ≤ 1048576) (hz : ∀ z ∈ f, 0 ≤ z ∧ z < 33554432) :
    Calls Tryd.prog 83 #[.slice af f.length cf] W (RetB (.int .i64 (setL f)) W) := by
  have HF := hide hf
  have HZ := hide hz
  clear hf hz
  go_enter Tryd.func83, Tryd.ntmps83
  go_wp2_with fail
  go_loopw [3, 4] (fun s i wr => ∃ (k : Nat) (u : Int), s = .int .i64 u ∧ i = .int .i64 k ∧ k ≤ f.length ∧ Hid (u = setL (f.take k)) ∧ 0 ≤ u ∧ u < 33554432 ∧ Below W.heap.size W wr) (fun _ i _ => f.length - (intOf i).toNat)
  case atStart => exact ⟨0, 0, rfl, rfl, Nat.zero_le _, hide rfl, by omega, by omega, Below.refl _ _⟩
  case round =>
    obtain ⟨k, u, rfl, rfl, hk, hu, u0, u1, hB⟩ := hrel
    by_cases hlt : k < f.length
    · obtain ⟨b1, o1, z, rfl, hc, hgz⟩ := (HF.out.keep hB).one hlt
      obtain ⟨z0, z1⟩ := HZ.out z (mem_of_get hgz.out)
      have hor := or_walkI (x := u) (y := z) u0 (by omega) z0 (by omega)
      have hr := orI_range (x := u) (y := z) (n := 25) u0 (by omega) z0 (by omega)
      obtain ⟨O, hO⟩ : ∃ O, O = orI u z := ⟨_, rfl⟩
      rw [← hO] at hor hr
      have hn : Hid (O = setL (f.take (k + 1))) := hide (by rw [hO, List.take_add_one, hgz.out, hu.out]; exact (setL_snoc _ _).symm)
      obtain ⟨r0, r1⟩ := hr
      clear hO hu
      go_wp2_with fail
      go_roundw
      case rel => exact ⟨k + 1, O, rfl, by go_num, by omega, hn, r0, by omega, hB⟩
      case measure => simp [intOf]; omega
    · obtain rfl : k = f.length := by omega
      have hn : Hid (u = setL f) := hide (by rw [hu.out, List.take_length])
      go_wp2_with fail
      go_ret
      exact ⟨by rw [← hn.out]; first | done | rfl, hB⟩

set_option maxRecDepth 100000 in
set_option maxHeartbeats 2000000 in
theorem implCel_any (wd hi : Int) (a : Option Addr) (c : Nat) (cs : List Int) (af : Option Addr) (cf : Nat) (f : List Int) (W : World) (ha : IntsAt W a cs) (hl : cs.length ≤ 1048576) (hf : IntsAt W af f) (hfl : f.length ≤ 1048576) (hT : TzTab W) :
    Calls Tryd.prog 40 #[.agg #[.int .i64 wd, .int .i64 hi, .slice a cs.length c], .slice af f.length cf] W (NewList (celR wd hi cs f) W) := by
  obtain ⟨W0, hW0⟩ : ∃ W0, W0 = W.alloc (.cells #[.int .i64 wd, .int .i64 hi, .slice a cs.length c] 52) := ⟨_, rfl⟩
  have hB0 : Hid (Below W.heap.size W W0) := by rw [hW0]; exact hide (below_alloc _ _)
  have hX0 : Hid (SeaIn W0 W.heap.size wd hi a cs.length c) := by rw [hW0]; exact hide (seaIn_new _ _ _ _ _ _ _)
  have HT := hide (hT.keep hB0.out)
  have HA := hide (ha.keep hB0.out)
  have HF := hide (hf.keep hB0.out)
  obtain ⟨c0, c1, c2⟩ := hX0.out
  obtain ⟨K, hK⟩ : ∃ K, K = codF wd hi cs f := ⟨_, rfl⟩
  have HC := hide (checkFleet_any wd hi a c cs af cf f W0 HA.out hl HF.out hfl)
  rw [← hK] at HC
  have HK := hide hK
  clear ha hf hK hT
  by_cases hk : K = 0
  · subst hk
    obtain ⟨hs, hq⟩ := codF_zero HK.out.symm
    obtain ⟨_, _, _, _, l1, l3, _⟩ := seaB_yes hs
    have HFF := hide (fleet_facts hs hq)
    have hsr := setL_range HFF.out.2
    obtain ⟨S, hS⟩ : ∃ S, S = setL f := ⟨_, rfl⟩
    have HR : Hid (celR wd hi cs f = (pre (drawn S) 25, 0)) := hide (by unfold celR; rw [if_pos HK.out.symm, hS])
    rw [HR.out]
    rw [← hS] at hsr
    have hfl1 : f.length = cs.length := HFF.out.1
    obtain ⟨p1, p2, p3, hp⟩ : ∃ p1 p2 p3, padF f = (p1, p2, p3) := ⟨_, _, _, rfl⟩
    have HPF : Hid (∀ (V : World) (b o cf' : Nat), IntsAt V (some ⟨b, o, none⟩) f → Calls Tryd.prog 85 #[.slice (some ⟨b, o, none⟩) f.length cf'] V (RetB (.agg #[.int .i64 p1, .int .i64 p2, .int .i64 p3]) V)) := hide (fun V b o cf' h => by
      have k := placedFrom_any b o cf' f V h (by omega) (by omega)
      rw [hp] at k
      exact k)
    have HCE : Hid (∀ V : World, Calls Tryd.prog 86 #[.agg #[.int .i64 p1, .int .i64 p2, .int .i64 p3]] V (RetB (.int .i64 S) V)) := hide (fun V => by
      have k := cells_any (padF f) (okT_pad HFF.out.2) V
      rw [set3_pad (by omega), hp, ← hS] at k
      exact k)
    have HNO := hide (fun V hv => nodesOf_gen 25 S (by omega) hsr.1 (by have := hsr.2; omega) V hv)
    obtain ⟨A, hA⟩ : ∃ A, A = pre (drawn S) 25 := ⟨_, rfl⟩
    rw [← hA] at HNO ⊢
    have hfp : 0 < f.length := by omega
    obtain ⟨bf, of, hbf, _⟩ := HF.out (by intro e; rw [List.map_eq_nil_iff] at e; rw [e] at hfp; simp at hfp)
    subst hbf
    clear hs hq hS hp hfl1 hA hsr
    go_enter Tryd.func40, Tryd.ntmps40
    go_wp2_with fail
    rw [← hW0]
    clear hW0
    (try go_wp2_with fail)
    refine HC.out.mono ?_
    rintro e w1 ⟨rfl, hb1⟩
    have hB1 := hide (Below.trans' hB0.out hb1)
    have HF1 := hide (HF.out.keep hb1)
    have HT1 := hide (HT.out.keep hb1)
    clear hb1 c0 c1 c2
    go_wp2_with fail
    refine (HPF.out _ _ _ _ HF1.out).mono ?_
    rintro e w2 ⟨rfl, hb2⟩
    have hB2 := hide (Below.trans' hB1.out hb2)
    have HT2 := hide (HT1.out.keep hb2)
    clear hb2
    go_wp2_with fail
    refine (HCE.out _).mono ?_
    rintro e w3 ⟨rfl, hb3⟩
    have hB3 := hide (Below.trans' hB2.out hb3)
    have HT3 := hide (HT2.out.keep hb3)
    clear hb3
    go_wp2_with fail
    refine (HNO.out _ HT3.out).mono ?_
    rintro e w4 ⟨a4, c4, rfl, ho4, hb4⟩
    have HFIN : Hid (NewList (A, 0) W (.returned (.tuple #[.slice a4 A.length c4, .int .i64 0])) w4) := hide ⟨a4, c4, rfl, ownsRow_base ho4 hB3.out.size, Below.trans' hB3.out hb4⟩
    clear ho4 hb4
    go_wp2_with fail
    go_ret2
    exact HFIN.out
  · have HR : Hid (celR wd hi cs f = ([], K)) := hide (by unfold celR; rw [← HK.out, if_neg hk])
    rw [HR.out]
    have e0 : (K != 0) = true := by simp [hk]
    clear hk
    go_enter Tryd.func40, Tryd.ntmps40
    go_wp2_with fail
    rw [← hW0]
    clear hW0
    (try go_wp2_with fail)
    refine HC.out.mono ?_
    rintro e w1 ⟨rfl, hb1⟩
    have hfin := hide (newList_nil _ _ K (Below.trans' hB0.out hb1))
    clear hb1 c0 c1 c2
    go_wp2_with fail
    go_ret2
    exact hfin.out

set_option maxRecDepth 100000 in
set_option maxHeartbeats 2000000 in
theorem specCel_any (wd hi : Int) (a : Option Addr) (c : Nat) (cs : List Int) (af : Option Addr) (cf : Nat) (f : List Int) (W : World) (ha : IntsAt W a cs) (hl : cs.length ≤ 1048576) (hf : IntsAt W af f) (hfl : f.length ≤ 1048576) :
    Calls Tryd.prog 37 #[.agg #[.int .i64 wd, .int .i64 hi, .slice a cs.length c], .slice af f.length cf] W (NewList (celR wd hi cs f) W) := by
  obtain ⟨W0, hW0⟩ : ∃ W0, W0 = W.alloc (.cells #[.int .i64 wd, .int .i64 hi, .slice a cs.length c] 52) := ⟨_, rfl⟩
  have hB0 : Hid (Below W.heap.size W W0) := by rw [hW0]; exact hide (below_alloc _ _)
  have hX0 : Hid (SeaIn W0 W.heap.size wd hi a cs.length c) := by rw [hW0]; exact hide (seaIn_new _ _ _ _ _ _ _)
  have HA := hide (ha.keep hB0.out)
  have HF := hide (hf.keep hB0.out)
  obtain ⟨c0, c1, c2⟩ := hX0.out
  obtain ⟨K, hK⟩ : ∃ K, K = codF wd hi cs f := ⟨_, rfl⟩
  have HC := hide (l09Code_any wd hi a c cs af cf f W0 HA.out hl HF.out hfl)
  rw [← hK] at HC
  have HK := hide hK
  clear ha hf hK
  by_cases hk : K = 0
  · subst hk
    obtain ⟨hs, hq⟩ := codF_zero HK.out.symm
    have HFF := hide (fleet_facts hs hq)
    have hsr := setL_range HFF.out.2
    obtain ⟨S, hS⟩ : ∃ S, S = setL f := ⟨_, rfl⟩
    have HR : Hid (celR wd hi cs f = (pre (drawn S) 25, 0)) := hide (by unfold celR; rw [if_pos HK.out.symm, hS])
    rw [HR.out]
    rw [← hS] at hsr
    have HSE : Hid (∀ V : World, IntsAt V af f → Calls Tryd.prog 83 #[.slice af f.length cf] V (RetB (.int .i64 S) V)) := hide (fun V hv => by rw [hS]; exact l09Set_any af cf f V hv hfl HFF.out.2)
    have HNO := hide (fun V => l09Cells_any S hsr.1 hsr.2 V)
    obtain ⟨A, hA⟩ : ∃ A, A = pre (drawn S) 25 := ⟨_, rfl⟩
    rw [← hA] at HNO ⊢
    clear hs hq hS hA hsr
    go_enter Tryd.func37, Tryd.ntmps37
    go_wp2_with fail
    rw [← hW0]
    clear hW0
    (try go_wp2_with fail)
    refine HC.out.mono ?_
    rintro e w1 ⟨rfl, hb1⟩
    have hB1 := hide (Below.trans' hB0.out hb1)
    have HF1 := hide (HF.out.keep hb1)
    clear hb1 c0 c1 c2
    go_wp2_with fail
    refine (HSE.out _ HF1.out).mono ?_
    rintro e w2 ⟨rfl, hb2⟩
    have hB2 := hide (Below.trans' hB1.out hb2)
    clear hb2
    go_wp2_with fail
    refine (HNO.out _).mono ?_
    rintro e w4 ⟨a4, c4, rfl, ho4, hb4⟩
    have HFIN : Hid (NewList (A, 0) W (.returned (.tuple #[.slice a4 A.length c4, .int .i64 0])) w4) := hide ⟨a4, c4, rfl, ownsRow_base ho4 hB2.out.size, Below.trans' hB2.out hb4⟩
    clear ho4 hb4
    go_wp2_with fail
    go_ret2
    exact HFIN.out
  · have HR : Hid (celR wd hi cs f = ([], K)) := hide (by unfold celR; rw [← HK.out, if_neg hk])
    rw [HR.out]
    have e0 : (K != 0) = true := by simp [hk]
    clear hk
    go_enter Tryd.func37, Tryd.ntmps37
    go_wp2_with fail
    rw [← hW0]
    clear hW0
    (try go_wp2_with fail)
    refine HC.out.mono ?_
    rintro e w1 ⟨rfl, hb1⟩
    have hfin := hide (newList_nil _ _ K (Below.trans' hB0.out hb1))
    clear hb1 c0 c1 c2
    go_wp2_with fail
    go_ret2
    exact hfin.out
end Go.Proofs.YtkekanllfpdeaaaDoor
