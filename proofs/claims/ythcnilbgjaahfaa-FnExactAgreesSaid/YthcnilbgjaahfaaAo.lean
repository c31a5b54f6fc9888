/-
  AnswersOf, both texts.
-/
import Derived.Test.YthcnilbgjaahfaaAd
namespace Go.Proofs.Ythcnilbgjaahfaa
open Go.RowKit
set_option linter.unusedVariables false

/-- The answers to shots, when the shots before are at the set s. -/
def ansL (f : List Int) : List Int → Int → List Int
  | [], _ => []
  | x :: t, s => ansF x (withE s x) f :: ansL f t (withE s x)
theorem ansL_len (f : List Int) : ∀ (xs : List Int) (s : Int), (ansL f xs s).length = xs.length
  | [], _ => rfl
  | x :: t, s => by show (ansL f t _).length + 1 = t.length + 1; rw [ansL_len f t]
def ansR (wd hi : Int) (cs f xs : List Int) : List Int × Int := if codF wd hi cs f = 0 then (if difF (wd * hi) xs 0 = true then (ansL f xs 0, 0) else ([], 2)) else ([], codF wd hi cs f)
theorem ansR_le (wd hi : Int) (cs f xs : List Int) : (ansR wd hi cs f xs).1.length ≤ xs.length := by
  unfold ansR
  split
  · split
    · rw [ansL_len]; omega
    · simp
  · simp
theorem codF_zero {wd hi : Int} {cs f : List Int} (h : codF wd hi cs f = 0) : seaB wd hi cs = true ∧ fleetB wd hi cs f = true := by
  unfold codF at h
  split at h
  · split at h
    · exact ⟨by assumption, by assumption⟩
    · omega
  · omega
theorem fleet_facts {wd hi : Int} {cs f : List Int} (hs : seaB wd hi cs = true) (h : fleetB wd hi cs f = true) : f.length = cs.length ∧ ∀ z ∈ f, 0 ≤ z ∧ z < 33554432 := by
  simp only [fleetB, Bool.and_eq_true, decide_eq_true_eq, List.all_eq_true, List.mem_range] at h
  refine ⟨h.1, fun z hz => ?_⟩
  obtain ⟨i, hi, rfl⟩ := List.mem_iff_getElem.1 hz
  have h2 := h.2 i hi
  unfold stepB at h2
  rw [Bool.and_eq_true, List.getD_eq_getElem?_getD, List.getElem?_eq_getElem hi] at h2
  exact (plAt_facts hs (by omega)).1 _ (List.contains_iff_mem.1 h2.1)
theorem difF_mem {n : Int} : ∀ {xs : List Int} {s : Int}, difF n xs s = true → ∀ x ∈ xs, 0 ≤ x ∧ x < n
  | [], _, _, x, h => by cases h
  | y :: t, s, hd, x, h => by
    unfold difF at hd
    split at hd
    · rename_i k
      rcases List.mem_cons.1 h with rfl | h
      · exact ⟨k.1, k.2.1⟩
      · exact difF_mem hd x h
    · cases hd
theorem copiedN_set {w : World} {b : Nat} {t : TypeId} {n : Nat} {zs : List Int} {k : Nat} {z : Int} (h : w.rowIs b t n (copied zs k)) (hz : zs[k]? = some z) :
    (w.setCell ⟨b, k, none⟩ (.int .i64 z)).rowIs b t n (copied zs (k + 1)) := by
  refine (h.set k (.int .i64 z)).congr ?_
  intro i _
  unfold copied
  by_cases e : i = k
  · subst e; simp [hz]
  · simp only [e, if_false]
    by_cases h1 : i < k
    · rw [if_pos h1, if_pos (by omega)]
    · rw [if_neg h1, if_neg (by omega)]

set_option maxRecDepth 100000 in
set_option maxHeartbeats 8000000 in
theorem specAnswers_any (wd hi : Int) (a : Option Addr) (c : Nat) (cs : List Int) (af : Option Addr) (cf : Nat) (f : List Int) (ax : Option Addr) (cx : Nat) (xs : List Int) (W : World) (ha : IntsAt W a cs) (hl : cs.length ≤ 1048576) (hf : IntsAt W af f) (hfl : f.length ≤ 1048576) (hx : IntsAt W ax xs) (hxl : xs.length ≤ 1048576) :
    Calls Try.prog 33 #[.agg #[.int .i64 wd, .int .i64 hi, .slice a cs.length c], .slice af f.length cf, .slice ax xs.length cx] W (NewList (ansR wd hi cs f xs) W) := by
  obtain ⟨i0, hi0, hz0, hz1, hz2⟩ := info_parts Try.info2
  obtain ⟨W0, hW0⟩ : ∃ W0, W0 = W.alloc (.cells #[.int .i64 wd, .int .i64 hi, .slice a cs.length c] 27) := ⟨_, rfl⟩
  have hB0 : Hid (Below W.heap.size W W0) := by rw [hW0]; exact hide (below_alloc _ _)
  have hX0 : Hid (SeaIn W0 W.heap.size wd hi a cs.length c) := by rw [hW0]; exact hide (seaIn_new _ _ _ _ _ _ _)
  have HA := hide (ha.keep hB0.out)
  have HF := hide (hf.keep hB0.out)
  have HX := hide (hx.keep hB0.out)
  obtain ⟨c0, c1, c2⟩ := hX0.out
  obtain ⟨K, hK⟩ : ∃ K, K = codF wd hi cs f := ⟨_, rfl⟩
  have HC := hide (l09Code_any wd hi a c cs af cf f W0 HA.out hl HF.out hfl)
  rw [← hK] at HC
  have HK := hide hK
  clear ha hf hx hK
  by_cases hk : K = 0
  · subst hk
    obtain ⟨hs, hq⟩ := codF_zero HK.out.symm
    obtain ⟨q1, q25⟩ := sea_q hs
    have HFF := hide (fleet_facts hs hq).2
    have HD := hide (fun V ax cx hx => l09Different_any wd hi a cs.length c ax cx xs V q1 q25 hx hxl)
    have HRN : Hid (ansR wd hi cs f xs = if difF (wd * hi) xs 0 = true then (ansL f xs 0, 0) else ([], 2)) := hide (by unfold ansR; rw [if_pos HK.out.symm])
    have HDM := hide (difF_mem (n := wd * hi) (xs := xs) (s := 0))
    have HQ := hide q25
    clear hs hq q1 q25
    cases hd : difF (wd * hi) xs 0
    · have hR : Hid (ansR wd hi cs f xs = ([], 2)) := hide (by rw [HRN.out, hd]; rfl)
      rw [hR.out]
      rw [hd] at HD
      clear hd HRN HDM
      go_enter Try.func33, Try.ntmps33
      go_wp2_with fail
      rw [← hW0]
      clear hW0
      (try go_wp2_with fail)
      refine HC.out.mono ?_
      rintro e w1 ⟨rfl, hb1⟩
      have hB1 := hide (Below.trans' hB0.out hb1)
      obtain ⟨d0, d1, d2⟩ := hX0.out.keep hb1
      have HX1 := hide (HX.out.keep hb1)
      clear hb1 c0 c1 c2
      go_wp2_with fail
      refine (HD.out _ _ _ HX1.out).mono ?_
      rintro e w2 ⟨rfl, hb2⟩
      have hfin := hide (newList_nil _ _ 2 (Below.trans' hB1.out hb2))
      clear hb2 d0 d1 d2
      go_wp2_with fail
      go_ret2
      exact hfin.out
    · have hR : Hid (ansR wd hi cs f xs = (ansL f xs 0, 0)) := hide (by rw [HRN.out, hd]; rfl)
      rw [hR.out]
      have HM : Hid (∀ x ∈ xs, 0 ≤ x ∧ x < 25) := hide (fun x h => by have := HDM.out hd x h; have := HQ.out; omega)
      rw [hd] at HD
      obtain ⟨A, hA⟩ : ∃ A, A = ansL f xs 0 := ⟨_, rfl⟩
      rw [← hA]
      have HAN := hide hA
      clear hd HRN HDM hA
      go_enter Try.func33, Try.ntmps33
      go_wp2_with fail
      rw [← hW0]
      clear hW0
      (try go_wp2_with fail)
      refine HC.out.mono ?_
      rintro e w1 ⟨rfl, hb1⟩
      have hB1 := hide (Below.trans' hB0.out hb1)
      obtain ⟨d0, d1, d2⟩ := hX0.out.keep hb1
      have HX1 := hide (HX.out.keep hb1)
      have HF1 := hide (HF.out.keep hb1)
      clear hb1 c0 c1 c2
      go_wp2_with fail
      refine (HD.out _ _ _ HX1.out).mono ?_
      rintro e w2 ⟨rfl, hb2⟩
      have hB2 := hide (Below.trans' hB1.out hb2)
      have HX2 := hide (HX1.out.keep hb2)
      have HF2 := hide (HF1.out.keep hb2)
      obtain ⟨W3, hW3⟩ : ∃ W3, W3 = w2.alloc (.cells #[] 2) := ⟨_, rfl⟩
      have hO3 : Hid (Owns w2.heap.size w2 W3 (.slice (some ⟨w2.heap.size, 0, none⟩) 0 0) []) := by rw [hW3]; exact hide ⟨⟨rfl, .inr ⟨w2.heap.size, 0, #[], rfl, Nat.le_refl _, heap_alloc_new w2 _, Nat.le_refl _, by unfold maxLen; omega, rfl, rfl⟩⟩, below_alloc _ _, by simp⟩
      clear hb2 d0 d1 d2
      go_wp2_with fail
      rw [← hW3]
      clear hW3
      go_loopw [9, 10, 11] (fun v9 v10 v11 wr => ∃ (i : Nat) (s : Int) (done : List Int), v10 = .int .i64 s ∧ v11 = .int .i64 i ∧ i ≤ xs.length ∧ done.length = i ∧ (0 ≤ s ∧ s < 33554432) ∧ Hid (A = done ++ ansL f (xs.drop i) s) ∧ Hid (Owns w2.heap.size w2 wr v9 done)) (fun _ _ v11 _ => xs.length - (intOf v11).toNat)
      case atStart => exact ⟨0, 0, [], rfl, rfl, Nat.zero_le _, rfl, by omega, hide (by rw [List.drop_zero]; exact HAN.out), hO3⟩
      case round =>
        clear hO3
        obtain ⟨i, s, done, rfl, rfl, hi2, hdl, ⟨s0, s1⟩, hI, hO⟩ := hrel
        have HX4 := hide (HX2.out.keep hO.out.old)
        have HF4 := hide (HF2.out.keep hO.out.old)
        by_cases hlt : i < xs.length
        · obtain ⟨b1, o1, x, rfl, ex, hg⟩ := HX4.out.one hlt
          obtain ⟨x0, x1⟩ := HM.out x (mem_of_get hg.out)
          have hcn : ¬ (x < 0) := by omega
          have f7 := u64_small (k := x) x0 (by omega)
          have f13 : min x.toNat 64 = x.toNat := by omega
          have hsh := shl_walkX (k := x) (by omega)
          have hor := or_walkX (E := s) (k := x) s0 (by omega) (by omega)
          have HLT2 : Hid (0 ≤ withE s x ∧ withE s x < 33554432) := hide ⟨withE_nonneg _ _, withE_lt (n := 25) s0 s1 (by omega)⟩
          obtain ⟨E, hE⟩ : ∃ E, E = withE s x := ⟨_, rfl⟩
          obtain ⟨an, han⟩ : ∃ an, an = ansF x E f := ⟨_, rfl⟩
          have HI2 : Hid (A = (done ++ [an]) ++ ansL f (xs.drop (i + 1)) E) := hide (by rw [hI.out, drop_of_get hg.out, han, hE, List.append_assoc]; rfl)
          rw [← hE] at hor HLT2
          have HCA := hide (l09Answer_any _ cf f x E wr HF4.out hfl HFF.out x0 (by omega))
          rw [← han] at HCA
          have HX0 := hide (And.intro x0 x1)
          clear hI hg hE han x0 x1 s0 s1
          go_wp2_with fail
          refine HCA.out.mono ?_
          rintro e w5 ⟨rfl, hb5⟩
          have hO5 := hO.out.keep hb5
          have hown5 := hO5.own
          have hsz := hO5.size
          rw [hdl] at hown5
          have HO5 := hide hO5
          clear hO5 hO hb5 f7 f13 hsh hor hcn ex
          go_wp2_with (at_builtin; refine wpList_append_own _ rfl _ _ 22 rfl (w2.heap.size) 2 i0 (.int .i64 0) 1 8 Try.underlying22 hi0 hz0 hz1 hz2 rfl (by decide) _ _ _ rfl (hown5.alloc _) ⟨w5.heap.size, 0, none⟩ 1 1 [.int .i64 an] rfl rfl (cell_one_new _ _ _) (by simp [Value.oneCell']) (by unfold maxLen; omega) (by omega) (by simp; omega) ?_)
          intro v' w7 hown' hgrow _
          have HO7 := hide (HO5.out.snoc (by rw [hdl]; simpa using hown') hgrow)
          clear hown' hgrow hown5
          go_wp2_with fail
          go_roundw
          case rel => exact ⟨i + 1, E, done ++ [an], rfl, by go_num, by omega, by simp [hdl], HLT2.out, HI2, HO7⟩
          case measure => simp [intOf]; omega
        · obtain rfl : i = xs.length := by omega
          have hAd : A = done := by rw [hI.out, List.drop_length]; simp [ansL]
          obtain ⟨av, cv, hv⟩ := own_form hO.out.own
          subst hv
          have hfin : Hid (NewList (A, 0) W (.returned (.tuple #[.slice av done.length cv, .int .i64 0])) wr) := hide (by rw [hAd]; exact newList_of hB2.out hO.out.own hO.out.old)
          clear hI hO hAd
          go_wp2_with fail
          go_ret2
          exact hfin.out
  · have hR : Hid (ansR wd hi cs f xs = ([], K)) := hide (by unfold ansR; rw [← HK.out, if_neg hk])
    rw [hR.out]
    have hne : (K != 0) = true := by simp [hk]
    clear hk
    go_enter Try.func33, Try.ntmps33
    go_wp2_with fail
    rw [← hW0]
    clear hW0
    (try go_wp2_with fail)
    refine HC.out.mono ?_
    rintro e w1 ⟨rfl, hb1⟩
    have hfin := hide (newList_nil _ _ K (Below.trans' hB0.out hb1))
    clear hb1 c0 c1 c2
    go_wp2_with fail
    go_ret2
    exact hfin.out

set_option maxRecDepth 100000 in
set_option maxHeartbeats 8000000 in
theorem implAnswers_any (wd hi : Int) (a : Option Addr) (c : Nat) (cs : List Int) (af : Option Addr) (cf : Nat) (f : List Int) (ax : Option Addr) (cx : Nat) (xs : List Int) (W : World) (ha : IntsAt W a cs) (hl : cs.length ≤ 1048576) (hf : IntsAt W af f) (hfl : f.length ≤ 1048576) (hx : IntsAt W ax xs) (hxl : xs.length ≤ 1048576) :
    Calls Try.prog 34 #[.agg #[.int .i64 wd, .int .i64 hi, .slice a cs.length c], .slice af f.length cf, .slice ax xs.length cx] W (NewList (ansR wd hi cs f xs) W) := by
  obtain ⟨W0, hW0⟩ : ∃ W0, W0 = W.alloc (.cells #[.int .i64 wd, .int .i64 hi, .slice a cs.length c] 27) := ⟨_, rfl⟩
  have hB0 : Hid (Below W.heap.size W W0) := by rw [hW0]; exact hide (below_alloc _ _)
  have hX0 : Hid (SeaIn W0 W.heap.size wd hi a cs.length c) := by rw [hW0]; exact hide (seaIn_new _ _ _ _ _ _ _)
  have HA := hide (ha.keep hB0.out)
  have HF := hide (hf.keep hB0.out)
  have HX := hide (hx.keep hB0.out)
  obtain ⟨c0, c1, c2⟩ := hX0.out
  obtain ⟨K, hK⟩ : ∃ K, K = codF wd hi cs f := ⟨_, rfl⟩
  have HC := hide (checkFleet_any wd hi a c cs af cf f W0 HA.out hl HF.out hfl)
  rw [← hK] at HC
  have HK := hide hK
  clear ha hf hx hK
  by_cases hk : K = 0
  · subst hk
    obtain ⟨hs, hq⟩ := codF_zero HK.out.symm
    obtain ⟨q1, q25⟩ := sea_q hs
    obtain ⟨_, _, _, _, l1, l3, _⟩ := seaB_yes hs
    have HFF := hide (fleet_facts hs hq)
    have HD := hide (fun V ax cx hx => areCells_any wd hi a cs.length c ax cx xs V q1 q25 hx hxl)
    have HRN : Hid (ansR wd hi cs f xs = if difF (wd * hi) xs 0 = true then (ansL f xs 0, 0) else ([], 2)) := hide (by unfold ansR; rw [if_pos HK.out.symm])
    have HDM := hide (difF_mem (n := wd * hi) (xs := xs) (s := 0))
    have HQ := hide q25
    clear hs hq q1 q25
    cases hd : difF (wd * hi) xs 0
    · have hR : Hid (ansR wd hi cs f xs = ([], 2)) := hide (by rw [HRN.out, hd]; rfl)
      rw [hR.out]
      rw [hd] at HD
      clear hd HRN HDM
      go_enter Try.func34, Try.ntmps34
      go_wp2_with fail
      rw [← hW0]
      clear hW0
      (try go_wp2_with fail)
      refine HC.out.mono ?_
      rintro e w1 ⟨rfl, hb1⟩
      have hB1 := hide (Below.trans' hB0.out hb1)
      obtain ⟨d0, d1, d2⟩ := hX0.out.keep hb1
      have HX1 := hide (HX.out.keep hb1)
      clear hb1 c0 c1 c2
      go_wp2_with fail
      refine (HD.out _ _ _ HX1.out).mono ?_
      rintro e w2 ⟨rfl, hb2⟩
      have hfin := hide (newList_nil _ _ 2 (Below.trans' hB1.out hb2))
      clear hb2 d0 d1 d2
      go_wp2_with fail
      go_ret2
      exact hfin.out
    · have hR : Hid (ansR wd hi cs f xs = (ansL f xs 0, 0)) := hide (by rw [HRN.out, hd]; rfl)
      rw [hR.out]
      have HM : Hid (∀ x ∈ xs, 0 ≤ x ∧ x < 25) := hide (fun x h => by have := HDM.out hd x h; have := HQ.out; omega)
      rw [hd] at HD
      obtain ⟨A, hA⟩ : ∃ A, A = ansL f xs 0 := ⟨_, rfl⟩
      rw [← hA]
      have HAN := hide hA
      have hAl : A.length = xs.length := by rw [hA, ansL_len]
      have HAL := hide hAl
      have hfl1 : f.length = cs.length := HFF.out.1
      obtain ⟨p1, p2, p3, hp⟩ : ∃ p1 p2 p3, padF f = (p1, p2, p3) := ⟨_, _, _, rfl⟩
      have HPF : Hid (∀ (V : World) (b o cf' : Nat), IntsAt V (some ⟨b, o, none⟩) f → Calls Try.prog 55 #[.slice (some ⟨b, o, none⟩) f.length cf'] V (RetB (.agg #[.int .i64 p1, .int .i64 p2, .int .i64 p3]) V)) := hide (fun V b o cf' h => by
        have k := placedFrom_any b o cf' f V h (by omega) (by omega)
        rw [hp] at k
        exact k)
      have HAS : Hid (∀ (x s : Int) (V : World), 0 ≤ x → x ≤ 27 → Calls Try.prog 63 #[.agg #[.int .i64 p1, .int .i64 p2, .int .i64 p3], .int .i64 x, .int .i64 s] V (RetB (.int .i64 (ansF x s f)) V)) := hide (fun x s V h0 h1 => by
        have k := answer_any f x s V (by omega) HFF.out.2 h0 h1
        rw [hp] at k
        exact k)
      have hmk := run_make_row' (P := Try.prog) 22 2 (.int .i64 0) 8 Try.underlying22 Try.info2 rfl .i64 .i64 xs.length (by omega) (by omega)
      have hfp : 0 < f.length := by omega
      clear hd HRN HDM hA hAl hp hfl1
      go_enter Try.func34, Try.ntmps34
      go_wp2_with fail
      rw [← hW0]
      clear hW0
      (try go_wp2_with fail)
      refine HC.out.mono ?_
      rintro e w1 ⟨rfl, hb1⟩
      have hB1 := hide (Below.trans' hB0.out hb1)
      obtain ⟨d0, d1, d2⟩ := hX0.out.keep hb1
      have HX1 := hide (HX.out.keep hb1)
      have HF1 := hide (HF.out.keep hb1)
      clear hb1 c0 c1 c2
      go_wp2_with fail
      refine (HD.out _ _ _ HX1.out).mono ?_
      rintro e w2 ⟨rfl, hb2⟩
      have hB2 := hide (Below.trans' hB1.out hb2)
      have HX2 := hide (HX1.out.keep hb2)
      have HF2 := hide (HF1.out.keep hb2)
      obtain ⟨b2, o2, z2, rfl, _, _⟩ := HF2.out.one hfp
      clear hb2 d0 d1 d2
      go_wp2_with fail
      refine (HPF.out _ _ _ _ HF2.out).mono ?_
      rintro e w3 ⟨rfl, hb3⟩
      have hB3 := hide (Below.trans' hB2.out hb3)
      have HX3 := hide (HX2.out.keep hb3)
      obtain ⟨W4, hW4⟩ : ∃ W4, W4 = w3.alloc (.cells #[.int .i64 p1, .int .i64 p2, .int .i64 p3] 70) := ⟨_, rfl⟩
      have hb4 : Below w3.heap.size w3 W4 := by rw [hW4]; exact below_alloc _ _
      have hr4 : Hid (W4.heap[w3.heap.size]? = some (.cells (cellsT (p1, p2, p3)) 70 (0, 0))) := by rw [hW4]; exact hide (heap_alloc_new _ _)
      have hB4 := hide (Below.trans' hB3.out hb4)
      have HX4 := hide (HX3.out.keep hb4)
      have hs4 : Hid (W4.heap.size = w3.heap.size + 1) := by rw [hW4]; exact hide (by simp)
      clear hb3 hb4
      have h0 := World.rowIs_made W4 (.int .i64 0) xs.length 2
      go_wp2_with fail
      rw [← hW4]
      clear hW4
      (try go_wp2_with fail)
      (try rw [← hs4.out])
      go_loopw [11, 31] (fun v11 v31 wr => ∃ (i : Nat) (s : Int), v11 = .int .i64 s ∧ v31 = .int .i64 i ∧ i ≤ xs.length ∧ (0 ≤ s ∧ s < 33554432) ∧ Hid (A.drop i = ansL f (xs.drop i) s) ∧ Hid (wr.rowIs W4.heap.size 2 xs.length (copied A i)) ∧ Below W4.heap.size W4 wr) (fun _ v31 _ => xs.length - (intOf v31).toNat)
      case atStart => exact ⟨0, 0, rfl, rfl, Nat.zero_le _, by omega, hide (by rw [List.drop_zero, List.drop_zero]; exact HAN.out), hide (h0.congr (fun i _ => by simp [copied])), (Below.refl _ _).alloc (Nat.le_refl _) _⟩
      case round =>
        clear h0
        obtain ⟨i, s, rfl, rfl, hi2, ⟨s0, s1⟩, hI, hr, hB⟩ := hrel
        have HX5 := hide (HX4.out.keep hB)
        have HB := hide hB
        obtain ⟨t0, t1, t2, _⟩ := boxT (box_keep hr4.out hB)
        dsimp only at t0 t1 t2
        by_cases hlt : i < xs.length
        · obtain ⟨b1, o1, x, rfl, ex, hg⟩ := HX5.out.one hlt
          obtain ⟨x0, x1⟩ := HM.out x (mem_of_get hg.out)
          have hcn : ¬ (x < 0) := by omega
          have f13 : min x.toNat 64 = x.toNat := by omega
          have hsh := shl_walkX (k := x) (by omega)
          have hor := or_walkX (E := s) (k := x) s0 (by omega) (by omega)
          have HLT2 : Hid (0 ≤ withE s x ∧ withE s x < 33554432) := hide ⟨withE_nonneg _ _, withE_lt (n := 25) s0 s1 (by omega)⟩
          obtain ⟨E, hE⟩ : ∃ E, E = withE s x := ⟨_, rfl⟩
          obtain ⟨an, han⟩ : ∃ an, an = ansF x E f := ⟨_, rfl⟩
          have hdr : A.drop i = an :: ansL f (xs.drop (i + 1)) E := by rw [hI.out, drop_of_get hg.out, han, hE]; rfl
          have hAi : A[i]? = some an := by have := congrArg (fun l => l[0]?) hdr; simpa using this
          have HI2 : Hid (A.drop (i + 1) = ansL f (xs.drop (i + 1)) E) := hide (by have := congrArg List.tail hdr; rw [List.tail_drop] at this; exact this)
          have HAI := hide hAi
          rw [← hE] at hor HLT2
          have HCA := hide (HAS.out x E wr x0 (by omega))
          rw [← han] at HCA
          clear hI hg hE han x0 x1 s0 s1 hdr hAi hB
          go_wp2_with fail
          refine HCA.out.mono ?_
          rintro e w5 ⟨rfl, hb5⟩
          have hr5 := hr.out.of_block (hb5.block _ hr.out.lt)
          have hce := hr5.cell hlt
          have hfr := hr5.frozen i
          have HR6 := hide (copiedN_set hr5 HAI.out)
          have HB5 := hide (Below.trans' HB.out hb5)
          have HB6 := hide (HB5.out.setCell (p := ⟨W4.heap.size, i, none⟩) (Nat.le_refl _) (.int .i64 an))
          clear hr hb5 hr5 f13 hsh hor hcn ex t0 t1 t2
          go_wp2_with fail
          go_roundw
          case rel => exact ⟨i + 1, E, rfl, by go_num, by omega, HLT2.out, HI2, HR6, HB6.out⟩
          case measure => simp [intOf]; omega
        · obtain rfl : i = xs.length := by omega
          have hfin : Hid (NewList (A, 0) W (.returned (.tuple #[.slice (some ⟨W4.heap.size, 0, none⟩) xs.length xs.length, .int .i64 0])) wr) := hide (by
            have ho := rowIs_owns (vs := A.map intV) hr.out (Nat.le_refl _) (by unfold maxLen; omega) (by rw [List.length_map]; exact HAL.out) (fun j hj => by
              rw [List.getElem?_map, List.getElem?_eq_getElem (show j < A.length by rw [HAL.out]; exact hj)]
              simp [copied, hj, intV, List.getElem?_eq_getElem (show j < A.length by rw [HAL.out]; exact hj)])
            rw [← HAL.out] at ho ⊢
            exact newList_of hB4.out ho hB)
          clear hI hr hB t0 t1 t2
          go_wp2_with fail
          go_ret2
          exact hfin.out
  · have hR : Hid (ansR wd hi cs f xs = ([], K)) := hide (by unfold ansR; rw [← HK.out, if_neg hk])
    rw [hR.out]
    have hne : (K != 0) = true := by simp [hk]
    clear hk
    go_enter Try.func34, Try.ntmps34
    go_wp2_with fail
    rw [← hW0]
    clear hW0
    (try go_wp2_with fail)
    refine HC.out.mono ?_
    rintro e w1 ⟨rfl, hb1⟩
    have hfin := hide (newList_nil _ _ K (Below.trans' hB0.out hb1))
    clear hb1 c0 c1 c2
    go_wp2_with fail
    go_ret2
    exact hfin.out
end Go.Proofs.Ythcnilbgjaahfaa
