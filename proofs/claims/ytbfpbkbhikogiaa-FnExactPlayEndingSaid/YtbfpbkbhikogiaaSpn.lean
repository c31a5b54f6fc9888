/-
  Ends of dots and boxes: SparingNumber, the model's text.
-/
import Derived.Test.YtbfpbkbhikogiaaAns
import Derived.Test.YtbfpbkbhikogiaaEnB
namespace Go.Proofs.Ytbfpbkbhikogiaa
open Go.RowKit
set_option linter.unusedVariables false

def kindOf (lp : Bool) : Int := match lp with | true => 1 | false => 0
def takerV (lp : Bool) (b v : Int) : Value := .tuple #[.int .i64 (b + v), .int .i64 (b - 2 * leftOf (kindOf lp) - v), .bool (spOpen (kindOf lp, b))]
set_option maxHeartbeats 400000 in
theorem taker_any (lp : Bool) (b v : Int) (W : World) (h0 : 0 ≤ b) (h1 : b ≤ 30) (h2 : -400 ≤ v) (h3 : v ≤ 400) :
    Calls Try.prog 66 #[.bool lp, .int .i64 b, .int .i64 v] W fun e W' => e = .returned (takerV lp b v) ∧ W = W' := by
  cases lp
  · have hl : Hid (takerV false b v = .tuple #[.int .i64 (b + v), .int .i64 (b - 4 - v), .bool (decide (2 < b))]) := hide (by simp [takerV, kindOf, leftOf, spOpen])
    rw [hl.out]
    go_enter Try.func66, Try.ntmps66
    go_wp2
    refine bodyPost_ret (v := .tuple #[.int .i64 (b + v), .int .i64 (b - 4 - v), .bool (decide (2 < b))]) (by simp [results, Try.results66, go_sem]) rfl ⟨rfl, rfl⟩
  · have hl : Hid (takerV true b v = .tuple #[.int .i64 (b + v), .int .i64 (b - 8 - v), .bool true]) := hide (by simp [takerV, kindOf, leftOf, spOpen])
    rw [hl.out]
    go_enter Try.func66, Try.ntmps66
    go_wp2
    refine bodyPost_ret (v := .tuple #[.int .i64 (b + v), .int .i64 (b - 8 - v), .bool true]) (by simp [results, Try.results66, go_sem]) rfl ⟨rfl, rfl⟩

def sparR (cs ls : List Int) : Int × Int := if okEn cs ls = true then (spar (strs cs ls), 0) else (0, 1)
theorem spar_yes {s : Int × Int} {ss : List (Int × Int)} {k : Nat} (h : ss[k]? = some s) (ho : spOpen s = true) (hk : k + 1 < ss.length) : spar (ss.drop k) = s.2 - 2 * leftOf s.1 + spar (ss.drop (k + 1)) := by
  rw [drop_of_get h, spar, if_pos ⟨fun e => by have := congrArg List.length e; simp at this; omega, ho⟩]
theorem spar_no {s : Int × Int} {ss : List (Int × Int)} {k : Nat} (h : ss[k]? = some s) (ho : spOpen s = false ∨ ¬ k + 1 < ss.length) : spar (ss.drop k) = s.2 - spar (ss.drop (k + 1)) := by
  rw [drop_of_get h, spar, if_neg]
  rintro ⟨h1, h2⟩
  rcases ho with ho | ho
  · rw [ho] at h2; cases h2
  · exact h1 (List.drop_eq_nil_of_le (by omega))
theorem strs_get1 {cs ls : List Int} {k : Nat} {b : Int} (h : cs[k]? = some b) : (strs cs ls)[k]? = some (0, b) := by
  have hk := (List.getElem?_eq_some_iff.1 h).1
  unfold strs
  rw [List.getElem?_append_left (by simpa using hk), List.getElem?_map, h]
  rfl
theorem strs_get2 {cs ls : List Int} {j : Nat} {b : Int} (h : ls[j]? = some b) : (strs cs ls)[cs.length + j]? = some (1, b) := by
  unfold strs
  rw [List.getElem?_append_right (by simp), List.length_map, Nat.add_sub_cancel_left, List.getElem?_map, h]
  rfl

set_option maxRecDepth 100000 in
set_option maxHeartbeats 4000000 in
theorem specSpar_any (a : Option Addr) (c : Nat) (cs : List Int) (a' : Option Addr) (c' : Nat) (ls : List Int) (W : World) (ha : IntsAt W a cs) (ha' : IntsAt W a' ls) (hl : cs.length ≤ 1048576) (hl' : ls.length ≤ 1048576) :
    Calls Try.prog 22 #[.agg #[.slice a cs.length c, .slice a' ls.length c']] W (RetB (numV (sparR cs ls)) W) := by
  obtain ⟨W0, hW0⟩ : ∃ W0, W0 = W.alloc (.cells #[.slice a cs.length c, .slice a' ls.length c'] 26) := ⟨_, rfl⟩
  have hB0 : Hid (Below W.heap.size W W0) := by rw [hW0]; exact hide (below_alloc _ _)
  have hX0 : Hid (EndIn W0 W.heap.size a cs.length c a' ls.length c') := by rw [hW0]; exact hide (endIn_new _ _ _ _ _ _ _ _)
  have hA0 := hide (ha.keep hB0.out)
  have hA0' := hide (ha'.keep hB0.out)
  obtain ⟨r, hr⟩ : ∃ r, r = sparR cs ls := ⟨_, rfl⟩
  rw [← hr]
  unfold sparR at hr
  obtain ⟨c0, c1⟩ := hX0.out
  clear ha ha'
  cases hok : okEn cs ls
  · have HR : Hid (r = (0, 1)) := hide (by rw [hr, hok]; rfl)
    have HK := hide hok
    clear hr hok
    go_enter Try.func22, Try.ntmps22
    go_wp2_with fail
    rw [← hW0]
    clear hW0
    (try go_wp2_with fail)
    refine (specIs_any _ _ cs _ _ ls _ hA0.out hA0'.out hl hl').mono ?_
    rw [HK.out]
    rintro e w1 ⟨rfl, hb1⟩
    have hB1 := hide (Below.trans' hB0.out hb1)
    clear hb1 c0 c1
    go_wp2_with fail
    go_ret2
    exact ⟨by rw [HR.out]; rfl, hB1.out⟩
  · obtain ⟨ss, hss⟩ : ∃ ss, ss = strs cs ls := ⟨_, rfl⟩
    have HSS := hide hss
    have HR : Hid (r = (spar ss, 0)) := hide (by rw [hr, hok, hss]; rfl)
    have HK := hide hok
    have h8 := (okEn_parts hok).1
    obtain ⟨n, hn⟩ : ∃ n, n = ss.length := ⟨_, rfl⟩
    have hnl : n = cs.length + ls.length := by rw [hn, hss, strs_len]
    have HN := hide hn
    have HNL := hide hnl
    have HM : Hid (∀ s ∈ ss, (s.1 = 0 ∧ 1 ≤ s.2 ∨ s.1 = 1 ∧ 4 ≤ s.2) ∧ s.2 ≤ 30) := hide (by rw [hss]; exact strs_mem hok)
    clear hr hok hss hn
    go_enter Try.func22, Try.ntmps22
    go_wp2_with fail
    rw [← hW0]
    clear hW0
    (try go_wp2_with fail)
    refine (specIs_any _ _ cs _ _ ls _ hA0.out hA0'.out hl hl').mono ?_
    rw [HK.out]
    rintro e w1 ⟨rfl, hb1⟩
    have hX1 := hX0.out.keep hb1
    have hB1 := hide (Below.trans' hB0.out hb1)
    have hA1 := hide (hA0.out.keep hb1)
    have hA1' := hide (hA0'.out.keep hb1)
    clear hb1 c0 c1
    have HX1 := hide hX1
    obtain ⟨c0, c1⟩ := hX1
    clear hnl
    have hnI : (cs.length : Int) + (ls.length : Int) = (n : Int) := by have := HNL.out; omega
    go_wp2_with fail
    go_quiet (fail)
    go_wp2_with fail
    obtain ⟨W2, hW2⟩ : ∃ W2, W2 = w1.drewN nq := ⟨_, rfl⟩
    have hb2 : Below w1.heap.size w1 W2 := by rw [hW2]; exact below_drewN (Below.refl _ _) _
    have hB2 := hide (Below.trans' hB1.out hb2)
    have hA2 := hide (hA1.out.keep hb2)
    have hA2' := hide (hA1'.out.keep hb2)
    have hX2 := HX1.out.keep hb2
    rw [← hW2]
    clear hb2 c0 c1 hW2
    obtain ⟨c0, c1⟩ := hX2
    go_loop [4, 5, 7] (fun s g i => ∃ (k : Nat) (S G : Int), k ≤ n ∧ i = .int .i64 k ∧ s = .int .i64 S ∧ g = .int .i64 G ∧ Hid (G = 1 ∨ G = -1) ∧ -(40 * (k : Int)) ≤ S ∧ S ≤ 40 * (k : Int) ∧ Hid (S + G * spar (ss.drop k) = spar ss)) (fun _ _ i => n - (intOf i).toNat)
    case atStart => exact ⟨0, 0, 1, Nat.zero_le _, rfl, rfl, rfl, .inl rfl, by omega, by omega, hide (by rw [List.drop_zero]; omega)⟩
    case round =>
      obtain ⟨k, S, G, hk, rfl, rfl, rfl, hG, hS0, hS1, hT⟩ := hrel
      by_cases hlt : k < n
      · by_cases hc : k < cs.length
        · obtain ⟨b, off, z, rfl, hcell, hz⟩ := hA2.out.one hc
          have hs : ss[k]? = some (0, z) := by rw [HSS.out]; exact strs_get1 hz.out
          have hzb := HM.out _ (mem_of_get hs)
          have hz0 : 0 ≤ z := by omega
          have hz1 : z ≤ 30 := by omega
          clear hzb
          by_cases hlast : k + 1 < n
          · cases ho : spOpen (0, z)
            · have HO := hide ho
              clear ho
              have hcall : Hid (∀ V : World, Calls Try.prog 66 #[.bool false, .int .i64 z, .int .i64 0] V fun e V' => e = .returned (.tuple #[.int .i64 z, .int .i64 (z - 4), .bool false]) ∧ V = V') := hide (fun V => by
                have h := taker_any false z 0 V hz0 hz1 (by omega) (by omega)
                have e : takerV false z 0 = .tuple #[.int .i64 z, .int .i64 (z - 4), .bool false] := by simp only [takerV, kindOf]; rw [HO.out]; simp [leftOf]
                rw [e] at h
                exact h)
              have hst : Hid (spar (ss.drop k) = z - spar (ss.drop (k + 1))) := hide (by rw [spar_no hs (.inl HO.out)])
              have HS0 := hide hs
              clear hs
              rcases hG.out with rfl | rfl
              all_goals
                have HT := hide hT.out
                clear hT
                go_wp2_with (go_at_call 66; refine (hcall.out _).mono ?_; rintro e w3 ⟨rfl, rfl⟩)
                go_round
                case rel => exact ⟨k + 1, _, _, by omega, by go_num, rfl, rfl, by first | exact .inr rfl | exact .inl rfl, by omega, by omega, hide (by have h1 := HT.out; have h2 := hst.out; rw [h2] at h1; rw [← h1]; omega)⟩
                case measure => simp [intOf]; omega
            · have HO := hide ho
              clear ho
              have hcall : Hid (∀ V : World, Calls Try.prog 66 #[.bool false, .int .i64 z, .int .i64 0] V fun e V' => e = .returned (.tuple #[.int .i64 z, .int .i64 (z - 4), .bool true]) ∧ V = V') := hide (fun V => by
                have h := taker_any false z 0 V hz0 hz1 (by omega) (by omega)
                have e : takerV false z 0 = .tuple #[.int .i64 z, .int .i64 (z - 4), .bool true] := by simp only [takerV, kindOf]; rw [HO.out]; simp [leftOf]
                rw [e] at h
                exact h)
              have hst : Hid (spar (ss.drop k) = z - 4 + spar (ss.drop (k + 1))) := hide (by rw [spar_yes hs HO.out (by rw [← HN.out]; exact hlast)]; simp [leftOf])
              have HS0 := hide hs
              clear hs
              rcases hG.out with rfl | rfl
              all_goals
                have HT := hide hT.out
                clear hT
                go_wp2_with (go_at_call 66; refine (hcall.out _).mono ?_; rintro e w3 ⟨rfl, rfl⟩)
                go_round
                case rel => exact ⟨k + 1, _, _, by omega, by go_num, rfl, rfl, (by first | exact .inl rfl | exact .inr rfl), by omega, by omega, hide (by have h1 := HT.out; have h2 := hst.out; rw [h2] at h1; rw [← h1]; omega)⟩
                case measure => simp [intOf]; omega
          · cases ho : spOpen (0, z)
            · have HO := hide ho
              clear ho
              have hcall : Hid (∀ V : World, Calls Try.prog 66 #[.bool false, .int .i64 z, .int .i64 0] V fun e V' => e = .returned (.tuple #[.int .i64 z, .int .i64 (z - 4), .bool false]) ∧ V = V') := hide (fun V => by
                have h := taker_any false z 0 V hz0 hz1 (by omega) (by omega)
                have e : takerV false z 0 = .tuple #[.int .i64 z, .int .i64 (z - 4), .bool false] := by simp only [takerV, kindOf]; rw [HO.out]; simp [leftOf]
                rw [e] at h
                exact h)
              have hst : Hid (spar (ss.drop k) = z - spar (ss.drop (k + 1))) := hide (by rw [spar_no hs (.inr (by rw [← HN.out]; exact hlast))])
              have HS0 := hide hs
              clear hs
              rcases hG.out with rfl | rfl
              all_goals
                have HT := hide hT.out
                clear hT
                go_wp2_with (go_at_call 66; refine (hcall.out _).mono ?_; rintro e w3 ⟨rfl, rfl⟩)
                go_round
                case rel => exact ⟨k + 1, _, _, by omega, by go_num, rfl, rfl, by first | exact .inr rfl | exact .inl rfl, by omega, by omega, hide (by have h1 := HT.out; have h2 := hst.out; rw [h2] at h1; rw [← h1]; omega)⟩
                case measure => simp [intOf]; omega
            · have HO := hide ho
              clear ho
              have hcall : Hid (∀ V : World, Calls Try.prog 66 #[.bool false, .int .i64 z, .int .i64 0] V fun e V' => e = .returned (.tuple #[.int .i64 z, .int .i64 (z - 4), .bool true]) ∧ V = V') := hide (fun V => by
                have h := taker_any false z 0 V hz0 hz1 (by omega) (by omega)
                have e : takerV false z 0 = .tuple #[.int .i64 z, .int .i64 (z - 4), .bool true] := by simp only [takerV, kindOf]; rw [HO.out]; simp [leftOf]
                rw [e] at h
                exact h)
              have hst : Hid (spar (ss.drop k) = z - spar (ss.drop (k + 1))) := hide (by rw [spar_no hs (.inr (by rw [← HN.out]; exact hlast))])
              have HS0 := hide hs
              clear hs
              rcases hG.out with rfl | rfl
              all_goals
                have HT := hide hT.out
                clear hT
                go_wp2_with (go_at_call 66; refine (hcall.out _).mono ?_; rintro e w3 ⟨rfl, rfl⟩)
                go_round
                case rel => exact ⟨k + 1, _, _, by omega, by go_num, rfl, rfl, by first | exact .inr rfl | exact .inl rfl, by omega, by omega, hide (by have h1 := HT.out; have h2 := hst.out; rw [h2] at h1; rw [← h1]; omega)⟩
                case measure => simp [intOf]; omega
        · obtain ⟨j, rfl⟩ : ∃ j, k = cs.length + j := ⟨k - cs.length, by omega⟩
          obtain ⟨b, off, z, rfl, hcell, hz⟩ := hA2'.out.one (k := j) (by have := HNL.out; omega)
          have hs : ss[cs.length + j]? = some (1, z) := by rw [HSS.out]; exact strs_get2 hz.out
          have hzb := HM.out _ (mem_of_get hs)
          have hz0 : 0 ≤ z := by omega
          have hz1 : z ≤ 30 := by omega
          clear hzb
          have HO : Hid (spOpen (1, z) = true) := hide (by simp [spOpen])
          by_cases hlast : cs.length + j + 1 < n
          · skip
            have hcall : Hid (∀ V : World, Calls Try.prog 66 #[.bool true, .int .i64 z, .int .i64 0] V fun e V' => e = .returned (.tuple #[.int .i64 z, .int .i64 (z - 8), .bool true]) ∧ V = V') := hide (fun V => by
              have h := taker_any true z 0 V hz0 hz1 (by omega) (by omega)
              have e : takerV true z 0 = .tuple #[.int .i64 z, .int .i64 (z - 8), .bool true] := by simp only [takerV, kindOf]; rw [HO.out]; simp [leftOf]
              rw [e] at h
              exact h)
            have hst : Hid (spar (ss.drop (cs.length + j)) = z - 8 + spar (ss.drop ((cs.length + j) + 1))) := hide (by rw [spar_yes hs HO.out (by rw [← HN.out]; exact hlast)]; simp [leftOf])
            have HS0 := hide hs
            clear hs
            rcases hG.out with rfl | rfl
            all_goals
              have HT := hide hT.out
              clear hT
              go_wp2_with (go_at_call 66; refine (hcall.out _).mono ?_; rintro e w3 ⟨rfl, rfl⟩)
              go_round
              case rel => exact ⟨(cs.length + j) + 1, _, _, by omega, by go_num, rfl, rfl, (by first | exact .inl rfl | exact .inr rfl), by omega, by omega, hide (by have h1 := HT.out; have h2 := hst.out; rw [h2] at h1; rw [← h1]; omega)⟩
              case measure => simp [intOf]; omega
          · skip
            have hcall : Hid (∀ V : World, Calls Try.prog 66 #[.bool true, .int .i64 z, .int .i64 0] V fun e V' => e = .returned (.tuple #[.int .i64 z, .int .i64 (z - 8), .bool true]) ∧ V = V') := hide (fun V => by
              have h := taker_any true z 0 V hz0 hz1 (by omega) (by omega)
              have e : takerV true z 0 = .tuple #[.int .i64 z, .int .i64 (z - 8), .bool true] := by simp only [takerV, kindOf]; rw [HO.out]; simp [leftOf]
              rw [e] at h
              exact h)
            have hst : Hid (spar (ss.drop (cs.length + j)) = z - spar (ss.drop ((cs.length + j) + 1))) := hide (by rw [spar_no hs (.inr (by rw [← HN.out]; exact hlast))])
            have HS0 := hide hs
            clear hs
            rcases hG.out with rfl | rfl
            all_goals
              have HT := hide hT.out
              clear hT
              go_wp2_with (go_at_call 66; refine (hcall.out _).mono ?_; rintro e w3 ⟨rfl, rfl⟩)
              go_round
              case rel => exact ⟨(cs.length + j) + 1, _, _, by omega, by go_num, rfl, rfl, by first | exact .inr rfl | exact .inl rfl, by omega, by omega, hide (by have h1 := HT.out; have h2 := hst.out; rw [h2] at h1; rw [← h1]; omega)⟩
              case measure => simp [intOf]; omega
      · obtain rfl : k = n := by omega
        have hfin : Hid (S = spar ss) := hide (by have h1 := hT.out; rw [HN.out, List.drop_length] at h1; simpa [spar] using h1)
        clear hT
        go_wp2_with fail
        go_ret2
        exact ⟨by rw [HR.out, ← hfin.out]; rfl, hB2.out⟩
end Go.Proofs.Ytbfpbkbhikogiaa
