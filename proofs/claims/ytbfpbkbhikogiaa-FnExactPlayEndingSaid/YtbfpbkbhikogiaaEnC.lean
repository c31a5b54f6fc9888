/-
  Ends of dots and boxes: CountLong and TurnsOf, both texts.
-/
import Derived.Test.YtbfpbkbhikogiaaEnI
namespace Go.Proofs.Ytbfpbkbhikogiaa
open Go.RowKit
set_option linter.unusedVariables false

/-- A number and a code. -/
def numV : Int × Int → Value | (x, c) => .tuple #[.int .i64 x, .int .i64 c]
def longR (cs ls : List Int) : Int × Int := if okEn cs ls = true then (longTo cs cs.length, 0) else (0, 1)

set_option maxRecDepth 100000 in
set_option maxHeartbeats 1000000 in
theorem implLong_any (a : Option Addr) (c : Nat) (cs : List Int) (a' : Option Addr) (c' : Nat) (ls : List Int) (W : World) (ha : IntsAt W a cs) (ha' : IntsAt W a' ls) (hl : cs.length ≤ 1048576) (hl' : ls.length ≤ 1048576) :
    Calls Try.prog 23 #[.agg #[.slice a cs.length c, .slice a' ls.length c']] W (RetB (numV (longR cs ls)) W) := by
  obtain ⟨W0, hW0⟩ : ∃ W0, W0 = W.alloc (.cells #[.slice a cs.length c, .slice a' ls.length c'] 26) := ⟨_, rfl⟩
  have hB0 : Hid (Below W.heap.size W W0) := by rw [hW0]; exact hide (below_alloc _ _)
  have hX0 : Hid (EndIn W0 W.heap.size a cs.length c a' ls.length c') := by rw [hW0]; exact hide (endIn_new _ _ _ _ _ _ _ _)
  have hA0 := hide (ha.keep hB0.out)
  have hA0' := hide (ha'.keep hB0.out)
  obtain ⟨r, hr⟩ : ∃ r, r = longR cs ls := ⟨_, rfl⟩
  rw [← hr]
  unfold longR at hr
  obtain ⟨c0, c1⟩ := hX0.out
  clear ha ha'
  cases hok : okEn cs ls
  · have HR : Hid (r = (0, 1)) := hide (by rw [hr, hok]; rfl)
    have HK := hide hok
    clear hr hok
    go_enter Try.func23, Try.ntmps23
    go_wp2_with fail
    rw [← hW0]
    clear hW0
    (try go_wp2_with fail)
    refine (implIsE_any _ _ cs _ _ ls _ hA0.out hA0'.out hl hl').mono ?_
    rw [HK.out]
    rintro e w1 ⟨rfl, hb1⟩
    have hB1 := hide (Below.trans' hB0.out hb1)
    clear hb1 c0 c1
    go_wp2_with fail
    go_ret2
    exact ⟨by rw [HR.out]; rfl, hB1.out⟩
  · have HR : Hid (r = (longTo cs cs.length, 0)) := hide (by rw [hr, hok]; rfl)
    have HK := hide hok
    clear hr hok
    go_enter Try.func23, Try.ntmps23
    go_wp2_with fail
    rw [← hW0]
    clear hW0
    (try go_wp2_with fail)
    refine (implIsE_any _ _ cs _ _ ls _ hA0.out hA0'.out hl hl').mono ?_
    rw [HK.out]
    rintro e w1 ⟨rfl, hb1⟩
    have hB1 := hide (Below.trans' hB0.out hb1)
    have hA1 := hide (hA0.out.keep hb1)
    have hX1 := hX0.out.keep hb1
    clear hb1 c0 c1
    obtain ⟨c0, c1⟩ := hX1
    go_wp2_with fail
    go_loop [4, 13] (fun s i => ∃ k : Nat, k ≤ cs.length ∧ i = .int .i64 k ∧ s = .int .i64 (longTo cs k)) (fun _ i => cs.length - (intOf i).toNat)
    case atStart => exact ⟨0, Nat.zero_le _, rfl, rfl⟩
    case round =>
      obtain ⟨k, hk, rfl, rfl⟩ := hrel
      by_cases hlt : k < cs.length
      · obtain ⟨b, off, z, rfl, hcell, hz⟩ := hA1.out.one hlt
        obtain ⟨n, hn⟩ : ∃ n, n = longTo cs k := ⟨_, rfl⟩
        have hbd := longTo_bd cs k
        rw [← hn] at hbd ⊢
        by_cases h2 : 2 < z
        · have hN : Hid (longTo cs (k + 1) = n + 1) := hide (by rw [longTo_succ hz.out, if_pos h2, hn])
          clear hn
          go_wp2_with fail
          go_round
          case rel => exact ⟨k + 1, by omega, by go_num, by rw [hN.out]⟩
          case measure => simp [intOf]; omega
        · have hN : Hid (longTo cs (k + 1) = n) := hide (by rw [longTo_succ hz.out, if_neg h2, hn]; omega)
          clear hn
          go_wp2_with fail
          go_round
          case rel => exact ⟨k + 1, by omega, by go_num, by rw [hN.out]⟩
          case measure => simp [intOf]; omega
      · obtain rfl : k = cs.length := by omega
        go_wp2_with fail
        go_ret2
        exact ⟨by rw [HR.out]; rfl, hB1.out⟩

set_option maxRecDepth 100000 in
set_option maxHeartbeats 1000000 in
theorem specLong_any (a : Option Addr) (c : Nat) (cs : List Int) (a' : Option Addr) (c' : Nat) (ls : List Int) (W : World) (ha : IntsAt W a cs) (ha' : IntsAt W a' ls) (hl : cs.length ≤ 1048576) (hl' : ls.length ≤ 1048576) :
    Calls Try.prog 24 #[.agg #[.slice a cs.length c, .slice a' ls.length c']] W (RetB (numV (longR cs ls)) W) := by
  obtain ⟨W0, hW0⟩ : ∃ W0, W0 = W.alloc (.cells #[.slice a cs.length c, .slice a' ls.length c'] 26) := ⟨_, rfl⟩
  have hB0 : Hid (Below W.heap.size W W0) := by rw [hW0]; exact hide (below_alloc _ _)
  have hX0 : Hid (EndIn W0 W.heap.size a cs.length c a' ls.length c') := by rw [hW0]; exact hide (endIn_new _ _ _ _ _ _ _ _)
  have hA0 := hide (ha.keep hB0.out)
  have hA0' := hide (ha'.keep hB0.out)
  obtain ⟨r, hr⟩ : ∃ r, r = longR cs ls := ⟨_, rfl⟩
  rw [← hr]
  unfold longR at hr
  obtain ⟨c0, c1⟩ := hX0.out
  clear ha ha'
  cases hok : okEn cs ls
  · have HR : Hid (r = (0, 1)) := hide (by rw [hr, hok]; rfl)
    have HK := hide hok
    clear hr hok
    go_enter Try.func24, Try.ntmps24
    go_wp2_with fail
    rw [← hW0]
    clear hW0
    (try go_wp2_with fail)
    refine (specIs_any _ _ cs _ _ ls _ hA0.out hA0'.out hl hl').mono ?_
    rw [HK.out]
    rintro e w1 ⟨rfl, hb1⟩
    have hB1 := hide (Below.trans' hB0.out hb1)
    clear hb1 c0 c1
    go_wp2_with fail
    go_ret2
    exact ⟨by rw [HR.out]; rfl, hB1.out⟩
  · have HR : Hid (r = (longTo cs cs.length, 0)) := hide (by rw [hr, hok]; rfl)
    have HK := hide hok
    clear hr hok
    go_enter Try.func24, Try.ntmps24
    go_wp2_with fail
    rw [← hW0]
    clear hW0
    (try go_wp2_with fail)
    refine (specIs_any _ _ cs _ _ ls _ hA0.out hA0'.out hl hl').mono ?_
    rw [HK.out]
    rintro e w1 ⟨rfl, hb1⟩
    have hB1 := hide (Below.trans' hB0.out hb1)
    have hA1 := hide (hA0.out.keep hb1)
    have hX1 := hX0.out.keep hb1
    clear hb1 c0 c1
    obtain ⟨c0, c1⟩ := hX1
    go_wp2_with fail
    go_loop [4, 5] (fun s i => ∃ k : Nat, k ≤ cs.length ∧ i = .int .i64 k ∧ s = .int .i64 (longTo cs k)) (fun _ i => cs.length - (intOf i).toNat)
    case atStart => exact ⟨0, Nat.zero_le _, rfl, rfl⟩
    case round =>
      obtain ⟨k, hk, rfl, rfl⟩ := hrel
      by_cases hlt : k < cs.length
      · obtain ⟨b, off, z, rfl, hcell, hz⟩ := hA1.out.one hlt
        obtain ⟨n, hn⟩ : ∃ n, n = longTo cs k := ⟨_, rfl⟩
        have hbd := longTo_bd cs k
        rw [← hn] at hbd ⊢
        by_cases h2 : 2 < z
        · have hN : Hid (longTo cs (k + 1) = n + 1) := hide (by rw [longTo_succ hz.out, if_pos h2, hn])
          clear hn
          go_wp2_with fail
          go_round
          case rel => exact ⟨k + 1, by omega, by go_num, by rw [hN.out]⟩
          case measure => simp [intOf]; omega
        · have hN : Hid (longTo cs (k + 1) = n) := hide (by rw [longTo_succ hz.out, if_neg h2, hn]; omega)
          clear hn
          go_wp2_with fail
          go_round
          case rel => exact ⟨k + 1, by omega, by go_num, by rw [hN.out]⟩
          case measure => simp [intOf]; omega
      · obtain rfl : k = cs.length := by omega
        go_wp2_with fail
        go_ret2
        exact ⟨by rw [HR.out]; rfl, hB1.out⟩

/-! ### turns -/
def turnR (r c d : Int) : Int × Int := if 1 ≤ r ∧ r ≤ 1000 ∧ 1 ≤ c ∧ c ≤ 1000 ∧ 0 ≤ d ∧ d ≤ r * c / 2 then ((r + 1) * (c + 1) + d, 0) else (0, 2)
theorem turn_no {r c d : Int} (h : ¬ (1 ≤ r ∧ r ≤ 1000 ∧ 1 ≤ c ∧ c ≤ 1000 ∧ 0 ≤ d ∧ d ≤ r * c / 2)) : turnR r c d = (0, 2) := if_neg h
theorem mul_bd {r c : Int} (h1 : 1 ≤ r) (h2 : r ≤ 1000) (h3 : 1 ≤ c) (h4 : c ≤ 1000) : 0 ≤ r * c ∧ r * c ≤ 1000000 ∧ 0 ≤ (r + 1) * (c + 1) ∧ (r + 1) * (c + 1) ≤ 1002001 := by
  refine ⟨Int.mul_nonneg (by omega) (by omega), ?_, Int.mul_nonneg (by omega) (by omega), ?_⟩
  · exact Int.mul_le_mul h2 h4 (by omega) (by omega)
  · exact Int.mul_le_mul (show r + 1 ≤ 1001 by omega) (show c + 1 ≤ 1001 by omega) (by omega) (by omega)

set_option maxHeartbeats 1000000 in
theorem implTurns_any (r c d : Int) (W : World) : Calls Try.prog 26 #[.int .i64 r, .int .i64 c, .int .i64 d] W (RetB (numV (turnR r c d)) W) := by
  obtain ⟨q, hq⟩ : ∃ q, q = turnR r c d := ⟨_, rfl⟩
  rw [← hq]
  have HQ := hide hq
  clear hq
  by_cases h1 : r < 1
  · have HF : Hid (q = (0, 2)) := hide (by rw [HQ.out, turn_no (by omega)])
    go_enter Try.func26, Try.ntmps26
    go_wp2
    go_ret2
    exact ⟨by rw [HF.out]; rfl, Below.refl _ _⟩
  · by_cases h2 : 1000 < r
    · have HF : Hid (q = (0, 2)) := hide (by rw [HQ.out, turn_no (by omega)])
      go_enter Try.func26, Try.ntmps26
      go_wp2
      go_ret2
      exact ⟨by rw [HF.out]; rfl, Below.refl _ _⟩
    · by_cases h3 : c < 1
      · have HF : Hid (q = (0, 2)) := hide (by rw [HQ.out, turn_no (by omega)])
        go_enter Try.func26, Try.ntmps26
        go_wp2
        go_ret2
        exact ⟨by rw [HF.out]; rfl, Below.refl _ _⟩
      · by_cases h4 : 1000 < c
        · have HF : Hid (q = (0, 2)) := hide (by rw [HQ.out, turn_no (by omega)])
          go_enter Try.func26, Try.ntmps26
          go_wp2
          go_ret2
          exact ⟨by rw [HF.out]; rfl, Below.refl _ _⟩
        · obtain ⟨m1, m2, m3, m4⟩ := mul_bd (show 1 ≤ r by omega) (show r ≤ 1000 by omega) (show 1 ≤ c by omega) (show c ≤ 1000 by omega)
          by_cases h5 : d < 0
          · have HF : Hid (q = (0, 2)) := hide (by rw [HQ.out, turn_no (by omega)])
            go_enter Try.func26, Try.ntmps26
            go_wp2
            go_ret2
            exact ⟨by rw [HF.out]; rfl, Below.refl _ _⟩
          · by_cases h6 : r * c / 2 < d
            · have HF : Hid (q = (0, 2)) := hide (by rw [HQ.out, turn_no (by omega)])
              go_enter Try.func26, Try.ntmps26
              go_wp2
              go_ret2
              exact ⟨by rw [HF.out]; rfl, Below.refl _ _⟩
            · have HF : Hid (q = ((r + 1) * (c + 1) + d, 0)) := hide (by rw [HQ.out]; exact if_pos (by omega))
              go_enter Try.func26, Try.ntmps26
              go_wp2
              go_ret2
              exact ⟨by rw [HF.out]; rfl, Below.refl _ _⟩

set_option maxHeartbeats 1000000 in
theorem specTurns_any (r c d : Int) (W : World) : Calls Try.prog 27 #[.int .i64 r, .int .i64 c, .int .i64 d] W (RetB (numV (turnR r c d)) W) := by
  obtain ⟨q, hq⟩ : ∃ q, q = turnR r c d := ⟨_, rfl⟩
  rw [← hq]
  have HQ := hide hq
  clear hq
  cases h1 : inn r 1 1000
  · have HF : Hid (q = (0, 2)) := hide (by simp [inn] at h1; rw [HQ.out, turn_no (by omega)])
    have H1 := hide h1
    clear h1
    go_enter Try.func27, Try.ntmps27
    go_wp2_with fail
    refine (inn_is _ _ _ H1.out _).mono ?_
    rintro e w1 ⟨rfl, hb1⟩
    go_wp2_with fail
    go_ret2
    exact ⟨by rw [HF.out]; rfl, hb1⟩
  · have H1 := hide h1
    have k1 : 1 ≤ r ∧ r ≤ 1000 := by simpa [inn] using h1
    clear h1
    cases h2 : inn c 1 1000
    · have HF : Hid (q = (0, 2)) := hide (by simp [inn] at h2; rw [HQ.out, turn_no (by omega)])
      have H2 := hide h2
      clear h2
      go_enter Try.func27, Try.ntmps27
      go_wp2_with fail
      refine (inn_is _ _ _ H1.out _).mono ?_
      rintro e w1 ⟨rfl, hb1⟩
      go_wp2_with fail
      refine (inn_is _ _ _ H2.out _).mono ?_
      rintro e w2 ⟨rfl, hb2⟩
      go_wp2_with fail
      go_ret2
      exact ⟨by rw [HF.out]; rfl, Below.trans' hb1 hb2⟩
    · have H2 := hide h2
      have k2 : 1 ≤ c ∧ c ≤ 1000 := by simpa [inn] using h2
      clear h2
      obtain ⟨m1, m2, m3, m4⟩ := mul_bd k1.1 k1.2 k2.1 k2.2
      obtain ⟨k1, k1'⟩ := k1
      obtain ⟨k2, k2'⟩ := k2
      cases h3 : inn d 0 (r * c / 2)
      · have HF : Hid (q = (0, 2)) := hide (by simp [inn] at h3; rw [HQ.out, turn_no (by omega)])
        have H3 := hide h3
        clear h3
        go_enter Try.func27, Try.ntmps27
        go_wp2_with fail
        refine (inn_is _ _ _ H1.out _).mono ?_
        rintro e w1 ⟨rfl, hb1⟩
        go_wp2_with fail
        refine (inn_is _ _ _ H2.out _).mono ?_
        rintro e w2 ⟨rfl, hb2⟩
        go_wp2_with fail
        refine (inn_is _ _ _ H3.out _).mono ?_
        rintro e w3 ⟨rfl, hb3⟩
        go_wp2_with fail
        go_ret2
        exact ⟨by rw [HF.out]; rfl, Below.trans' (Below.trans' hb1 hb2) hb3⟩
      · have H3 := hide h3
        have k3 : 0 ≤ d ∧ d ≤ r * c / 2 := by simpa [inn] using h3
        have HF : Hid (q = ((r + 1) * (c + 1) + d, 0)) := hide (by rw [HQ.out]; exact if_pos (by omega))
        clear h3
        obtain ⟨k3, k3'⟩ := k3
        go_enter Try.func27, Try.ntmps27
        go_wp2_with fail
        refine (inn_is _ _ _ H1.out _).mono ?_
        rintro e w1 ⟨rfl, hb1⟩
        go_wp2_with fail
        refine (inn_is _ _ _ H2.out _).mono ?_
        rintro e w2 ⟨rfl, hb2⟩
        go_wp2_with fail
        refine (inn_is _ _ _ H3.out _).mono ?_
        rintro e w3 ⟨rfl, hb3⟩
        go_wp2_with fail
        go_ret2
        exact ⟨by rw [HF.out]; rfl, Below.trans' (Below.trans' hb1 hb2) hb3⟩
end Go.Proofs.Ytbfpbkbhikogiaa
