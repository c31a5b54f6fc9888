/-
  LeastMeeting: both texts.
-/
import Derived.Test.YtlllkmobhjlmoaaBw
namespace Go.Proofs.Ytlllkmobhjlmoaa
open Go.RowKit
set_option linter.unusedVariables false

theorem onesK_all (n : Int) : ∀ k : Nat, onesK k (allI n) = if k ≤ n.toNat then (k : Int) else n.toNat
  | 0 => by simp [onesK]
  | k + 1 => by
    have ih := onesK_all n k
    have hd := drawn_allI n k
    simp only [onesK]
    rw [ih]
    by_cases h : k < n.toNat
    · rw [dg_of_drawn (by rw [hd]; simpa using h), if_pos (by omega), if_pos (by omega)]
      omega
    · rw [dg_of_free (by rw [hd]; simpa using h)]
      by_cases h2 : k = n.toNat
      · rw [if_pos (by omega), if_neg (by omega)]; omega
      · rw [if_neg (by omega), if_neg (by omega)]; omega
theorem ones_all {n : Int} (h : 1 ≤ n ∧ n ≤ 16) : ones (allI n) = n := by
  unfold ones
  rw [onesK_all]
  by_cases e : 16 ≤ n.toNat
  · rw [if_pos e]; omega
  · rw [if_neg e]; omega
theorem ones_less {n s : Int} (h : 1 ≤ n ∧ n ≤ 16) (h0 : 0 ≤ s) (h1 : s < allI n) : ones s < ones (allI n) := by
  rw [ones_all h]
  have ha := allI_range n
  have hs : s < 2 ^ n.toNat := by omega
  by_cases hex : ∃ i : Nat, i < n.toNat ∧ drawn s i = false
  · obtain ⟨i, hi, hd⟩ := hex
    have h2 := ones_withE h0 (by omega : (0 : Int) ≤ i) (by omega) hd
    have h3 := ones_le_n h (withE_nonneg s i) (withE_lt h0 hs (by omega))
    omega
  · have : s = allI n := eq_of_drawn h0 hs ha.1 ha.2 (fun i hi => by
      rw [drawn_allI, decide_eq_true hi]
      cases hd : drawn s i
      · exact absurd ⟨i, hi, hd⟩ hex
      · rfl)
    omega
def Leq (v s : Int) : Prop := ones v < ones s ∨ ones v = ones s ∧ v ≤ s
/-- From 0 on up. -/
def lmI (m : Int) (q : Int → Bool) : Nat → Int
  | 0 => m
  | k + 1 => if ones (k : Int) < ones (lmI m q k) ∧ q (k : Int) = true then (k : Int) else lmI m q k
/-- From m - 1 on down. -/
def lmS (m : Int) (q : Int → Bool) : Nat → Int
  | 0 => m
  | j + 1 => if ones (m - 1 - (j : Int)) ≤ ones (lmS m q j) ∧ q (m - 1 - (j : Int)) = true then m - 1 - (j : Int) else lmS m q j
theorem lmI_spec {n : Int} (h : 1 ≤ n ∧ n ≤ 16) {q : Int → Bool} (hq : q (allI n) = true) : ∀ k : Nat, (k : Int) ≤ allI n → q (lmI (allI n) q k) = true ∧ Leq (lmI (allI n) q k) (allI n) ∧ (lmI (allI n) q k = allI n ∨ 0 ≤ lmI (allI n) q k ∧ lmI (allI n) q k < k) ∧ ∀ s : Int, 0 ≤ s → s < k → q s = true → Leq (lmI (allI n) q k) s
  | 0, _ => ⟨hq, Or.inr ⟨rfl, Int.le_refl _⟩, Or.inl rfl, fun s h0 h1 => by omega⟩
  | k + 1, hk => by
    obtain ⟨i1, i2, i3, i4⟩ := lmI_spec h hq k (by omega)
    simp only [lmI]
    by_cases e : ones (k : Int) < ones (lmI (allI n) q k) ∧ q (k : Int) = true
    · rw [if_pos e]
      refine ⟨e.2, ?_, Or.inr ⟨by omega, by omega⟩, fun s h0 h1 h2 => ?_⟩
      · unfold Leq at i2 ⊢; omega
      · by_cases hs : s = k
        · subst hs; exact Or.inr ⟨rfl, Int.le_refl _⟩
        · have := i4 s h0 (by omega) h2
          unfold Leq at this ⊢; omega
    · rw [if_neg e]
      refine ⟨i1, i2, by omega, fun s h0 h1 h2 => ?_⟩
      by_cases hs : s = k
      · subst hs
        have hnl : ¬ ones (k : Int) < ones (lmI (allI n) q k) := fun x => e ⟨x, h2⟩
        have hless := ones_less h (s := (k : Int)) (by omega) (by omega)
        unfold Leq
        rcases i3 with i3 | i3
        · rw [i3] at hnl ⊢; omega
        · omega
      · exact i4 s h0 (by omega) h2
theorem lmS_spec {m : Int} {q : Int → Bool} (hm : 0 ≤ m) (hq : q m = true) : ∀ j : Nat, (j : Int) ≤ m → q (lmS m q j) = true ∧ 0 ≤ lmS m q j ∧ lmS m q j ≤ m ∧ ∀ s : Int, m - (j : Int) ≤ s → s ≤ m → q s = true → Leq (lmS m q j) s
  | 0, _ => ⟨hq, by simp [lmS]; omega, by simp [lmS], fun s h0 h1 _ => by
      have : s = m := by omega
      subst this
      exact Or.inr ⟨rfl, Int.le_refl _⟩⟩
  | j + 1, hj => by
    obtain ⟨i1, i2, i3, i4⟩ := lmS_spec hm hq j (by omega)
    simp only [lmS]
    obtain ⟨t, ht⟩ : ∃ t, t = m - 1 - (j : Int) := ⟨_, rfl⟩
    rw [← ht]
    by_cases e : ones t ≤ ones (lmS m q j) ∧ q t = true
    · rw [if_pos e]
      refine ⟨e.2, by omega, by omega, fun s h0 h1 h2 => ?_⟩
      by_cases hs : s = t
      · subst hs; exact Or.inr ⟨rfl, Int.le_refl _⟩
      · have := i4 s (by omega) h1 h2
        unfold Leq at this ⊢; omega
    · rw [if_neg e]
      refine ⟨i1, i2, i3, fun s h0 h1 h2 => ?_⟩
      by_cases hs : s = t
      · subst hs
        have hnl : ¬ ones s ≤ ones (lmS m q j) := fun x => e ⟨x, h2⟩
        unfold Leq; omega
      · exact i4 s (by omega) h1 h2
theorem lm_same {n : Int} (h : 1 ≤ n ∧ n ≤ 16) {q : Int → Bool} (hq : q (allI n) = true) : lmI (allI n) q (allI n).toNat = lmS (allI n) q (allI n).toNat := by
  have h0 := (allI_range n).1
  obtain ⟨a1, a2, a3, a4⟩ := lmI_spec h hq (allI n).toNat (by omega)
  obtain ⟨b1, b2, b3, b4⟩ := lmS_spec h0 hq (allI n).toNat (by omega)
  have e1 : Leq (lmI (allI n) q (allI n).toNat) (lmS (allI n) q (allI n).toNat) := by
    by_cases e : lmS (allI n) q (allI n).toNat = allI n
    · rw [e]; exact a2
    · exact a4 _ b2 (by omega) b1
  have e2 := b4 (lmI (allI n) q (allI n).toNat) (by omega) (by omega) a1
  unfold Leq at e1 e2
  omega
theorem lmS_range {m : Int} {q : Int → Bool} (hm : 0 ≤ m) (j : Nat) (hj : (j : Int) ≤ m) : 0 ≤ lmS m q j ∧ lmS m q j ≤ m := by
  induction j with
  | zero => simp [lmS]; omega
  | succ j ih =>
    have := ih (by omega)
    simp only [lmS]
    split <;> omega
theorem lmI_range {m : Int} {q : Int → Bool} (hm : 0 ≤ m) (j : Nat) (hj : (j : Int) ≤ m) : 0 ≤ lmI m q j ∧ lmI m q j ≤ m := by
  induction j with
  | zero => simp [lmI]; omega
  | succ j ih =>
    have := ih (by omega)
    simp only [lmI]
    split <;> omega
theorem met_all {n : Int} {cs : List Int} (h : okB n cs = true) : met cs (allI n) = true := by
  unfold met
  rw [List.all_eq_true]
  intro l hl
  obtain ⟨z0, z1, _⟩ := okB_mem h hl
  have e : andI l (allI n) = l := by
    have a0 := allI_range n
    have a3 := andI_range (x := l) (y := allI n) (n := n.toNat) (by omega) z1 a0.1
    refine eq_of_drawn a3.1 a3.2 (by omega) z1 (fun i hi => ?_)
    rw [drawn_andI (by omega) a0.1 (by omega), drawn_allI]
    simp [hi]
  rw [e]
  simp
  omega
def lmR (n : Int) (cs : List Int) : Int × Int := if okB n cs = true then (lmI (allI n) (met cs) (allI n).toNat, 0) else (0, 1)

set_option maxRecDepth 100000 in
set_option maxHeartbeats 4000000 in
theorem implLm_any (n : Int) (a : Option Addr) (c : Nat) (cs : List Int) (W : World) (ha : IntsAt W a cs) (hl : cs.length ≤ 1048576) :
    Calls Try.prog 29 #[.agg #[.int .i64 n, .slice a cs.length c]] W (RetB (.tuple #[.int .i64 (lmR n cs).1, .int .i64 (lmR n cs).2]) W) := by
  obtain ⟨W0, hW0⟩ : ∃ W0, W0 = W.alloc (.cells #[.int .i64 n, .slice a cs.length c] 27) := ⟨_, rfl⟩
  have hB0 : Hid (Below W.heap.size W W0) := by rw [hW0]; exact hide (below_alloc _ _)
  have hX0 : Hid (HexIn W0 W.heap.size n a cs.length c) := by rw [hW0]; exact hide (hexIn_new _ _ _ _ _ _)
  have hA0 := hide (ha.keep hB0.out)
  obtain ⟨c0, c1⟩ := hX0.out
  clear ha
  cases hok : okB n cs
  · have HR : Hid (lmR n cs = (0, 1)) := hide (by simp [lmR, hok])
    have HOK := hide hok
    rw [HR.out]
    clear hok
    go_enter Try.func29, Try.ntmps29
    go_wp2_with fail
    rw [← hW0]
    clear hW0
    refine (implIs_is HOK.out hA0.out hl).mono ?_
    rintro e w1 ⟨rfl, hb1⟩
    have hB1 := hide (Below.trans' hB0.out hb1)
    clear hb1
    go_wp2_with fail
    go_ret2
    exact ⟨rfl, hB1.out⟩
  · obtain ⟨hn, hk100, _⟩ := okB_parts hok
    obtain ⟨n1, n16⟩ := hn
    have HOK := hide hok
    obtain ⟨m, hm⟩ : ∃ m, m = allI n := ⟨_, rfl⟩
    obtain ⟨M, hM⟩ : ∃ M : Nat, m = M := ⟨m.toNat, by have := allI_16 ⟨n1, n16⟩; omega⟩
    have hM16 : M < 65536 := by have := allI_16 ⟨n1, n16⟩; omega
    obtain ⟨f, hf⟩ : ∃ f : Nat → Int, f = lmI m (met cs) := ⟨_, rfl⟩
    have HR : Hid (lmR n cs = (f M, 0)) := hide (by unfold lmR; rw [if_pos hok, ← hm, hf, hM, Int.toNat_natCast])
    have HF0 : Hid (f 0 = (M : Int)) := hide (by rw [hf, hM]; rfl)
    have HFS : Hid (∀ k : Nat, f (k + 1) = if ones (k : Int) < ones (f k) ∧ met cs (k : Int) = true then (k : Int) else f k) := hide (fun k => by rw [hf]; rfl)
    have HFR : Hid (∀ k : Nat, k ≤ M → 0 ≤ f k ∧ f k < 65536) := hide (fun k hk => by
      rw [hf]
      have := lmI_range (m := m) (q := met cs) (by omega) k (by omega)
      omega)
    have HAN : Hid (∀ V : World, Calls Try.prog 54 #[.agg #[.int .i64 n, .slice a cs.length c]] V (RetB (.int .i64 (M : Int)) V)) := hide (fun V => by rw [← hM, hm]; exact allNodes_any n a _ c (by omega) n16 V)
    rw [HR.out]
    clear hok hm hM hf
    go_enter Try.func29, Try.ntmps29
    go_wp2_with fail
    rw [← hW0]
    clear hW0
    refine (implIs_is HOK.out hA0.out hl).mono ?_
    rintro e w1 ⟨rfl, hb1⟩
    have hB1 := hide (Below.trans' hB0.out hb1)
    have hX1 := hide (hX0.out.keep hb1)
    have hA1 := hide (hA0.out.keep hb1)
    clear hb1 c0 c1
    obtain ⟨c0, c1⟩ := hX1.out
    go_wp2_with fail
    refine (HAN.out _).mono ?_
    rintro e w2 ⟨rfl, hb2⟩
    have hB2 := hide (Below.trans' hB1.out hb2)
    have hX2 := hide (hX1.out.keep hb2)
    have hA2 := hide (hA1.out.keep hb2)
    clear hb2 c0 c1
    obtain ⟨c0, c1⟩ := hX2.out
    go_wp2_with fail
    refine (HAN.out _).mono ?_
    rintro e w3 ⟨rfl, hb3⟩
    have hB3 := hide (Below.trans' hB2.out hb3)
    have hX3 := hide (hX2.out.keep hb3)
    have hA3 := hide (hA2.out.keep hb3)
    clear hb3 c0 c1
    go_wp2_with fail
    go_loopw [4, 13] (fun v i wr => ∃ k : Nat, k ≤ M ∧ i = .int .i64 k ∧ v = .int .i64 (f k) ∧ Below w3.heap.size w3 wr) (fun _ i _ => M - (intOf i).toNat)
    case atStart => exact ⟨0, Nat.zero_le _, rfl, by rw [HF0.out], Below.refl _ _⟩
    case round =>
      obtain ⟨k, hk, rfl, rfl, hB⟩ := hrel
      obtain ⟨f0, f1⟩ := HFR.out k hk
      by_cases hlt : k < M
      · obtain ⟨x, hx⟩ : ∃ x, x = f k := ⟨_, rfl⟩
        rw [← hx] at f0 f1 ⊢
        obtain ⟨y0, hy0⟩ : ∃ y, y = ones (k : Int) := ⟨_, rfl⟩
        obtain ⟨y1, hy1⟩ : ∃ y, y = ones x := ⟨_, rfl⟩
        obtain ⟨b, hb⟩ : ∃ b, b = met cs (k : Int) := ⟨_, rfl⟩
        have HS : Hid (f (k + 1) = if y0 < y1 ∧ b = true then (k : Int) else x) := hide (by rw [HFS.out, ← hx, ← hy0, ← hy1, ← hb])
        have HC0 : Hid (∀ V : World, Calls Try.prog 57 #[.int .i64 (k : Int)] V (RetB (.int .i64 y0) V)) := hide (fun V => by rw [hy0]; exact countNodes_any k (by omega) (by omega) V)
        have HC1 : Hid (∀ V : World, Calls Try.prog 57 #[.int .i64 x] V (RetB (.int .i64 y1) V)) := hide (fun V => by rw [hy1]; exact countNodes_any x f0 f1 V)
        have HME : Hid (∀ V : World, Below wr.heap.size wr V → Calls Try.prog 59 #[.agg #[.int .i64 n, .slice a cs.length c], .int .i64 (k : Int)] V (RetB (.bool b) V)) := hide (fun V hv => by rw [hb]; exact isMet_any n a c cs k HOK.out (by omega) (by omega) V ((hA3.out.keep hB).keep hv) hl)
        have HXr := hide (hX3.out.keep hB)
        have HB := hide hB
        clear hB hx hy0 hy1 hb f0 f1
        by_cases h1 : y0 < y1
        · have HLT := hide h1
          go_wp2_with fail
          refine (HC0.out _).mono ?_
          rintro e w4 ⟨rfl, hb4⟩
          have hX4 := hide (HXr.out.keep hb4)
          have hB4 := hide (Below.trans' HB.out hb4)
          have hb4' := hide hb4
          clear hb4
          go_wp2_with fail
          refine (HC1.out _).mono ?_
          rintro e w5 ⟨rfl, hb5⟩
          have hX5 := hide (hX4.out.keep hb5)
          have hB5 := hide (Below.trans' hB4.out hb5)
          have hb5' := hide (Below.trans' hb4'.out hb5)
          clear hb5
          obtain ⟨d0, d1⟩ := hX5.out
          go_wp2_with fail
          refine (HME.out _ hb5'.out).mono ?_
          rintro e w6 ⟨rfl, hb6⟩
          have hB6 := hide (Below.trans' hB5.out hb6)
          clear hb6 d0 d1
          cases b
          · have HN : Hid (f (k + 1) = x) := hide (by rw [HS.out, if_neg (by simp)])
            go_wp2_with fail
            go_roundw
            case rel => exact ⟨k + 1, by omega, by go_num, by rw [HN.out], hB6.out⟩
            case measure => simp [intOf]; omega
          · have HN : Hid (f (k + 1) = (k : Int)) := hide (by rw [HS.out, if_pos ⟨HLT.out, rfl⟩])
            go_wp2_with fail
            go_roundw
            case rel => exact ⟨k + 1, by omega, by go_num, by rw [HN.out], hB6.out⟩
            case measure => simp [intOf]; omega
        · have HN : Hid (f (k + 1) = x) := hide (by rw [HS.out, if_neg (fun x => h1 x.1)])
          go_wp2_with fail
          refine (HC0.out _).mono ?_
          rintro e w4 ⟨rfl, hb4⟩
          have hB4 := hide (Below.trans' HB.out hb4)
          clear hb4
          go_wp2_with fail
          refine (HC1.out _).mono ?_
          rintro e w5 ⟨rfl, hb5⟩
          have hB5 := hide (Below.trans' hB4.out hb5)
          clear hb5
          go_wp2_with fail
          go_roundw
          case rel => exact ⟨k + 1, by omega, by go_num, by rw [HN.out], hB5.out⟩
          case measure => simp [intOf]; omega
      · obtain rfl : k = M := by omega
        have hB4 := hide (Below.trans' hB3.out hB)
        clear hB
        go_wp2_with fail
        go_ret2
        exact ⟨rfl, hB4.out⟩

theorem all_take {q : Int → Bool} {zs : List Int} {j : Nat} {z : Int} (h : zs[j]? = some z) : (zs.take (j + 1)).all q = ((zs.take j).all q && q z) := by
  rw [List.take_add_one, h, List.all_append]
  simp
theorem all_of_take {q : Int → Bool} {zs : List Int} {j : Nat} (h : (zs.take j).all q = false) : zs.all q = false := by
  rw [List.all_eq_false] at h ⊢
  obtain ⟨x, hx, h2⟩ := h
  exact ⟨x, List.mem_of_mem_take hx, h2⟩

set_option maxRecDepth 100000 in
set_option maxHeartbeats 4000000 in
theorem specLm_any (n : Int) (a : Option Addr) (c : Nat) (cs : List Int) (W : World) (ha : IntsAt W a cs) (hl : cs.length ≤ 1048576) :
    Calls Try.prog 28 #[.agg #[.int .i64 n, .slice a cs.length c]] W (RetB (.tuple #[.int .i64 (lmR n cs).1, .int .i64 (lmR n cs).2]) W) := by
  obtain ⟨W0, hW0⟩ : ∃ W0, W0 = W.alloc (.cells #[.int .i64 n, .slice a cs.length c] 27) := ⟨_, rfl⟩
  have hB0 : Hid (Below W.heap.size W W0) := by rw [hW0]; exact hide (below_alloc _ _)
  have hX0 : Hid (HexIn W0 W.heap.size n a cs.length c) := by rw [hW0]; exact hide (hexIn_new _ _ _ _ _ _)
  have hA0 := hide (ha.keep hB0.out)
  obtain ⟨c0, c1⟩ := hX0.out
  clear ha
  cases hok : okB n cs
  · have HR : Hid (lmR n cs = (0, 1)) := hide (by simp [lmR, hok])
    have HOK := hide hok
    rw [HR.out]
    clear hok
    go_enter Try.func28, Try.ntmps28
    go_wp2_with fail
    rw [← hW0]
    clear hW0
    refine (l07Is_is HOK.out hA0.out hl).mono ?_
    rintro e w1 ⟨rfl, hb1⟩
    have hB1 := hide (Below.trans' hB0.out hb1)
    clear hb1
    go_wp2_with fail
    go_ret2
    exact ⟨rfl, hB1.out⟩
  · obtain ⟨hn, hk100, _⟩ := okB_parts hok
    obtain ⟨n1, n16⟩ := hn
    have HOK := hide hok
    have hSets := hide (sets_of hok)
    obtain ⟨m, hm⟩ : ∃ m, m = allI n := ⟨_, rfl⟩
    obtain ⟨M, hM⟩ : ∃ M : Nat, m = M := ⟨m.toNat, by have := allI_16 ⟨n1, n16⟩; omega⟩
    have hM16 : M < 65536 := by have := allI_16 ⟨n1, n16⟩; omega
    obtain ⟨f, hf⟩ : ∃ f : Nat → Int, f = lmS m (met cs) := ⟨_, rfl⟩
    have HR : Hid (lmR n cs = (f M, 0)) := hide (by unfold lmR; rw [if_pos hok, lm_same ⟨n1, n16⟩ (met_all hok), ← hm, hf, hM, Int.toNat_natCast])
    have HF0 : Hid (f 0 = (M : Int)) := hide (by rw [hf, hM]; rfl)
    have HFS : Hid (∀ k : Nat, f (k + 1) = if ones ((M : Int) - 1 - (k : Int)) ≤ ones (f k) ∧ met cs ((M : Int) - 1 - (k : Int)) = true then (M : Int) - 1 - (k : Int) else f k) := hide (fun k => by rw [hf, hM]; rfl)
    have HFR : Hid (∀ k : Nat, k ≤ M → 0 ≤ f k ∧ f k < 65536) := hide (fun k hk => by
      rw [hf]
      have := lmS_range (m := m) (q := met cs) (by omega) k (by omega)
      omega)
    have hpw := shl_16 n16
    have hku := u64_small (k := n) (by omega) (by omega)
    have hm2 : (2 : Int) ^ n.toNat - 1 = (M : Int) := by rw [← hM, hm]; rfl
    rw [HR.out]
    clear hok hm hM hf
    go_enter Try.func28, Try.ntmps28
    go_wp2_with fail
    rw [← hW0]
    clear hW0
    refine (l07Is_is HOK.out hA0.out hl).mono ?_
    rintro e w1 ⟨rfl, hb1⟩
    have hB1 := hide (Below.trans' hB0.out hb1)
    have hX1 := hide (hX0.out.keep hb1)
    have hA1 := hide (hA0.out.keep hb1)
    clear hb1 c0 c1
    obtain ⟨c0, c1⟩ := hX1.out
    go_wp2_with fail
    clear c0 c1 hpw hku hm2
    go_loopg [4, 5] M (fun g v i wr => ∃ (k : Nat) (s : Int), k + g = M ∧ s = (M : Int) - 1 - (k : Int) ∧ i = .int .i64 s ∧ v = .int .i64 (f k) ∧ Below w1.heap.size w1 wr)
    case atStart => exact ⟨0, (M : Int) - 1, by omega, by omega, rfl, by rw [HF0.out], Below.refl _ _⟩
    case round =>
      obtain ⟨k, s, hk, hsk, rfl, rfl, hB⟩ := hrel
      obtain ⟨f0, f1⟩ := HFR.out k (by omega)
      cases gk with
      | succ g =>
        have hlt : 0 ≤ s := by omega
        have hsM : s < 65536 := by omega
        have hkM : k + 1 + g = M := by omega
        have hnx : s - 1 = (M : Int) - 1 - ((k + 1 : Nat) : Int) := by omega
        obtain ⟨x, hx⟩ : ∃ x, x = f k := ⟨_, rfl⟩
        rw [← hx] at f0 f1 ⊢
        obtain ⟨y0, hy0⟩ : ∃ y, y = ones s := ⟨_, rfl⟩
        obtain ⟨y1, hy1⟩ : ∃ y, y = ones x := ⟨_, rfl⟩
        have HS : Hid (f (k + 1) = if y0 ≤ y1 ∧ met cs s = true then s else x) := hide (by rw [HFS.out, ← hx, ← hsk, ← hy0, ← hy1])
        have HC0 : Hid (∀ V : World, Calls Try.prog 58 #[.int .i64 s] V (RetB (.int .i64 y0) V)) := hide (fun V => by rw [hy0]; exact l07Ones_any s hlt hsM V)
        have HC1 : Hid (∀ V : World, Calls Try.prog 58 #[.int .i64 x] V (RetB (.int .i64 y1) V)) := hide (fun V => by rw [hy1]; exact l07Ones_any x f0 f1 V)
        have HXr := hide (hX1.out.keep hB)
        have HAr := hide (hA1.out.keep hB)
        have HB := hide hB
        have HNX := hide hnx
        clear hB hx hy0 hy1 f0 f1 hsk hnx hk
        by_cases h1 : y1 < y0
        · have HN : Hid (f (k + 1) = x) := hide (by rw [HS.out, if_neg (fun x => by omega)])
          go_wp2_with fail
          refine (HC0.out _).mono ?_
          rintro e w4 ⟨rfl, hb4⟩
          have hB4 := hide (Below.trans' HB.out hb4)
          clear hb4
          go_wp2_with fail
          refine (HC1.out _).mono ?_
          rintro e w5 ⟨rfl, hb5⟩
          have hB5 := hide (Below.trans' hB4.out hb5)
          clear hb5
          go_wp2_with fail
          go_roundg g
          case rel => exact ⟨k + 1, s - 1, hkM, HNX.out, by go_num, by rw [HN.out], hB5.out⟩
          case measure => omega
        · have HLE : Hid (y0 ≤ y1) := hide (by omega)
          obtain ⟨q, hq⟩ : ∃ q : Int → Bool, q = fun l => decide (andI l s ≠ 0) := ⟨_, rfl⟩
          have HM : Hid (met cs s = cs.all q) := hide (by rw [hq]; rfl)
          have HQ : Hid (∀ z, q z = decide (andI z s ≠ 0)) := hide (fun z => by rw [hq])
          clear hq
          go_wp2_with fail
          refine (HC0.out _).mono ?_
          rintro e w4 ⟨rfl, hb4⟩
          have hX4 := hide (HXr.out.keep hb4)
          have hA4 := hide (HAr.out.keep hb4)
          have hB4 := hide (Below.trans' HB.out hb4)
          clear hb4
          go_wp2_with fail
          refine (HC1.out _).mono ?_
          rintro e w5 ⟨rfl, hb5⟩
          have hX5 := hide (hX4.out.keep hb5)
          have hA5 := hide (hA4.out.keep hb5)
          have hB5 := hide (Below.trans' hB4.out hb5)
          clear hb5
          obtain ⟨d0, d1⟩ := hX5.out
          go_wp2_with fail
          go_loopg [6, 7] cs.length (fun g u j wr => ∃ (i : Nat), i + g = cs.length ∧ j = .int .i64 i ∧ u = .bool ((cs.take i).all q) ∧ w5 = wr)
          case atStart => exact ⟨0, by omega, rfl, by simp, rfl⟩
          case round =>
            obtain ⟨i, hi, rfl, rfl, rfl⟩ := hrel
            obtain ⟨u, hu⟩ : ∃ u, u = (cs.take i).all q := ⟨_, rfl⟩
            rw [← hu]
            have HU := hide hu
            clear hu
            by_cases hgo : i < cs.length ∧ u = true
            · obtain ⟨hil, rfl⟩ := hgo
              obtain ⟨b, off, z, rfl, hcell, hz⟩ := hA5.out.one hil
              obtain ⟨z0, z1⟩ := hSets.out z (mem_of_get hz.out)
              have hbw := and_walkI (x := z) (y := s) z0 (by omega) hlt (by omega)
              obtain ⟨d, hd⟩ : ∃ d, d = andI z s := ⟨_, rfl⟩
              rw [← hd] at hbw
              have HN : Hid ((cs.take (i + 1)).all q = (d != 0)) := hide (by rw [all_take hz.out, ← HU.out, HQ.out, ← hd]; by_cases e : d = 0 <;> simp [e])
              clear hd hz
              go_wp2_with fail
              go_roundg (gk - 1)
              case rel => exact ⟨i + 1, by omega, by go_num, by rw [HN.out], rfl⟩
              case measure => omega
            · have HE : Hid (u = met cs s) := hide (by
                cases hu : u
                · rw [HM.out]; exact (all_of_take (by rw [← HU.out]; exact hu)).symm
                · have : i = cs.length := by
                    rcases Nat.lt_or_ge i cs.length with h | h
                    · exact absurd ⟨h, hu⟩ hgo
                    · omega
                  rw [HM.out, ← hu, HU.out, this, List.take_length])
              cases u
              · have HN : Hid (f (k + 1) = x) := hide (by rw [HS.out, if_neg (fun x => by rw [← HE.out] at x; cases x.2)])
                clear HE HU
                by_cases hil : i < cs.length
                · go_wp2_with fail
                  go_roundg g
                  case rel => exact ⟨k + 1, s - 1, hkM, HNX.out, by go_num, by rw [HN.out], hB5.out⟩
                  case measure => omega
                · go_wp2_with fail
                  go_roundg g
                  case rel => exact ⟨k + 1, s - 1, hkM, HNX.out, by go_num, by rw [HN.out], hB5.out⟩
                  case measure => omega
              · have HN : Hid (f (k + 1) = s) := hide (by rw [HS.out, if_pos ⟨HLE.out, HE.out.symm⟩])
                have hil : ¬ i < cs.length := fun h => hgo ⟨h, rfl⟩
                clear HE HU hgo
                go_wp2_with fail
                go_roundg g
                case rel => exact ⟨k + 1, s - 1, hkM, HNX.out, by go_num, by rw [HN.out], hB5.out⟩
                case measure => omega
      | zero =>
        obtain rfl : k = M := by omega
        have hs0 : s < 0 := by omega
        have hB4 := hide (Below.trans' hB1.out hB)
        clear hB hsk
        go_wp2_with fail
        go_ret2
        exact ⟨rfl, hB4.out⟩
end Go.Proofs.Ytlllkmobhjlmoaa
