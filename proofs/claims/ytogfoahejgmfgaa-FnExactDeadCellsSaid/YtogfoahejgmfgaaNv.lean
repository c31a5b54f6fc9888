/-
  JoinerOf, both texts; NeedOf, the program's text.
-/
import Derived.Test.YtogfoahejgmfgaaNu
namespace Go.Proofs.Ytogfoahejgmfgaa
open Go.RowKit
set_option linter.unusedVariables false

noncomputable def joR (n : Int) (cs : List Int) : Int × Int := if okH n cs = true then (jnP n cs, 0) else (0, 1)

set_option maxRecDepth 100000 in
set_option maxHeartbeats 2000000 in
theorem implJoiner_any (n : Int) (a : Option Addr) (c : Nat) (cs : List Int) (W : World) (ha : IntsAt W a cs) (hl : cs.length ≤ 1048576) (hc : cs.length ≤ c) :
    Calls Try.prog 16 #[.agg #[.int .i64 n, .slice a cs.length c]] W (RetB (.tuple #[.int .i64 (joR n cs).1, .int .i64 (joR n cs).2]) W) := by
  obtain ⟨W0, hW0⟩ : ∃ W0, W0 = W.alloc (.cells #[.int .i64 n, .slice a cs.length c] 28) := ⟨_, rfl⟩
  have hB0 : Hid (Below W.heap.size W W0) := by rw [hW0]; exact hide (below_alloc _ _)
  have hX0 : Hid (HexIn W0 W.heap.size n a cs.length c) := by rw [hW0]; exact hide (hexIn_new _ _ _ _ _ _)
  have hA0 := hide (ha.keep hB0.out)
  obtain ⟨c0, c1⟩ := hX0.out
  cases hok : okH n cs
  · have HR : Hid (joR n cs = (0, 1)) := hide (by simp [joR, hok])
    have HOK := hide hok
    rw [HR.out]
    clear hok ha
    go_enter Try.func16, Try.ntmps16
    go_wp2_with fail
    rw [← hW0]
    clear hW0
    refine (implIsX_is HOK.out hA0.out hl).mono ?_
    rintro e w1 ⟨rfl, hb1⟩
    have hB1 := hide (Below.trans' hB0.out hb1)
    clear hb1
    go_wp2_with fail
    go_ret2
    exact ⟨rfl, hB1.out⟩
  · obtain ⟨N, b, off, rfl, hN1, hN8, hlen, hz, rfl⟩ := okH_nat hok ha
    have HR : Hid (joR N cs = (jnP N cs, 0)) := hide (by simp [joR, hok])
    have HOK := hide hok
    have HJ : Hid (∀ V : World, Below W0.heap.size W0 V → Calls Try.prog 51 #[.agg #[.int .i64 N, .slice (some ⟨b, off, none⟩) cs.length c]] V (RetB (.int .i64 (jnP N cs)) V)) := hide (fun V hV => joiner_any N b off c cs hN1 hN8 hlen hc hz V (hA0.out.keep hV))
    rw [HR.out]
    obtain ⟨r, hr⟩ : ∃ r, r = jnP N cs := ⟨_, rfl⟩
    rw [← hr] at HJ ⊢
    clear hok ha hlen hz hr HR
    go_enter Try.func16, Try.ntmps16
    go_wp2_with fail
    rw [← hW0]
    clear hW0
    refine (implIsX_is HOK.out hA0.out hl).mono ?_
    rintro e w1 ⟨rfl, hb1⟩
    have hB1 := hide hb1
    obtain ⟨d0, d1⟩ := hX0.out.keep hb1
    clear hb1 c0 c1
    go_wp2_with fail
    refine (HJ.out _ hB1.out).mono ?_
    rintro e w2 ⟨rfl, hb2⟩
    have hB2 := hide (Below.trans' hB0.out (Below.trans' hB1.out hb2))
    clear hb2 d0 d1
    go_wp2_with fail
    go_ret2
    exact ⟨rfl, hB2.out⟩

set_option maxRecDepth 100000 in
set_option maxHeartbeats 2000000 in
theorem specJoinerOf_any (n : Int) (a : Option Addr) (c : Nat) (cs : List Int) (W : World) (ha : IntsAt W a cs) (hl : cs.length ≤ 1048576) :
    Calls Try.prog 15 #[.agg #[.int .i64 n, .slice a cs.length c]] W (RetB (.tuple #[.int .i64 (joR n cs).1, .int .i64 (joR n cs).2]) W) := by
  obtain ⟨W0, hW0⟩ : ∃ W0, W0 = W.alloc (.cells #[.int .i64 n, .slice a cs.length c] 28) := ⟨_, rfl⟩
  have hB0 : Hid (Below W.heap.size W W0) := by rw [hW0]; exact hide (below_alloc _ _)
  have hX0 : Hid (HexIn W0 W.heap.size n a cs.length c) := by rw [hW0]; exact hide (hexIn_new _ _ _ _ _ _)
  have hA0 := hide (ha.keep hB0.out)
  obtain ⟨c0, c1⟩ := hX0.out
  cases hok : okH n cs
  · have HR : Hid (joR n cs = (0, 1)) := hide (by simp [joR, hok])
    have HOK := hide hok
    rw [HR.out]
    clear hok ha
    go_enter Try.func15, Try.ntmps15
    go_wp2_with fail
    rw [← hW0]
    clear hW0
    refine (specIsX_is HOK.out hA0.out hl).mono ?_
    rintro e w1 ⟨rfl, hb1⟩
    have hB1 := hide (Below.trans' hB0.out hb1)
    clear hb1
    go_wp2_with fail
    go_ret2
    exact ⟨rfl, hB1.out⟩
  · obtain ⟨N, b, off, rfl, hN1, hN8, hlen, hz, rfl⟩ := okH_nat hok ha
    have HR : Hid (joR N cs = (jnP N cs, 0)) := hide (by simp [joR, hok])
    have HOK := hide hok
    have HJ : Hid (∀ V : World, Below W0.heap.size W0 V → Calls Try.prog 49 #[.int .i64 N, .slice (some ⟨b, off, none⟩) cs.length c] V (RetB (.int .i64 (jnP N cs)) V)) := hide (fun V hV => specJoiner_any N b off c cs hN1 hN8 hlen V (hA0.out.keep hV))
    rw [HR.out]
    obtain ⟨r, hr⟩ : ∃ r, r = jnP N cs := ⟨_, rfl⟩
    rw [← hr] at HJ ⊢
    clear hok ha hlen hz hr HR
    go_enter Try.func15, Try.ntmps15
    go_wp2_with fail
    rw [← hW0]
    clear hW0
    refine (specIsX_is HOK.out hA0.out hl).mono ?_
    rintro e w1 ⟨rfl, hb1⟩
    have hB1 := hide hb1
    obtain ⟨d0, d1⟩ := hX0.out.keep hb1
    clear hb1 c0 c1
    go_wp2_with fail
    refine (HJ.out _ hB1.out).mono ?_
    rintro e w2 ⟨rfl, hb2⟩
    have hB2 := hide (Below.trans' hB0.out (Below.trans' hB1.out hb2))
    clear hb2 d0 d1
    go_wp2_with fail
    go_ret2
    exact ⟨rfl, hB2.out⟩

/-- There is a table that is still. -/
theorem tab_ex {n : Int} {cs : List Int} {p : Int} (hn : 1 ≤ n) (hn8 : n ≤ 8) (hp : p = 1 ∨ p = 2) (hz : ∀ c, 0 ≤ c → c < n * n → 0 ≤ hexAt cs c ∧ hexAt cs c ≤ 2) : ∀ (m : Nat) (t : Tb), mass t = m → Tab n cs p t → ∃ t', Tab n cs p t' ∧ Still n cs p t' := by
  intro m
  induction m using Nat.strongRecOn with
  | ind m ih =>
    intro t hm ht
    by_cases h : ∀ c, 0 ≤ c → c < n * n → hexAt cs c ≠ 3 - p → betB (bstO n cs p t c) (tbAt t c) = false
    · exact ⟨t, ht, still_pass hn hp hz h⟩
    · have h2 : ∃ c, 0 ≤ c ∧ c < n * n ∧ hexAt cs c ≠ 3 - p ∧ betB (bstO n cs p t c) (tbAt t c) = true := by
        refine Classical.byContradiction (fun hno => h (fun c c0 c1 hne => ?_))
        cases hb : betB (bstO n cs p t c) (tbAt t c) with
        | false => rfl
        | true => exact absurd ⟨c, c0, c1, hne, hb⟩ hno
      obtain ⟨c, c0, c1, hne, hb⟩ := h2
      cases hk : bstO n cs p t c with
      | none => rw [hk] at hb; simp [betB] at hb
      | some k =>
        rw [hk] at hb
        obtain ⟨h3, h4⟩ := bst_put hn hn8 hp ht c0 c1 (hz c c0 c1).1 (hz c c0 c1).2 hne hk hb
        exact ih _ (by omega) _ rfl h3
theorem need_64b {N : Nat} {cs : List Int} {p : Int} (hok : okH N cs = true) (hp : 1 ≤ p ∧ p ≤ 2) {k : Nat} (hk : needO N cs p = some k) : k ≤ 64 := by
  obtain ⟨h1, h2, h3, h4⟩ := okH_yes hok
  have h5 : cs.length = N * N := by exact_mod_cast h3
  obtain ⟨t, ht, hs⟩ := tab_ex (cs := cs) (p := p) h1 h2 (by omega) (fun c c0 c1 => h4 _ (hexAt_mem (by omega))) _ _ rfl (Tab.nil (m := cs.length) h3)
  have hl : ∀ c, c ∈ ((List.range (N * N)).map (fun i : Nat => (i : Int))).filter (fun c => endH N p c) ↔ 0 ≤ c ∧ c < (N : Int) * N ∧ endH N p c = true := by
    intro c
    simp only [List.mem_filter, List.mem_map, List.mem_range]
    constructor
    · rintro ⟨⟨i, hi, rfl⟩, he⟩
      exact ⟨by omega, by exact_mod_cast hi, he⟩
    · rintro ⟨c0, c1, he⟩
      obtain ⟨i, rfl⟩ := Int.eq_ofNat_of_zero_le c0
      exact ⟨⟨i, by exact_mod_cast c1, rfl⟩, he⟩
  rw [ht.need h1 hs hl] at hk
  exact needO_le h1 h2 ht (fun c hc => ((hl c).1 hc).1) hk

/-! ### NeedOf -/
def ndO : Option Nat → Int × Int
  | none => (0, 4)
  | some k => ((k : Int), 0)
noncomputable def ndR (n : Int) (cs : List Int) (p : Int) : Int × Int := if okH n cs = true then (if 1 ≤ p ∧ p ≤ 2 then ndO (needO n cs p) else (0, 2)) else (0, 1)
def hpC (n : Int) (cs : List Int) (p : Int) : Int := if okH n cs = true then (if 1 ≤ p ∧ p ≤ 2 then 0 else 2) else 1
theorem isPlayer_any (p : Int) (W : World) : Calls Try.prog 82 #[.int .i64 p] W (RetB (.bool (decide (p = 1) || decide (p = 2))) W) := by
  by_cases h1 : p = 1
  · subst h1
    go_enter Try.func82, Try.ntmps82
    go_wp2
    go_ret
    exact ⟨rfl, Below.refl _ _⟩
  · have d1 : (p == 1) = false := by simp [h1]
    by_cases h2 : p = 2
    · subst h2
      go_enter Try.func82, Try.ntmps82
      go_wp2
      go_ret
      exact ⟨rfl, Below.refl _ _⟩
    · have d2 : (p == 2) = false := by simp [h2]
      have hd : (decide (p = 1) || decide (p = 2)) = false := by simp [h1, h2]
      rw [hd]
      go_enter Try.func82, Try.ntmps82
      go_wp2
      go_ret
      exact ⟨rfl, Below.refl _ _⟩
set_option maxRecDepth 100000 in
set_option maxHeartbeats 2000000 in
theorem checkPlayer_any (n : Int) (a : Option Addr) (c : Nat) (cs : List Int) (p : Int) (W : World) (ha : IntsAt W a cs) (hl : cs.length ≤ 1048576) :
    Calls Try.prog 47 #[.agg #[.int .i64 n, .slice a cs.length c], .int .i64 p] W (RetB (.int .i64 (hpC n cs p)) W) := by
  obtain ⟨W0, hW0⟩ : ∃ W0, W0 = W.alloc (.cells #[.int .i64 n, .slice a cs.length c] 28) := ⟨_, rfl⟩
  have hB0 : Hid (Below W.heap.size W W0) := by rw [hW0]; exact hide (below_alloc _ _)
  obtain ⟨c0, c1⟩ : HexIn W0 W.heap.size n a cs.length c := by rw [hW0]; exact hexIn_new _ _ _ _ _ _
  have hA0 := hide (ha.keep hB0.out)
  clear ha
  cases hok : okH n cs
  · have HR : Hid (hpC n cs p = 1) := hide (by simp [hpC, hok])
    have HOK := hide hok
    rw [HR.out]
    clear hok
    go_enter Try.func47, Try.ntmps47
    go_wp2_with fail
    rw [← hW0]
    clear hW0
    refine (implIsX_is HOK.out hA0.out hl).mono ?_
    rintro e w1 ⟨rfl, hb1⟩
    have hB1 := hide (Below.trans' hB0.out hb1)
    clear hb1
    go_wp2_with fail
    go_ret
    exact ⟨rfl, hB1.out⟩
  · obtain ⟨r, hr⟩ : ∃ r, r = (decide (p = 1) || decide (p = 2)) := ⟨_, rfl⟩
    have HP := hide (fun V => isPlayer_any p V)
    rw [← hr] at HP
    have HR : Hid (hpC n cs p = if r = true then 0 else 2) := hide (by
      rw [hr]
      simp only [hpC, hok, if_true, Bool.or_eq_true, decide_eq_true_eq]
      by_cases h : 1 ≤ p ∧ p ≤ 2
      · rw [if_pos h, if_pos (by omega)]
      · rw [if_neg h, if_neg (by omega)])
    have HOK := hide hok
    rw [HR.out]
    clear hok hr HR
    cases r
    all_goals
      go_enter Try.func47, Try.ntmps47
      go_wp2_with fail
      rw [← hW0]
      clear hW0
      refine (implIsX_is HOK.out hA0.out hl).mono ?_
      rintro e w1 ⟨rfl, hb1⟩
      have hB1 := hide (Below.trans' hB0.out hb1)
      clear hb1
      go_wp2_with fail
      refine (HP.out _).mono ?_
      rintro e w2 ⟨rfl, hb2⟩
      have hB2 := hide (Below.trans' hB1.out hb2)
      clear hb2
      go_wp2_with fail
      go_ret
      exact ⟨rfl, hB2.out⟩

set_option maxRecDepth 100000 in
set_option maxHeartbeats 2000000 in
theorem implNeed_any (n : Int) (a : Option Addr) (c : Nat) (cs : List Int) (p : Int) (W : World) (ha : IntsAt W a cs) (hl : cs.length ≤ 1048576) (hc : cs.length ≤ c) :
    Calls Try.prog 13 #[.agg #[.int .i64 n, .slice a cs.length c], .int .i64 p] W (RetB (.tuple #[.int .i64 (ndR n cs p).1, .int .i64 (ndR n cs p).2]) W) := by
  obtain ⟨W0, hW0⟩ : ∃ W0, W0 = W.alloc (.cells #[.int .i64 n, .slice a cs.length c] 28) := ⟨_, rfl⟩
  have hB0 : Hid (Below W.heap.size W W0) := by rw [hW0]; exact hide (below_alloc _ _)
  have hX0 : Hid (HexIn W0 W.heap.size n a cs.length c) := by rw [hW0]; exact hide (hexIn_new _ _ _ _ _ _)
  have hA0 := hide (ha.keep hB0.out)
  obtain ⟨c0, c1⟩ := hX0.out
  have HCK := hide (checkPlayer_any n a c cs p W0 hA0.out hl)
  obtain ⟨k, hk⟩ : ∃ k, k = hpC n cs p := ⟨_, rfl⟩
  rw [← hk] at HCK
  by_cases h0 : k = 0
  · subst h0
    have hok : okH n cs = true := by
      cases h : okH n cs
      · unfold hpC at hk; rw [h] at hk; simp at hk
      · rfl
    have hp : 1 ≤ p ∧ p ≤ 2 := by
      unfold hpC at hk
      rw [hok, if_pos rfl] at hk
      by_cases e : 1 ≤ p ∧ p ≤ 2
      · exact e
      · rw [if_neg e] at hk; omega
    obtain ⟨N, b, off, rfl, hN1, hN8, hlen, hz, rfl⟩ := okH_nat hok ha
    have HJ : Hid (∀ V : World, Below W0.heap.size W0 V → Calls Try.prog 48 #[.agg #[.int .i64 N, .slice (some ⟨b, off, none⟩) cs.length c], .int .i64 p] V (RetB (.int .i64 (encI (needO N cs p))) V)) := hide (fun V hV => by
      rcases (by omega : p = 1 ∨ p = 2) with rfl | rfl
      · exact needOf1_any N b off c cs hN1 hN8 hlen hc hz V (hA0.out.keep hV)
      · exact needOf2_any N b off c cs hN1 hN8 hlen hc hz V (hA0.out.keep hV))
    obtain ⟨o, ho⟩ : ∃ o, o = needO N cs p := ⟨_, rfl⟩
    rw [← ho] at HJ
    have HR : Hid (ndR N cs p = ndO o) := hide (by unfold ndR; rw [if_pos hok, if_pos hp, ← ho])
    have hsm : ∀ k, o = some k → k ≤ 64 := by
      intro k hk
      have h := need_64b (p := p) hok hp (by rw [← ho]; exact hk)
      exact h
    rw [HR.out]
    clear hok ha hlen hz hk hp HR ho
    cases o with
    | none =>
      simp only [encI] at HJ
      go_enter Try.func13, Try.ntmps13
      go_wp2_with fail
      rw [← hW0]
      clear hW0
      refine (HCK.out).mono ?_
      rintro e w1 ⟨rfl, hb1⟩
      have hB1 := hide hb1
      obtain ⟨d0, d1⟩ := hX0.out.keep hb1
      clear hb1 c0 c1
      go_wp2_with fail
      refine (HJ.out _ hB1.out).mono ?_
      rintro e w2 ⟨rfl, hb2⟩
      have hB2 := hide (Below.trans' hB0.out (Below.trans' hB1.out hb2))
      clear hb2 d0 d1
      go_wp2_with fail
      go_ret2
      exact ⟨rfl, hB2.out⟩
    | some k =>
      have hk64 := hsm k rfl
      have hne : ((k : Int) == 9223372036854775807) = false := by simp; omega
      simp only [encI] at HJ
      clear hsm
      go_enter Try.func13, Try.ntmps13
      go_wp2_with fail
      rw [← hW0]
      clear hW0
      refine (HCK.out).mono ?_
      rintro e w1 ⟨rfl, hb1⟩
      have hB1 := hide hb1
      obtain ⟨d0, d1⟩ := hX0.out.keep hb1
      clear hb1 c0 c1
      go_wp2_with fail
      refine (HJ.out _ hB1.out).mono ?_
      rintro e w2 ⟨rfl, hb2⟩
      have hB2 := hide (Below.trans' hB0.out (Below.trans' hB1.out hb2))
      clear hb2 d0 d1
      go_wp2_with fail
      go_ret2
      exact ⟨rfl, hB2.out⟩
  · have hne : (k != 0) = true := by simp [h0]
    have HR : Hid (ndR n cs p = (0, k)) := hide (by
      rw [hk]
      unfold ndR hpC
      by_cases e : okH n cs = true
      · rw [if_pos e, if_pos e]
        by_cases e2 : 1 ≤ p ∧ p ≤ 2
        · exfalso; apply h0; rw [hk]; unfold hpC; rw [if_pos e, if_pos e2]
        · rw [if_neg e2, if_neg e2]
      · rw [if_neg e, if_neg e])
    rw [HR.out]
    clear ha hk HR
    go_enter Try.func13, Try.ntmps13
    go_wp2_with fail
    rw [← hW0]
    clear hW0
    refine (HCK.out).mono ?_
    rintro e w1 ⟨rfl, hb1⟩
    have hB1 := hide (Below.trans' hB0.out hb1)
    clear hb1 c0 c1
    go_wp2_with fail
    go_ret2
    exact ⟨rfl, hB1.out⟩
end Go.Proofs.Ytogfoahejgmfgaa
