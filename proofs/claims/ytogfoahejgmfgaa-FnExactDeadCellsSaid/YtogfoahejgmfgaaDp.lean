/-
  Boards of hexagons: dead cells, the program's text.
-/
import Derived.Test.YtogfoahejgmfgaaDd
import Derived.Test.YtogfoahejgmfgaaDj
namespace Go.Proofs.Ytogfoahejgmfgaa
open Go.RowKit
set_option linter.unusedVariables false

def limC (n : Int) (cs : List Int) : Int := if okH n cs = true then (if (empC cs).length ≤ 9 then 0 else 3) else 1
set_option maxRecDepth 100000 in
set_option maxHeartbeats 1000000 in
theorem checkLimit_any (n : Int) (a : Option Addr) (c : Nat) (cs : List Int) (W : World) (ha : IntsAt W a cs) (hl : cs.length ≤ 1048576) :
    Calls Try.prog 55 #[.agg #[.int .i64 n, .slice a cs.length c]] W (RetB (.int .i64 (limC n cs)) W) := by
  obtain ⟨W0, hW0⟩ : ∃ W0, W0 = W.alloc (.cells #[.int .i64 n, .slice a cs.length c] 28) := ⟨_, rfl⟩
  have hB0 : Hid (Below W.heap.size W W0) := by rw [hW0]; exact hide (below_alloc _ _)
  have hX0 : Hid (HexIn W0 W.heap.size n a cs.length c) := by rw [hW0]; exact hide (hexIn_new _ _ _ _ _ _)
  have hA0 := hide (ha.keep hB0.out)
  obtain ⟨c0, c1⟩ := hX0.out
  cases hok : okH n cs
  · have HR : Hid (limC n cs = 1) := hide (by simp [limC, hok])
    have HOK := hide hok
    rw [HR.out]
    clear hok ha
    go_enter Try.func55, Try.ntmps55
    go_wp2_with fail
    rw [← hW0]
    clear hW0
    refine (implIsX_is HOK.out hA0.out hl).mono ?_
    rintro e w1 ⟨rfl, hb1⟩
    have hB1 := hide (Below.trans' hB0.out hb1)
    clear hb1
    go_wp2_with fail
    go_ret
    exact ⟨rfl, hB1.out⟩
  · have HOK := hide hok
    obtain ⟨m, hm⟩ : ∃ m, m = (empC cs).length := ⟨_, rfl⟩
    have HR : limC n cs = if m ≤ 9 then 0 else 3 := by simp [limC, hok, hm]
    have HCE : Hid (∀ V : World, Below W0.heap.size W0 V → Calls Try.prog 57 #[.agg #[.int .i64 n, .slice a cs.length c], .int .i64 0] V (NewL (empC cs) V)) := hide (fun V hV => cellsOf_any n a c cs 0 V (hA0.out.keep hV) hl)
    have hmL : m ≤ 1048576 := by rw [hm]; exact Nat.le_trans (show (pre (fun c => hexAt cs c == 0) cs.length).length ≤ cs.length from pre_le _ _) hl
    have HM := hide hm
    obtain ⟨r, hr⟩ : ∃ r : Int, r = if m ≤ 9 then 0 else 3 := ⟨_, rfl⟩
    rw [HR, ← hr]
    have HRR := hide hr
    clear hok ha hm HR hr
    go_enter Try.func55, Try.ntmps55
    go_wp2_with fail
    rw [← hW0]
    clear hW0
    refine (implIsX_is HOK.out hA0.out hl).mono ?_
    rintro e w1 ⟨rfl, hb1⟩
    have hB1 := hide hb1
    obtain ⟨d0, d1⟩ := hX0.out.keep hb1
    clear hb1 c0 c1
    go_wp2_with fail
    refine (HCE.out _ hB1.out).mono ?_
    rintro e w2 ⟨a2, k2, rfl, ho2, hb2⟩
    rw [← HM.out]
    have hB2 := hide (Below.trans' hB0.out (Below.trans' hB1.out hb2))
    clear hb2 d0 d1 ho2
    by_cases h9 : m ≤ 9
    · have hr := HRR.out
      rw [if_pos h9] at hr
      subst hr
      go_wp2_with fail
      go_ret
      exact ⟨rfl, hB2.out⟩
    · have hr := HRR.out
      rw [if_neg h9] at hr
      subst hr
      go_wp2_with fail
      go_ret
      exact ⟨rfl, hB2.out⟩

/-- The test of the cells up to k. -/
def deadTo (n : Int) (cs : List Int) (i k : Nat) : Prop := ∀ s, s < k → jnF n cs (s ^^^ 2 ^ i) = jnF n cs s
theorem ddL_yes {n : Int} {cs : List Int} {k : Nat} {z : Int} (h : deadP n cs k) (hz : (empC cs)[k]? = some z) : ddL n cs (k + 1) = ddL n cs k ++ [z] := by
  rw [ddL, if_pos (deadB_yes h)]
  simp [hz]
theorem ddL_no {n : Int} {cs : List Int} {k : Nat} (h : ¬ deadP n cs k) : ddL n cs (k + 1) = ddL n cs k := by
  rw [ddL, if_neg (by rw [deadB_no h]; simp)]
theorem implDead0_any (n : Int) (a : Option Addr) (c : Nat) (cs : List Int) (hno : limC n cs ≠ 0) (W : World) (ha : IntsAt W a cs) (hl : cs.length ≤ 1048576) :
    Calls Try.prog 18 #[.agg #[.int .i64 n, .slice a cs.length c]] W (NewList ([], limC n cs) W) := by
  obtain ⟨W0, hW0⟩ : ∃ W0, W0 = W.alloc (.cells #[.int .i64 n, .slice a cs.length c] 28) := ⟨_, rfl⟩
  have hB0 : Hid (Below W.heap.size W W0) := by rw [hW0]; exact hide (below_alloc _ _)
  have hX0 : Hid (HexIn W0 W.heap.size n a cs.length c) := by rw [hW0]; exact hide (hexIn_new _ _ _ _ _ _)
  have hA0 := hide (ha.keep hB0.out)
  obtain ⟨c0, c1⟩ := hX0.out
  have HC := hide (checkLimit_any n a c cs W0 hA0.out hl)
  obtain ⟨r, hr⟩ : ∃ r, r = limC n cs := ⟨_, rfl⟩
  rw [← hr] at HC hno ⊢
  have hrd : (r == 0) = false := by simp [hno]
  clear ha hr
  go_enter Try.func18, Try.ntmps18
  go_wp2_with fail
  rw [← hW0]
  clear hW0
  (try go_step3)
  (try go_wp2_with fail)
  refine (HC.out).mono ?_
  rintro e w1 ⟨rfl, hb1⟩
  have hB1 := hide (Below.trans' hB0.out hb1)
  clear hb1
  go_wp2_with fail
  go_ret2
  exact ⟨none, 0, rfl, World.ownsRow_nil _ _ _ _, hB1.out⟩

set_option maxRecDepth 100000 in
set_option maxHeartbeats 4000000 in
theorem implDead1_any (N L b off c : Nat) (cs : List Int) (hLL : cs.length = L) (hok : okH N cs = true) (hN1 : 1 ≤ N) (hN8 : N ≤ 8) (hlen : cs.length = N * N) (hm9 : (empC cs).length ≤ 9) (W : World) (ha : IntsAt W (some ⟨b, off, none⟩) cs) :
    Calls Try.prog 18 #[.agg #[.int .i64 N, .slice (some ⟨b, off, none⟩) L c]] W (NewList (ddL N cs (empC cs).length, 0) W) := by
  obtain ⟨i0, hi0, hz0, hz1, hz2⟩ := info_parts Try.info2
  have hsq := sqN8 hN8
  have hl : cs.length ≤ 1048576 := by omega
  obtain ⟨W0, hW0⟩ : ∃ W0, W0 = W.alloc (.cells #[.int .i64 N, .slice (some ⟨b, off, none⟩) L c] 28) := ⟨_, rfl⟩
  have hB0 : Hid (Below W.heap.size W W0) := by rw [hW0]; exact hide (below_alloc _ _)
  have hr0 : Hid (W0.heap[W.heap.size]? = some (.cells #[.int .i64 N, .slice (some ⟨b, off, none⟩) L c] 28 (0, 0))) := by rw [hW0]; exact hide (alloc_row _ _ _)
  obtain ⟨c0, c1, _, _⟩ := row2' hr0.out
  have hA0 := hide (ha.keep hB0.out)
  have HC := hide (checkLimit_any (N : Int) (some ⟨b, off, none⟩) c cs W0 hA0.out hl)
  rw [hLL, show limC (N : Int) cs = 0 by simp [limC, hok, hm9]] at HC
  have HJF : Hid (∀ V : World, Below W0.heap.size W0 V → Calls Try.prog 56 #[.agg #[.int .i64 N, .slice (some ⟨b, off, none⟩) L c]] V (NewL (jnL N cs) V)) := hide (fun V hV => joinersFull_any N L b off c cs hLL hok hN1 hN8 hlen hm9 V (hA0.out.keep hV))
  have HCE : Hid (∀ V : World, Below W0.heap.size W0 V → Calls Try.prog 57 #[.agg #[.int .i64 N, .slice (some ⟨b, off, none⟩) L c], .int .i64 0] V (NewL (empC cs) V)) := hide (fun V hV => by
    have h := cellsOf_any (N : Int) (some ⟨b, off, none⟩) c cs 0 V (hA0.out.keep hV) hl
    rw [hLL] at h
    exact h)
  obtain ⟨m, hm⟩ : ∃ m, m = (empC cs).length := ⟨_, rfl⟩
  rw [← hm]
  have HM := hide hm
  have hm9' : m ≤ 9 := by rw [hm]; exact hm9
  obtain ⟨P, hP⟩ : ∃ P, P = 2 ^ m := ⟨_, rfl⟩
  have hP512 : P ≤ 512 := by rw [hP]; exact Nat.le_trans (Nat.pow_le_pow_right (by omega) hm9') (by decide)
  have HP := hide hP
  have HJL : Hid ((jnL N cs).length = P) := hide (by rw [jnL_len, hP, hm])
  clear ha hlen hsq hm hm9 hP hok hl
  go_enter Try.func18, Try.ntmps18
  go_wp2_with fail
  rw [← hW0]
  clear hW0
  (try go_step3)
  (try go_wp2_with fail)
  refine (HC.out).mono ?_
  rintro e w1 ⟨rfl, hb1⟩
  have hB1 := hide hb1
  have hr1 := hide (box_keep hr0.out hb1)
  clear hb1 c0 c1
  obtain ⟨c0, c1, _, _⟩ := row2' hr1.out
  go_wp2_with fail
  refine (HJF.out _ hB1.out).mono ?_
  rintro e w2 ⟨aj, kj, rfl, hoj, hb2⟩
  rw [HJL.out] at hoj ⊢
  have hJ2 := hide (intsAt_of_ownsRow hoj)
  have hB2 := hide (Below.trans' hB1.out hb2)
  have hr2 := hide (box_keep hr1.out hb2)
  clear hb2 c0 c1 hoj
  obtain ⟨c0, c1, _, _⟩ := row2' hr2.out
  go_wp2_with fail
  go_step3
  go_wp2_with fail
  refine (HCE.out _ hB2.out).mono ?_
  rintro e w3 ⟨ae, ke, rfl, hoe, hb3⟩
  rw [← HM.out] at hoe ⊢
  have hE3 := hide (intsAt_of_ownsRow hoe)
  have hJ3 := hide (hJ2.out.keep hb3)
  have hB3 := hide (Below.trans' hB0.out (Below.trans' hB2.out hb3))
  clear hb3 c0 c1 hoe
  have hO3 : Hid (Owns w3.heap.size w3 w3 (.slice none 0 0) (ddL N cs 0)) := hide (Owns.nil (Below.refl _ _) (Nat.le_refl _))
  go_wp2_with fail
  go_loopg [6, 21] m (fun g v i wr => ∃ (k : Nat) (v0 : Value), v0 = v ∧ k + g = m ∧ i = .int .i64 k ∧ Hid (Owns w3.heap.size w3 wr v (ddL N cs k)))
  case atStart => exact ⟨0, _, rfl, by omega, rfl, hO3⟩
  case round =>
    clear hO3
    obtain ⟨k, v, rfl, hkg, rfl, hO⟩ := hrel
    cases gk with
    | zero =>
      obtain rfl : k = m := by omega
      have HL := hide (hO.out.listC hB3.out hB3.out.size 0)
      clear hO
      go_wp2_with fail
      go_ret2
      exact HL.out
    | succ g =>
      have hlt : k < m := by omega
      have hw3 : Below w3.heap.size w3 wr := hO.out.old
      obtain ⟨be, offe, z, rfl, hce, hze⟩ := (hE3.out.keep hw3).one (by rw [← HM.out]; exact hlt)
      obtain ⟨wo, rfl⟩ : ∃ wo : World, wo = wr := ⟨_, rfl⟩
      have hk9 : k < 9 := by omega
      have hiff : Hid (deadTo N cs k P ↔ deadP N cs k) := hide (by rw [HP.out, HM.out]; exact dead_prog (by rw [← HM.out]; exact hlt))
      obtain ⟨T, hT⟩ : ∃ T, T = 2 ^ k := ⟨_, rfl⟩
      have hT256 : T ≤ 256 := by rw [hT]; exact Nat.le_trans (Nat.pow_le_pow_right (by omega) (by omega : k ≤ 8)) (by decide)
      have hTI : ((2 : Int) ^ k) = (T : Int) := by rw [hT]; push_cast; rfl
      have hsh : wrap64 ((2 : Int) ^ k) = (T : Int) := by rw [hTI]; unfold wrap64; omega
      have HT := hide hT
      have HSH := hide hsh
      clear hT hTI hsh
      go_wp2_with fail
      go_loopg [28] P (fun g2 i wi => ∃ s : Nat, s + g2 = P ∧ i = .int .i64 s ∧ Hid (deadTo N cs k s) ∧ wi = wo)
      case atStart => exact ⟨0, by omega, rfl, hide (fun s hs => by omega), rfl⟩
      case round =>
        obtain ⟨s, hsg, rfl, hD, rfl⟩ := hrel
        cases gk with
        | zero =>
          obtain rfl : s = P := by omega
          have hown := hO.out.own
          have hsz := hO.out.size
          have hle := ddL_le (N : Int) cs k
          have HY : Hid (ddL N cs (k + 1) = ddL N cs k ++ [z]) := hide (ddL_yes (hiff.out.1 hD.out) hze.out)
          go_wp2_with (at_builtin; refine wpList_append_own _ rfl _ _ 22 rfl (w3.heap.size) 2 i0 (.int .i64 0) 1 8 Try.underlying22 hi0 hz0 hz1 hz2 rfl (by decide) _ _ _ rfl (hown.alloc _) ⟨wr.heap.size, 0, none⟩ 1 1 [.int .i64 z] rfl rfl (cell_one_new _ _ _) (by simp [Value.oneCell']) (by unfold maxLen; omega) (by omega) (by simp; omega) ?_)
          intro v' w5 hown' hgrow _
          have HO5 : Hid (Owns w3.heap.size w3 w5 v' (ddL N cs (k + 1))) := hide (by rw [HY.out]; exact hO.out.snoc (by simpa using hown') hgrow)
          clear hown' hgrow hown HY
          go_wp2_with fail
          go_roundg g
          case rel => exact ⟨k + 1, _, rfl, by omega, by go_num, HO5⟩
          case measure => omega
        | succ g2 =>
          have hsP : s < P := by omega
          have hJw := hJ3.out.keep hw3
          obtain ⟨bj, offj, y, rfl, hcj, hy⟩ := hJw.one (k := s) (by rw [HJL.out]; exact hsP)
          have hsb : s < 268435456 := by omega
          have hTb : T < 268435456 := Nat.lt_of_le_of_lt hT256 (by decide)
          have hxw := xor_walk hsb hTb
          obtain ⟨X, hX⟩ : ∃ X, X = s ^^^ T := ⟨_, rfl⟩
          rw [← hX] at hxw
          have HXW := hide hxw
          clear hxw
          have hXP : X < P := by
            rw [hX, HP.out, HT.out]
            exact Nat.xor_lt_two_pow (by rw [← HP.out]; exact hsP) (Nat.pow_lt_pow_right (by omega) hlt)
          obtain ⟨bj2, offj2, y2, hab, hcj2, hy2⟩ := hJw.one (k := X) (by rw [HJL.out]; exact hXP)
          cases hab
          have hyv : Hid (y = jnF N cs s ∧ y2 = jnF N cs (s ^^^ 2 ^ k)) := hide (by
            have h1 := hy.out
            have h2 := hy2.out
            rw [jnL_get (by rw [← HM.out, ← HP.out]; exact hsP)] at h1
            rw [jnL_get (by rw [← HM.out, ← HP.out]; exact hXP), hX, HT.out] at h2
            exact ⟨by injection h1 with h; exact h.symm, by injection h2 with h; exact h.symm⟩)
          clear hX hy hy2 hJw
          by_cases hyy : y2 = y
          · have hyd : (y2 == y) = true := by simp [hyy]
            have hD2 : Hid (deadTo N cs k (s + 1)) := hide (fun t ht => by
              by_cases e : t = s
              · subst e; rw [← hyv.out.1, ← hyv.out.2, hyy]
              · exact hD.out t (by omega))
            have HYY := hide hyy
            have hsh := HSH.out
            have hxw := HXW.out
            clear hyy
            go_wp2_with fail
            clear hsh hxw
            go_roundg g2
            case rel => exact ⟨s + 1, by omega, by go_num, hD2, rfl⟩
            case measure => omega
          · have hyd : (y2 == y) = false := by simp [hyy]
            have HN : Hid (ddL N cs (k + 1) = ddL N cs k) := hide (ddL_no (fun h => hyy (by rw [hyv.out.1, hyv.out.2]; exact hiff.out.2 h s hsP)))
            have HYY := hide hyy
            have hsh := HSH.out
            have hxw := HXW.out
            clear hyy
            go_wp2_with fail
            clear hsh hxw
            go_roundg g
            case rel => exact ⟨k + 1, _, rfl, by omega, by go_num, by rw [HN.out]; exact hO⟩
            case measure => omega

open Classical in
theorem implDead_any (n : Int) (a : Option Addr) (c : Nat) (cs : List Int) (W : World) (ha : IntsAt W a cs) (hl : cs.length ≤ 1048576) :
    Calls Try.prog 18 #[.agg #[.int .i64 n, .slice a cs.length c]] W (NewList (ddR n cs) W) := by
  by_cases h0 : limC n cs = 0
  · have hok : okH n cs = true := by
      unfold limC at h0
      by_cases h : okH n cs = true
      · exact h
      · rw [if_neg h] at h0; cases h0
    have h9 : (empC cs).length ≤ 9 := by
      unfold limC at h0
      rw [if_pos hok] at h0
      by_cases h : (empC cs).length ≤ 9
      · exact h
      · rw [if_neg h] at h0; cases h0
    obtain ⟨N, b, off, rfl, hN1, hN8, hlen, hz, rfl⟩ := okH_nat hok ha
    have hR : ddR (N : Int) cs = (ddL N cs (empC cs).length, 0) := by rw [ddR, if_pos hok, if_pos h9]
    rw [hR]
    exact implDead1_any N cs.length b off c cs rfl hok hN1 hN8 hlen h9 W ha
  · have hR : ddR n cs = ([], limC n cs) := by
      unfold ddR limC
      by_cases h : okH n cs = true
      · rw [if_pos h, if_pos h]
        by_cases h9 : (empC cs).length ≤ 9
        · exact absurd (by unfold limC; rw [if_pos h, if_pos h9]) h0
        · rw [if_neg h9, if_neg h9]
      · rw [if_neg h, if_neg h]
    rw [hR]
    exact implDead0_any n a c cs h0 W ha hl
end Go.Proofs.Ytogfoahejgmfgaa
