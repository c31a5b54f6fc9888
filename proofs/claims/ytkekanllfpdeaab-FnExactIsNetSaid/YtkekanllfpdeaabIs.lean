/-
  IsNet, the program's text.
-/
import Derived.Test.YtkekanllfpdeaabIp
import Derived.Test.YtkekanllfpdeaabNet
import Derived.Deep.LoopGhost
namespace Go.Proofs.Ytkekanllfpdeaab
open Go.RowKit
set_option linter.unusedVariables false

/-- The box of a net, in whatever has come of its world. -/
def NetIn (W : World) (b : Nat) (n : Int) (a : Option Addr) (k c : Nat) : Prop := W.cell? ⟨b, 0, none⟩ = some (.int .i64 n) ∧ W.cell? ⟨b, 1, none⟩ = some (.slice a k c)
theorem netIn_new (W : World) (n : Int) (a : Option Addr) (k c : Nat) (t : TypeId) : NetIn (W.alloc (.cells #[.int .i64 n, .slice a k c] t)) W.heap.size n a k c := by
  refine ⟨?_, ?_⟩ <;> simp [go_sem]
theorem NetIn.keep {W W' : World} {b : Nat} {n : Int} {a : Option Addr} {k c : Nat} (hx : NetIn W b n a k c) (hb : Below W.heap.size W W') : NetIn W' b n a k c := ⟨cell_keep hb hx.1, cell_keep hb hx.2⟩

def ascB (low high : Int) : List Int → Bool
  | [] => true
  | z :: r => decide (low ≤ z) && decide (z ≤ high) && ascB (z + 1) high r
theorem ascB_no {m high z : Int} {r : List Int} (h : z < m ∨ high < z) : ascB m high (z :: r) = false := by
  unfold ascB
  rcases h with h | h
  · rw [decide_eq_false (by omega)]; rfl
  · rw [decide_eq_false (show ¬ z ≤ high by omega)]; simp
theorem ascB_go {m high z : Int} {r : List Int} (h1 : m ≤ z) (h2 : z ≤ high) : ascB m high (z :: r) = ascB (z + 1) high r := by
  rw [ascB, decide_eq_true h1, decide_eq_true h2]
  rfl
theorem ascB_two {n a b : Int} : ascB 0 (n - 1) [a, b] = edgB n [a, b] := by
  rw [edgB_two, Bool.eq_iff_iff]
  simp [ascB]
  omega
set_option maxHeartbeats 400000 in
theorem isAscendingIn_any (a : Option Addr) (c : Nat) (zs : List Int) (low high : Int) (w : World) (ha : IntsAt w a zs) (hl : zs.length ≤ 1048576) (h0 : 0 ≤ low) (hh : high ≤ 1048576) :
    Calls Try.prog 49 #[.slice a zs.length c, .int .i64 low, .int .i64 high] w fun e w' => e = .returned (.bool (ascB low high zs)) ∧ w = w' := by
  go_enter Try.func49, Try.ntmps49
  go_wp2
  go_loop [1, 11] (fun l i => ∃ (k : Nat) (m : Int), l = .int .i64 m ∧ k ≤ zs.length ∧ i = .int .i64 k ∧ 0 ≤ m ∧ Hid (ascB m high (zs.drop k) = ascB low high zs)) (fun _ i => zs.length - (intOf i).toNat)
  case atStart => exact ⟨0, low, rfl, Nat.zero_le _, rfl, h0, rfl⟩
  case round =>
    obtain ⟨k, m, rfl, hk, rfl, hm, hA⟩ := hrel
    by_cases hlt : k < zs.length
    · obtain ⟨b1, o1, z, rfl, h1, hz⟩ := ha.one hlt
      clear ha
      have hA' : Hid (ascB m high (z :: zs.drop (k + 1)) = ascB low high zs) := by have := hA.out; rw [drop_of_get hz.out] at this; exact this
      clear hA
      by_cases hlow : z < m
      · go_wp2
        go_ret
        exact ⟨ret_bool (by rw [← hA'.out, ascB_no (.inl (by omega))]), rfl⟩
      · by_cases hhi : high < z
        · go_wp2
          go_ret
          exact ⟨ret_bool (by rw [← hA'.out, ascB_no (.inr (by omega))]), rfl⟩
        · have hb1 : 0 ≤ z := by omega
          have hb2 : z ≤ 1048576 := by omega
          go_wp2
          go_round
          case rel => exact ⟨k + 1, _, rfl, by omega, by go_num, by omega, by rw [← hA'.out, ascB_go (by omega) (by omega)]; rfl⟩
          case measure => simp [intOf]; omega
    · obtain rfl : k = zs.length := by omega
      go_wp2
      go_ret
      refine ⟨ret_bool ?_, rfl⟩
      have := hA.out
      rw [List.drop_length] at this
      exact this

set_option maxRecDepth 100000 in
theorem isNaN_any (x : Int) (W : World) : Calls Try.prog 78 #[.int .i64 x] W (RetB (.bool false) W) := by
  go_enter Try.func78, Try.ntmps78
  go_wp2_with fail
  go_ret
  exact ⟨by simp, Below.refl _ _⟩
set_option maxRecDepth 100000 in
set_option maxHeartbeats 1000000 in
theorem compare_any (x y : Int) (W : World) : Calls Try.prog 65 #[.int .i64 x, .int .i64 y] W (RetB (.int .i64 (cmpI x y)) W) := by
  obtain ⟨r, hr⟩ : ∃ r, r = cmpI x y := ⟨_, rfl⟩
  rw [← hr]
  unfold cmpI at hr
  by_cases h1 : x < y
  · rw [if_pos h1] at hr
    have HR := hide hr
    clear hr
    go_enter Try.func65, Try.ntmps65
    go_wp2_with fail
    refine (isNaN_any _ _).mono ?_
    rintro e w1 ⟨rfl, hb1⟩
    have hB1 := hide hb1
    clear hb1
    go_wp2_with fail
    refine (isNaN_any _ _).mono ?_
    rintro e w2 ⟨rfl, hb2⟩
    have hB2 := hide (Below.trans' hB1.out hb2)
    clear hb2
    go_wp2_with fail
    go_ret
    exact ⟨by rw [HR.out]; rfl, hB2.out⟩
  · rw [if_neg h1] at hr
    by_cases h2 : y < x
    · rw [if_pos h2] at hr
      have HR := hide hr
      clear hr
      go_enter Try.func65, Try.ntmps65
      go_wp2_with fail
      refine (isNaN_any _ _).mono ?_
      rintro e w1 ⟨rfl, hb1⟩
      have hB1 := hide hb1
      clear hb1
      go_wp2_with fail
      refine (isNaN_any _ _).mono ?_
      rintro e w2 ⟨rfl, hb2⟩
      have hB2 := hide (Below.trans' hB1.out hb2)
      clear hb2
      go_wp2_with fail
      go_ret
      exact ⟨by rw [HR.out]; rfl, hB2.out⟩
    · rw [if_neg h2] at hr
      have HR := hide hr
      clear hr
      go_enter Try.func65, Try.ntmps65
      go_wp2_with fail
      refine (isNaN_any _ _).mono ?_
      rintro e w1 ⟨rfl, hb1⟩
      have hB1 := hide hb1
      clear hb1
      go_wp2_with fail
      refine (isNaN_any _ _).mono ?_
      rintro e w2 ⟨rfl, hb2⟩
      have hB2 := hide (Below.trans' hB1.out hb2)
      clear hb2
      go_wp2_with fail
      go_ret
      exact ⟨by rw [HR.out]; rfl, hB2.out⟩

set_option maxRecDepth 100000 in
set_option maxHeartbeats 1000000 in
theorem compareR_any (a b : Option Addr) (c d : Nat) (xs ys : List Int) (W : World) (ha : IntsAt W a xs) (hb : IntsAt W b ys) (hl : xs.length ≤ 1048576) (hm : ys.length ≤ 1048576) :
    Calls Try.prog 51 #[.slice a xs.length c, .slice b ys.length d] W (RetB (.int .i64 (cmpR xs ys)) W) := by
  obtain ⟨R, hR⟩ : ∃ R, R = cmpR xs ys := ⟨_, rfl⟩
  have h0 : Hid (R = cmpR (xs.drop 0) (ys.drop 0)) := hide hR
  have HA := hide ha
  have HB := hide hb
  rw [← hR]
  clear hR ha hb
  go_enter Try.func51, Try.ntmps51
  go_wp2_with fail
  go_loopw [11] (fun i wr => ∃ k : Nat, i = .int .i64 k ∧ k ≤ xs.length ∧ k ≤ ys.length ∧ Hid (R = cmpR (xs.drop k) (ys.drop k)) ∧ Below W.heap.size W wr) (fun i _ => xs.length - (intOf i).toNat)
  case atStart => exact ⟨0, rfl, Nat.zero_le _, Nat.zero_le _, h0, Below.refl _ _⟩
  case round =>
    clear h0
    obtain ⟨k, rfl, hk, hk2, hRk, hbel⟩ := hrel
    have hBel := hide hbel
    by_cases hlt : k < xs.length
    · obtain ⟨b1, o1, x, rfl, h1, hx⟩ := (HA.out.keep hbel).one hlt
      by_cases hlt2 : k < ys.length
      · obtain ⟨b2, o2, y, rfl, h2, hy⟩ := (HB.out.keep hbel).one hlt2
        have hst : Hid (R = if cmpI x y ≠ 0 then cmpI x y else cmpR (xs.drop (k + 1)) (ys.drop (k + 1))) := hide (by rw [hRk.out, drop_of_get hx.out, drop_of_get hy.out, cmpR])
        obtain ⟨q, hq⟩ : ∃ q, q = cmpI x y := ⟨_, rfl⟩
        have HC := hide (fun V => compare_any x y V)
        rw [← hq] at hst HC
        have hge : ¬ (ys.length ≤ k) := by omega
        by_cases hq0 : q = 0
        · have hn : Hid (R = cmpR (xs.drop (k + 1)) (ys.drop (k + 1))) := hide (by rw [hst.out, if_neg (by simp [hq0])])
          have hne : (q != 0) = false := by simp [hq0]
          clear hq hq0 hst hRk hbel
          go_wp2_with fail
          refine (HC.out _).mono ?_
          rintro e w1 ⟨rfl, hb1⟩
          have hB1 := hide (Below.trans' hBel.out hb1)
          clear hb1 h1 h2
          go_wp2_with fail
          go_roundw
          case rel => exact ⟨k + 1, by go_num, by omega, by omega, hn, hB1.out⟩
          case measure => simp [intOf]; omega
        · have hn : Hid (R = q) := hide (by rw [hst.out, if_pos hq0])
          have hne : (q != 0) = true := by simp [hq0]
          clear hq hq0 hst hRk hbel
          go_wp2_with fail
          refine (HC.out _).mono ?_
          rintro e w1 ⟨rfl, hb1⟩
          have hB1 := hide (Below.trans' hBel.out hb1)
          clear hb1 h1 h2
          go_wp2_with fail
          go_ret
          exact ⟨by rw [hn.out]; first | done | rfl, hB1.out⟩
      · have hye : ys.drop k = [] := List.drop_of_length_le (by omega)
        have hn : Hid (R = 1) := hide (by rw [hRk.out, drop_of_get hx.out, hye, cmpR])
        have hge : ys.length ≤ k := by omega
        have hkl : k = ys.length := by omega
        clear hye hRk hbel hkl
        go_wp2_with fail
        go_ret
        exact ⟨by rw [hn.out]; first | done | rfl, hBel.out⟩
    · obtain rfl : k = xs.length := by omega
      have hxe : xs.drop xs.length = [] := List.drop_length
      by_cases hyl : xs.length < ys.length
      · have hn : Hid (R = -1) := hide (by rw [hRk.out, cmpR_end hxe, if_neg (by simp; omega)])
        clear hxe hRk hbel
        go_wp2_with fail
        go_ret
        exact ⟨by rw [hn.out]; first | done | rfl, hBel.out⟩
      · have hn : Hid (R = 0) := hide (by rw [hRk.out, cmpR_end hxe, if_pos (by simp; omega)])
        clear hxe hRk hbel
        go_wp2_with fail
        go_ret
        exact ⟨by rw [hn.out]; first | done | rfl, hBel.out⟩

set_option maxRecDepth 100000 in
set_option maxHeartbeats 1000000 in
theorem isSorted_any (a : Option Addr) (c : Nat) (X : List (List Int)) (W : World) (ha : RowsAt W a X) (hs : Small X) :
    Calls Try.prog 50 #[.slice a X.length c, .func (.func 51) #[] #[]] W (RetB (.bool (ordsB X)) W) := by
  obtain ⟨R, hR⟩ : ∃ R, R = ordsB X := ⟨_, rfl⟩
  have HR := hide hR
  have HA := hide ha
  have HS := hide hs
  have hl := hs.1
  rw [← hR]
  clear hR ha hs
  by_cases hne0 : X.length = 0
  · have hn : Hid (R = true) := hide (by rw [HR.out]; exact ordsB_yes (fun i hi => by omega))
    have hz : ((X.length : Int) - 1) = -1 := by omega
    have hg : ¬ ((0 : Int) < (X.length : Int) - 1) := by omega
    clear hne0
    go_enter Try.func50, Try.ntmps50
    go_wp2_with fail
    go_loopw [5] (fun i wr => i = .int .i64 ((X.length : Int) - 1) ∧ Below W.heap.size W wr) (fun _ _ => 0)
    case atStart => exact ⟨by rw [hz], Below.refl _ _⟩
    case round =>
      obtain ⟨rfl, hb⟩ := hrel
      go_wp2_with fail
      go_ret
      exact ⟨by rw [hn.out]; first | done | rfl, hb⟩
  · go_enter Try.func50, Try.ntmps50
    go_wp2_with fail
    go_loopw [5] (fun i wr => ∃ k : Nat, i = .int .i64 k ∧ k < X.length ∧ Hid (∀ j, k < j → j < X.length → ordB X j = true) ∧ Below W.heap.size W wr) (fun i _ => (intOf i).toNat)
    case atStart => exact ⟨X.length - 1, by congr 1; omega, by omega, hide (fun j h1 h2 => by omega), Below.refl _ _⟩
    case round =>
      obtain ⟨k, rfl, hk, hO, hb⟩ := hrel
      have hBel := hide hb
      by_cases h0 : 0 < k
      · obtain ⟨j, rfl⟩ : ∃ j, k = j + 1 := ⟨k - 1, by omega⟩
        obtain ⟨b1, o1, a1, c1, zs, rfl, hc1, hz1, hg1⟩ := (HA.out.keep hb).one hk
        obtain ⟨b2, o2, a2, c2, ys, e2, hc2, hz2, hg2⟩ := (HA.out.keep hb).one (show j < X.length by omega)
        cases e2
        have hlz := HS.out.2 zs (mem_of_get hg1.out)
        have hly := HS.out.2 ys (mem_of_get hg2.out)
        obtain ⟨q, hq⟩ : ∃ q, q = cmpR zs ys := ⟨_, rfl⟩
        have HC : Hid (∀ V : World, Below wr.heap.size wr V → Calls Try.prog 51 #[.slice a1 zs.length c1, .slice a2 ys.length c2] V (RetB (.int .i64 q) V)) := hide (fun V hV => by rw [hq]; exact compareR_any a1 a2 c1 c2 zs ys V (hz1.keep hV) (hz2.keep hV) hlz hly)
        have hob : Hid (ordB X (j + 1) = !decide (q < 0)) := hide (by unfold ordB; rw [Nat.add_sub_cancel, getD_of hg1.out, getD_of hg2.out, ← hq]; simp)
        have hw1 : IntKind.i64.wrap (((j + 1 : Nat) : Int) - 1) = (j : Int) := by rw [IntKind.wrap_i64]; omega
        have p1 : ∀ p : Past wr, p.to.cell? ⟨b1, o1 + (j + 1), none⟩ = some (.slice a1 zs.length c1) := fun p => p.cell hc1
        have p2 : ∀ p : Past wr, p.to.cell? ⟨b1, o1 + j, none⟩ = some (.slice a2 ys.length c2) := fun p => p.cell hc2
        clear hz1 hz2 hlz hly hq hc1 hc2 hb
        by_cases hlt : q < 0
        · have hn : Hid (R = false) := hide (by rw [HR.out]; exact ordsB_no hk (by rw [hob.out]; simp [hlt]))
          go_wp2_with fail
          refine wp_region_past (by kernel_rfl) (by kernel_rfl) ?_
          repeat (first | go_big_quiet_step ((go_at_call 51; (with_reducible exact ret_past (HC.out _ (Past.old _))))) | quiet_step ((go_at_call 51; (with_reducible exact ret_past (HC.out _ (Past.old _))))))
          refine wpQuiet_nil ?_
          rintro _ ⟨pq, rfl⟩
          have hB2 := hide (Below.trans' hBel.out pq.old)
          clear p1 p2 hw1
          go_wp2_with fail
          go_ret
          exact ⟨by rw [hn.out]; first | done | rfl, hB2.out⟩
        · have hO2 : Hid (∀ i, j < i → i < X.length → ordB X i = true) := hide (fun i h1 h2 => by
            by_cases e : i = j + 1
            · rw [e, hob.out]; simp [hlt]
            · exact hO.out i (by omega) h2)
          go_wp2_with fail
          refine wp_region_past (by kernel_rfl) (by kernel_rfl) ?_
          repeat (first | go_big_quiet_step ((go_at_call 51; (with_reducible exact ret_past (HC.out _ (Past.old _))))) | quiet_step ((go_at_call 51; (with_reducible exact ret_past (HC.out _ (Past.old _))))))
          refine wpQuiet_nil ?_
          rintro _ ⟨pq, rfl⟩
          have hB2 := hide (Below.trans' hBel.out pq.old)
          clear p1 p2 hw1 hob hO
          go_wp2_with fail
          go_roundw
          case rel => exact ⟨j, by go_num, by omega, hO2, hB2.out⟩
          case measure => simp [intOf]
      · obtain rfl : k = 0 := by omega
        have hn : Hid (R = true) := hide (by
          rw [HR.out]
          refine ordsB_yes (fun i hi => ?_)
          by_cases e : i = 0
          · rw [e]; rfl
          · exact hO.out i (by omega) hi)
        clear hO hb
        go_wp2_with fail
        go_ret
        exact ⟨by rw [hn.out]; first | done | rfl, hBel.out⟩
end Go.Proofs.Ytkekanllfpdeaab
