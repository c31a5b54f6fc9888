/-
  IsNet: the program's text, whole.
-/
import Derived.Test.YtkekanllfpdeaabIs
namespace Go.Proofs.Ytkekanllfpdeaab
open Go.RowKit
set_option linter.unusedVariables false

theorem two_cells {w : World} {a : Option Addr} {x y : Int} (h : IntsAt w a [x, y]) : ∃ b o, a = some ⟨b, o, none⟩ ∧ w.cell? ⟨b, o, none⟩ = some (.int .i64 x) ∧ w.cell? ⟨b, o + 1, none⟩ = some (.int .i64 y) := by
  obtain ⟨b, o, z, e, h0, hz⟩ := h.one (k := 0) (by simp)
  obtain ⟨b', o', z', e', h1, hz'⟩ := h.one (k := 1) (by simp)
  rw [e] at e'
  cases e'
  have ez : x = z := by have := hz.out; simpa using this
  have ez' : y = z' := by have := hz'.out; simpa using this
  subst ez ez'
  exact ⟨b, o, e, by simpa using h0, h1⟩
theorem sizN_no {n : Int} {X : List (List Int)} (h : ¬ (2 ≤ n ∧ n ≤ 8 ∧ X.length ≤ 10)) : netB n X = false := by
  rw [netB_parts]
  have : sizN n X = false := by
    rw [Bool.eq_false_iff]
    intro e
    simp [sizN] at e
    exact h ⟨e.1.1, e.1.2, e.2⟩
  rw [this]
  rfl
theorem sizN_yes {n : Int} {X : List (List Int)} (h : 2 ≤ n ∧ n ≤ 8 ∧ X.length ≤ 10) : netB n X = (edgsB n X && ordsB X) := by
  rw [netB_parts]
  have : sizN n X = true := by simp [sizN, h.1, h.2.1, h.2.2]
  rw [this, Bool.true_and]

set_option maxRecDepth 100000 in
set_option maxHeartbeats 2000000 in
theorem implIsNet_any (n : Int) (a : Option Addr) (c : Nat) (X : List (List Int)) (W : World) (ha : RowsAt W a X) (hs : Small X) :
    Calls Try.prog 27 #[.agg #[.int .i64 n, .slice a X.length c]] W (RetB (.bool (netB n X)) W) := by
  obtain ⟨W0, hW0⟩ : ∃ W0, W0 = W.alloc (.cells #[.int .i64 n, .slice a X.length c] 45) := ⟨_, rfl⟩
  have hB0 : Hid (Below W.heap.size W W0) := by rw [hW0]; exact hide (below_alloc _ _)
  have hX0 : Hid (NetIn W0 W.heap.size n a X.length c) := by rw [hW0]; exact hide (netIn_new _ _ _ _ _ _)
  have HA := hide (ha.keep hB0.out)
  have HS := hide hs
  obtain ⟨R, hR⟩ : ∃ R, R = netB n X := ⟨_, rfl⟩
  have HR := hide hR
  rw [← hR]
  have hl := hs.1
  obtain ⟨q0, q1⟩ := hX0.out
  clear hR ha hs
  by_cases hn2 : n < 2
  · have hn : Hid (R = false) := hide (by rw [HR.out]; exact sizN_no (by omega))
    have e1 : decide (n < 2) = true := decide_eq_true hn2
    go_enter Try.func27, Try.ntmps27
    go_wp2_with fail
    rw [← hW0]
    clear hW0
    (try go_wp2_with fail)
    go_ret
    exact ⟨by rw [hn.out]; first | done | rfl, hB0.out⟩
  have e1 : decide (n < 2) = false := decide_eq_false hn2
  by_cases hn8 : 8 < n
  · have hn : Hid (R = false) := hide (by rw [HR.out]; exact sizN_no (by omega))
    have e2 : decide (8 < n) = true := decide_eq_true hn8
    go_enter Try.func27, Try.ntmps27
    go_wp2_with fail
    rw [← hW0]
    clear hW0
    (try go_wp2_with fail)
    go_ret
    exact ⟨by rw [hn.out]; first | done | rfl, hB0.out⟩
  have e2 : decide (8 < n) = false := decide_eq_false hn8
  by_cases hlen : 10 < X.length
  · have hn : Hid (R = false) := hide (by rw [HR.out]; exact sizN_no (by omega))
    have e3 : decide ((10 : Int) < (X.length : Int)) = true := decide_eq_true (by omega)
    go_enter Try.func27, Try.ntmps27
    go_wp2_with fail
    rw [← hW0]
    clear hW0
    (try go_wp2_with fail)
    go_ret
    exact ⟨by rw [hn.out]; first | done | rfl, hB0.out⟩
  have e3 : decide ((10 : Int) < (X.length : Int)) = false := decide_eq_false (by omega)
  have hR2 : Hid (R = (edgsB n X && ordsB X)) := hide (by rw [HR.out, sizN_yes (by omega)])
  have h0 : Hid (edgsB n X = ((List.range X.length).drop 0).all fun i => edgB n (X.getD i [])) := hide rfl
  go_enter Try.func27, Try.ntmps27
  go_wp2_with fail
  rw [← hW0]
  clear hW0
  (try go_wp2_with fail)
  clear q0 q1
  go_loopw [22] (fun i wr => ∃ k : Nat, i = .int .i64 k ∧ k ≤ X.length ∧ Hid (edgsB n X = ((List.range X.length).drop k).all fun i => edgB n (X.getD i [])) ∧ Below W0.heap.size W0 wr) (fun i _ => X.length - (intOf i).toNat)
  case atStart => exact ⟨0, rfl, Nat.zero_le _, h0, Below.refl _ _⟩
  case round =>
    clear h0
    obtain ⟨k, rfl, hk, hE, hb⟩ := hrel
    have hB := hide hb
    obtain ⟨q0, q1⟩ := hX0.out.keep hb
    by_cases hlt : k < X.length
    · obtain ⟨b1, o1, a1, k1, zs, rfl, hc1, hz1, hg1⟩ := (HA.out.keep hb).one hlt
      have hlz := HS.out.2 zs (mem_of_get hg1.out)
      have hE2 : Hid (edgsB n X = (edgB n zs && ((List.range X.length).drop (k + 1)).all fun i => edgB n (X.getD i []))) := hide (by rw [hE.out, all_drop_step hlt, getD_of hg1.out])
      have hw1 : IntKind.i64.wrap (n - 1) = n - 1 := by rw [IntKind.wrap_i64]; omega
      clear hE hb
      by_cases h2 : zs.length = 2
      · obtain ⟨x, y, rfl⟩ := len_two h2
        have hc1' : wr.cell? ⟨b1, o1 + k, none⟩ = some (.slice a1 2 k1) := hc1
        have HC := hide (isAscendingIn_any a1 k1 [x, y] 0 (n - 1) wr hz1 (by simp) (by omega) (by omega))
        rw [ascB_two] at HC
        obtain ⟨r, hr⟩ : ∃ r, r = edgB n [x, y] := ⟨_, rfl⟩
        rw [← hr] at HC hE2
        clear hr hc1 hz1 h2 hlz hg1
        cases r
        · have hn : Hid (R = false) := hide (by rw [hR2.out, hE2.out]; rfl)
          go_wp2_with fail
          refine HC.out.mono ?_
          rintro e w1 ⟨rfl, rfl⟩
          go_wp2_with fail
          go_ret
          exact ⟨by rw [hn.out]; first | done | rfl, Below.trans' hB0.out hB.out⟩
        · go_wp2_with fail
          refine HC.out.mono ?_
          rintro e w1 ⟨rfl, rfl⟩
          go_wp2_with fail
          go_roundw
          case rel => exact ⟨k + 1, by go_num, by omega, by rw [Bool.true_and] at hE2; exact hE2, hB.out⟩
          case measure => simp [intOf]; omega
      · have hn : Hid (R = false) := hide (by rw [hR2.out, hE2.out, edgB_len h2]; rfl)
        have hne : ((zs.length : Int) != 2) = true := by simp; omega
        clear hE2 hg1 hz1
        go_wp2_with fail
        go_ret
        exact ⟨by rw [hn.out]; first | done | rfl, Below.trans' hB0.out hB.out⟩
    · obtain rfl : k = X.length := by omega
      have hn : Hid (R = ordsB X) := hide (by rw [hR2.out, hE.out, all_drop_end, Bool.true_and])
      have HC := hide (isSorted_any a c X wr (HA.out.keep hb) HS.out)
      clear hE hb
      go_wp2_with fail
      refine HC.out.mono ?_
      rintro e w1 ⟨rfl, hb1⟩
      have hB1 := hide (Below.trans' hB0.out (Below.trans' hB.out hb1))
      clear hb1
      go_wp2_with fail
      go_ret
      exact ⟨by rw [hn.out]; first | done | rfl, hB1.out⟩
end Go.Proofs.Ytkekanllfpdeaab
