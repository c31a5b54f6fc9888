/-
  FilledLine: the model's text.
-/
import Derived.Test.YtlllkmobhjlmoaaBq
namespace Go.Proofs.Ytlllkmobhjlmoaa
open Go.RowKit
set_option linter.unusedVariables false

set_option maxRecDepth 100000 in
set_option maxHeartbeats 4000000 in
theorem specFl_any (n : Int) (a : Option Addr) (c : Nat) (cs : List Int) (F S : Int) (W : World) (ha : IntsAt W a cs) (hl : cs.length ≤ 1048576) :
    Calls Try.prog 39 #[.agg #[.int .i64 n, .slice a cs.length c], .int .i64 F, .int .i64 S] W (RetB (.tuple #[.int .i64 (flR n cs F S).1, .int .i64 (flR n cs F S).2.1, .int .i64 (flR n cs F S).2.2]) W) := by
  obtain ⟨W0, hW0⟩ : ∃ W0, W0 = W.alloc (.cells #[.int .i64 n, .slice a cs.length c] 27) := ⟨_, rfl⟩
  have hB0 : Hid (Below W.heap.size W W0) := by rw [hW0]; exact hide (below_alloc _ _)
  have hX0 : Hid (HexIn W0 W.heap.size n a cs.length c) := by rw [hW0]; exact hide (hexIn_new _ _ _ _ _ _)
  have hA0 := hide (ha.keep hB0.out)
  obtain ⟨c0, c1⟩ := hX0.out
  obtain ⟨r, hr⟩ : ∃ r, r = codeS n cs F S := ⟨_, rfl⟩
  have HC : Hid (∀ V : World, Below W0.heap.size W0 V → Calls Try.prog 70 #[.agg #[.int .i64 n, .slice a cs.length c], .int .i64 F, .int .i64 S] V (RetB (.int .i64 r) V)) := hide (fun V hv => by rw [hr]; exact l07Sets_any n a c cs F S V (hA0.out.keep hv) hl)
  by_cases h0 : r = 0
  · obtain ⟨hok, hF, hS, _⟩ := codeS_zero (by rw [← hr]; exact h0)
    have hp16 := nn16 (okB_parts hok).1
    have hSets := hide (sets_of hok)
    obtain ⟨x0, x1, x2, hx⟩ : ∃ x0 x1 x2 : Int, flL cs 0 [F, S] = (x0, x1, x2) := ⟨_, _, _, rfl⟩
    have HR : Hid (flR n cs F S = (x0, x1, x2)) := hide (by unfold flR; rw [← hr, if_pos h0, hx])
    have HX := hide hx
    have HFS : Hid (∀ x ∈ [F, S], 0 ≤ x ∧ x < 65536) := hide (fun x hx => by
      rcases List.mem_cons.1 hx with rfl | hx
      · omega
      · rcases List.mem_cons.1 hx with rfl | hx
        · omega
        · cases hx)
    rw [HR.out]
    subst h0
    clear hr hx hok hF hS hp16 ha
    go_enter Try.func39, Try.ntmps39
    go_wp2_with fail
    rw [← hW0]
    clear hW0
    (try go_wp2_with fail)
    refine (HC.out _ (Below.refl _ _)).mono ?_
    rintro e w1 ⟨rfl, hb1⟩
    have hB1 := hide (Below.trans' hB0.out hb1)
    have hX1 := hide (hX0.out.keep hb1)
    have hA1 := hide (hA0.out.keep hb1)
    clear hb1 c0 c1
    obtain ⟨w2, hw2⟩ : ∃ w2, w2 = w1.alloc (.cells #[.int .i64 F, .int .i64 S] 2) := ⟨_, rfl⟩
    have hL2 : Hid (IntsAt w2 (some ⟨w1.heap.size, 0, none⟩) [F, S]) := by rw [hw2]; exact hide (ints_two _ _ _)
    have hb2 : Below w1.heap.size w1 w2 := by rw [hw2]; exact below_alloc _ _
    have hB2 := hide (Below.trans' hB1.out hb2)
    have hX2 := hide (hX1.out.keep hb2)
    have hA2 := hide (hA1.out.keep hb2)
    clear hb2
    go_wp2_with fail
    rw [← hw2]
    clear hw2
    (try go_wp2_with fail)
    go_loopg [24] 2 (fun g i wr => ∃ k : Nat, k + g = 2 ∧ i = .int .i64 k ∧ Hid (flL cs k ([F, S].drop k) = (x0, x1, x2)) ∧ Below w2.heap.size w2 wr)
    case atStart => exact ⟨0, by omega, rfl, hide (by rw [List.drop_zero]; exact HX.out), Below.refl _ _⟩
    case round =>
      obtain ⟨k, hk, rfl, hD, hB⟩ := hrel
      have HB := hide hB
      cases gk with
      | succ g =>
        have hlt : k < 2 := by omega
        obtain ⟨b, off, x, hadr, hcell, hz⟩ := (hL2.out.keep hB).one (k := k) hlt
        simp only [Option.some.injEq, Addr.mk.injEq] at hadr
        obtain ⟨rfl, rfl, _⟩ := hadr
        rw [Nat.zero_add] at hcell
        obtain ⟨s0, s1⟩ := HFS.out x (mem_of_get hz.out)
        have hD2 : Hid (flL cs k (x :: [F, S].drop (k + 1)) = (x0, x1, x2)) := by rw [← drop_of_get hz.out]; exact hD
        have hg2 : g + 1 + k = 2 := by omega
        have hki : (k : Int) < 2 := by omega
        obtain ⟨wo, hwo⟩ : ∃ wo : World, wo = wr := ⟨_, rfl⟩
        rw [← hwo] at HB hcell ⊢
        clear hD hB hz hk hwo
        go_wp2_with fail
        go_loopg [12] cs.length (fun g i wr => ∃ j : Nat, j + g = cs.length ∧ i = .int .i64 j ∧ Hid (lin (cs.drop j) x = lin cs x) ∧ Below wo.heap.size wo wr)
        case atStart => exact ⟨0, by omega, rfl, hide (by rw [List.drop_zero]), Below.refl _ _⟩
        case round =>
          clear hcell
          obtain ⟨j, hj, rfl, hE, hB⟩ := hrel
          have HBj := hide (Below.trans' HB.out hB)
          have HBo := hide hB
          obtain ⟨c0, c1⟩ := hX2.out.keep HBj.out
          cases gk with
          | zero =>
            obtain rfl : j = cs.length := by omega
            have hn : lin cs x = none := by have := hE.out; rw [List.drop_length] at this; exact this.symm
            have hEE : Hid (flL cs ((k + 1 : Nat) : Int) ([F, S].drop (k + 1)) = (x0, x1, x2)) := hide (by rw [← hD2.out, flL_no hn]; simp)
            clear hE hn hB hj
            go_wp2_with fail
            go_roundg g
            case rel => exact ⟨k + 1, by omega, by go_num, hEE, HBj.out⟩
            case measure => omega
          | succ g2 =>
            have hjl : j < cs.length := by omega
            obtain ⟨b, off, z, rfl, hcz, hz⟩ := (hA2.out.keep HBj.out).one hjl
            obtain ⟨z0, z1⟩ := hSets.out z (mem_of_get hz.out)
            have hbw := and_walkI (x := z) (y := x) z0 (by omega) s0 (by omega)
            have hsa := subB_and (l := z) (s := x) z0 s0
            have hE2 : Hid (lin (z :: cs.drop (j + 1)) x = lin cs x) := by rw [← drop_of_get hz.out]; exact hE
            obtain ⟨d, hd⟩ : ∃ d, d = andI z x := ⟨_, rfl⟩
            rw [← hd] at hbw hsa
            have q1 : ∀ p : Past wr, p.to.cell? ⟨W.heap.size, 1, none⟩ = some (.slice (some ⟨b, off, none⟩) cs.length c) := fun p => p.cell c1
            have qz : ∀ p : Past wr, p.to.cell? ⟨b, off + j, none⟩ = some (.int .i64 z) := fun p => p.cell hcz
            have hjn : (j : Int) < (cs.length : Int) := by omega
            by_cases h0 : d = z
            · have hs : subB z x = true := by rw [← hsa]; simp [h0]
              have hn : lin cs x = some z := by rw [← hE2.out]; exact (lin_yes hs).1
              have hEE : Hid ((k : Int) = x0 ∧ z = x1 ∧ (0 : Int) = x2) := hide (by have := hD2.out; rw [flL_yes hn] at this; simpa using this)
              have e0 : (d == z) = true := by simp [h0]
              clear hd hs h0 hsa hE hE2 hn hz hB hcz
              go_wp2_with fail
              refine wp_region_past (by kernel_rfl) (by kernel_rfl) ?_
              repeat (first | go_big_quiet_step (fail) | quiet_step (fail))
              refine wpQuiet_nil ?_
              rintro _ ⟨pq, rfl⟩
              have q1' : ∀ p : Past pq.to, p.to.cell? ⟨W.heap.size, 1, none⟩ = some (.slice (some ⟨b, off, none⟩) cs.length c) := fun p => p.cell (q1 pq)
              have qz' : ∀ p : Past pq.to, p.to.cell? ⟨b, off + j, none⟩ = some (.int .i64 z) := fun p => p.cell (qz pq)
              have hB4 := hide (Below.trans' HBj.out pq.old)
              obtain ⟨w4, hw4⟩ : ∃ w4, w4 = pq.to := ⟨_, rfl⟩
              rw [← hw4] at q1' qz' hB4 ⊢
              clear hw4 q1 qz c0 c1
              go_wp2_with fail
              refine wp_region_past (by kernel_rfl) (by kernel_rfl) ?_
              repeat (first | go_big_quiet_step (fail) | quiet_step (fail))
              refine wpQuiet_nil ?_
              rintro _ ⟨pq, rfl⟩
              have hB5 := hide (Below.trans' hB2.out (Below.trans' hB4.out pq.old))
              go_wp2_with fail
              go_ret3
              exact ⟨by simp [go_sem, ← hEE.out.1, ← hEE.out.2.1, ← hEE.out.2.2], hB5.out⟩
            · have hs : subB z x = false := by rw [← hsa]; simp [h0]
              have hEE : Hid (lin (cs.drop (j + 1)) x = lin cs x) := hide (by rw [← hE2.out]; exact (lin_no hs).1.symm)
              have e0 : (d == z) = false := by simp [h0]
              clear hd hs h0 hsa hE hE2 hz hB hcz
              go_wp2_with fail
              refine wp_region_past (by kernel_rfl) (by kernel_rfl) ?_
              repeat (first | go_big_quiet_step (fail) | quiet_step (fail))
              refine wpQuiet_nil ?_
              rintro _ ⟨pq, rfl⟩
              have hB4 := hide (Below.trans' HBo.out pq.old)
              clear q1 qz c0 c1
              go_wp2_with fail
              go_roundg g2
              case rel => exact ⟨j + 1, by omega, by go_num, hEE, hB4.out⟩
              case measure => omega
      | zero =>
        obtain rfl : k = 2 := by omega
        have hE : Hid ((0 : Int) = x0 ∧ (0 : Int) = x1 ∧ (4 : Int) = x2) := hide (by have := hD.out; simpa [flL] using this)
        have hB3 := hide (Below.trans' hB2.out hB)
        clear hD hB hk
        go_wp2_with fail
        go_ret3
        exact ⟨by simp [go_sem, ← hE.out.1, ← hE.out.2.1, ← hE.out.2.2], hB3.out⟩
  · have HR : Hid (flR n cs F S = (0, 0, r)) := hide (by unfold flR; rw [← hr, if_neg h0])
    rw [HR.out]
    have e0 : (r != 0) = true := by simp [h0]
    clear hr ha h0
    go_enter Try.func39, Try.ntmps39
    go_wp2_with fail
    rw [← hW0]
    clear hW0
    (try go_wp2_with fail)
    refine (HC.out _ (Below.refl _ _)).mono ?_
    rintro e w1 ⟨rfl, hb1⟩
    have hB1 := hide (Below.trans' hB0.out hb1)
    clear hb1
    go_wp2_with fail
    go_ret3
    exact ⟨rfl, hB1.out⟩
end Go.Proofs.Ytlllkmobhjlmoaa
