/-
  Boards of hexagons: the reduced triangle, the program's text.
-/
import Derived.Test.YtidcpocfdppobaaHu
namespace Go.Proofs.Ytidcpocfdppobaa
open Go.RowKit
set_option linter.unusedVariables false

set_option maxRecDepth 100000 in
set_option maxHeartbeats 2000000 in
theorem implRed_any (N : Nat) (a : Option Addr) (c : Nat) (cs : List Int) (hN1 : 1 ≤ N) (hN8 : N ≤ 8) (hlen : cs.length = tS N) (hc : cs.length ≤ c) (W : World) (ha : IntsAt W a cs) :
    Calls Try.prog 82 #[.int .i64 N, .slice a cs.length c] W (NewL (redTo cs (N - 1)) W) := by
  obtain ⟨i0, hi0, hz0, hz1, hz2⟩ := info_parts Try.info2
  obtain ⟨M, hM⟩ : ∃ M, M = N - 1 := ⟨_, rfl⟩
  rw [← hM]
  have hM8 : M ≤ 7 := by omega
  have hM1 : M + 1 ≤ N := by omega
  have hM2 : N ≤ M + 1 := by omega
  have hlen36 := tS_nums hN8
  have HLN := hide hlen
  have hl : cs.length ≤ 36 := by omega
  have hl1 : 1 ≤ cs.length := by have h0 := tS_mono hN1; have h1 : tS 1 = 1 := rfl; omega
  obtain ⟨b, off, rfl, hcell⟩ := ha.at hl1
  have HC : Hid (∀ i, i < cs.length → W.cell? ⟨b, off + i, none⟩ = some (.int .i64 (hexAt cs (i : Int)))) := hide hcell
  clear ha hlen hcell hlen36 hM
  obtain ⟨L, hL⟩ : ∃ L, L = cs.length := ⟨_, rfl⟩
  rw [← hL] at hl hl1 HLN hc ⊢
  have HL := hide hL
  clear hL
  have hO : Hid (Owns W.heap.size W W (.slice none 0 0) (redTo cs 0)) := hide (Owns.nil (Below.refl _ _) (Nat.le_refl _))
  go_enter Try.func82, Try.ntmps82
  go_wp2_with fail
  go_loopw [5, 6, 7] (fun v row i wr => ∃ (r : Nat) (v0 : Value), v0 = v ∧ r ≤ M ∧ row = .slice (some ⟨b, off + tS r, none⟩) (r + 1) (r + 1) ∧ i = .int .i64 ((r : Int) + 1) ∧ Owns W.heap.size W wr v (redTo cs r)) (fun _ _ i _ => M + 1 - (intOf i).toNat)
  case atStart => exact ⟨0, _, rfl, Nat.zero_le _, rfl, rfl, hO.out⟩
  case round =>
    clear hO
    obtain ⟨r, v, rfl, hr, rfl, rfl, hO⟩ := hrel
    by_cases hlt : r < M
    · have hrd : decide ((r : Int) + 1 < (N : Int)) = true := by simp; omega
      have t1 := tS_succ r
      have t2 : tS (r + 1 + 1) = tS (r + 1) + (r + 1 + 1) := tS_succ (r + 1)
      have t3 : tS (r + 1 + 1) ≤ L := by rw [HLN.out]; exact tS_mono (by omega)
      obtain ⟨u0, hu0⟩ : ∃ u, u = tS r := ⟨_, rfl⟩
      obtain ⟨u1, hu1⟩ : ∃ u, u = tS (r + 1) := ⟨_, rfl⟩
      obtain ⟨u2, hu2⟩ : ∃ u, u = tS (r + 1 + 1) := ⟨_, rfl⟩
      have HU0 := hide hu0
      have HU1 := hide hu1
      have HU2 := hide hu2
      rw [← hu0]
      rw [← hu0, ← hu1] at t1
      rw [← hu1, ← hu2] at t2
      rw [← hu2] at t3
      have HT1 := hide t1
      have HT2 := hide t2
      have b1 : u1 + (r + 2) ≤ u2 := by omega
      have b1' : u2 ≤ u1 + (r + 2) := by omega
      have b0 : u0 + (r + 1) ≤ u1 := by omega
      have HO := hide hO
      clear t1 t2 hO hu0 hu1 hu2
      go_wp2_with fail
      refine (tstart_is (k := r + 1) (by omega) (by omega) _).mono ?_
      rw [← HU1.out]
      rintro e w1 ⟨rfl, hb1⟩
      have HO1 := hide (HO.out.keep hb1)
      clear hb1
      go_wp2_with fail
      refine (tstart_is (k := r + 1 + 1) (by omega) (by omega) _).mono ?_
      rw [← HU2.out]
      rintro e w2 ⟨rfl, hb2⟩
      have HO2 := hide (HO1.out.keep hb2)
      clear hb2
      go_wp2_with fail
      refine (tstart_is (k := r + 1 + 1) (by omega) (by omega) _).mono ?_
      rw [← HU2.out]
      rintro e w3 ⟨rfl, hb3⟩
      have HO3 := hide (HO2.out.keep hb3)
      clear hb3
      go_wp2_with fail
      go_loopw [5, 30] (fun v i wr => ∃ (q : Nat) (v0 : Value), v0 = v ∧ q ≤ r + 1 ∧ i = .int .i64 q ∧ Owns W.heap.size W wr v (redTo cs r ++ redRow cs r q)) (fun _ i _ => r + 1 - (intOf i).toNat)
      case atStart => exact ⟨0, _, rfl, Nat.zero_le _, rfl, by rw [redRow, List.append_nil]; exact HO3.out⟩
      case round =>
        clear HO HO1 HO2 HO3
        obtain ⟨q, v, rfl, hq, rfl, hO⟩ := hrel
        by_cases hql : q < r + 1
        · have hqd : decide ((q : Int) < (r : Int) + 1) = true := by simp; omega
          have hcw : ∀ i, i < L → wr.cell? ⟨b, off + i, none⟩ = some (.int .i64 (hexAt cs (i : Int))) := fun i hi => by
            have h1 := HC.out i (by rw [← HL.out]; exact hi)
            have hlt := World.block_lt_of_cell? W _ h1
            exact (hO.old.cell (p := ⟨b, off + i, none⟩) hlt).trans h1
          obtain ⟨x, hx⟩ : ∃ x, x = hexAt cs ((u0 + q : Nat) : Int) := ⟨_, rfl⟩
          obtain ⟨y, hy⟩ : ∃ y, y = hexAt cs ((u1 + q : Nat) : Int) := ⟨_, rfl⟩
          obtain ⟨z, hzz⟩ : ∃ z, z = hexAt cs ((u1 + q + 1 : Nat) : Int) := ⟨_, rfl⟩
          have cx : wr.cell? ⟨b, off + u0 + q, none⟩ = some (.int .i64 x) := by rw [hx, Nat.add_assoc]; exact hcw _ (by omega)
          have cy : ∀ p : Past wr, p.to.cell? ⟨b, off + u1 + q, none⟩ = some (.int .i64 y) := fun p => p.cell (by rw [hy, Nat.add_assoc]; exact hcw _ (by omega))
          have cz : ∀ p : Past wr, p.to.cell? ⟨b, off + u1 + (q + 1), none⟩ = some (.int .i64 z) := fun p => p.cell (by rw [hzz, Nat.add_assoc]; exact hcw _ (by omega))
          have hr1 : Hid (redRow cs r (q + 1) = redRow cs r q ++ [most x y z]) := hide (by
            rw [redRow, red1, ← HU0.out, ← HU1.out, ← hx, ← hy, ← hzz])
          have hlr : (redTo cs r ++ redRow cs r q).length ≤ 64 := by rw [List.length_append, redTo_len, redRow_len, ← HU0.out]; omega
          have HO := hide hO
          clear hx hy hzz hO hcw
          go_wp2_with fail
          refine wp_region_past_float 12 (.tmp 5) rfl rfl (by kernel_rfl) (by kernel_rfl) (fun _ _ _ _ h => h) ?_
          simp only [Nat.reduceSub, List.take_succ_cons, List.take_zero, List.drop_succ_cons, List.drop_zero]
          repeat (first | fail | go_big_quiet_step ((go_at_call 92; (with_reducible exact ret_past (mostOf_any _ _ _ _)))) | quiet_step ((go_at_call 92; (with_reducible exact ret_past (mostOf_any _ _ _ _)))))
          refine wpQuiet_nil ?_
          rintro _ ⟨pq, rfl⟩
          have hO2 := HO.out.keep pq.old
          have hown := hO2.own
          have hsz := hO2.size
          have HO2 := hide hO2
          clear hO2
          go_wp2_with (at_builtin; refine wpList_append_own _ rfl _ _ 22 rfl (W.heap.size) 2 i0 (.int .i64 0) 1 8 Try.underlying22 hi0 hz0 hz1 hz2 rfl (by decide) _ _ _ rfl (hown.alloc _) ⟨pq.to.heap.size, 0, none⟩ 1 1 [.int .i64 (most x y z)] rfl rfl (cell_one_new _ _ _) (by simp [Value.oneCell']) (by unfold maxLen; omega) (by omega) (by simp; omega) ?_)
          intro v' w5 hown' hgrow _
          have HO5 := hide (HO2.out.snoc (by simpa using hown') hgrow)
          clear hown' hgrow hown
          go_wp2_with fail
          go_roundw
          case rel => exact ⟨q + 1, _, rfl, by omega, by go_num, by rw [hr1.out, ← List.append_assoc]; exact HO5.out⟩
          case measure => simp [intOf]; omega
        · obtain rfl : q = r + 1 := by omega
          have HO := hide hO
          have hqd : decide (((r + 1 : Nat) : Int) < (r : Int) + 1) = false := by simp
          have hu : Hid (u2 - u1 = r + 1 + 1) := hide (by have := HT2.out; omega)
          clear hO
          go_wp2_with fail
          go_roundw
          case rel => exact ⟨r + 1, _, rfl, by omega, by rw [← HU1.out, hu.out], by go_num, HO.out⟩
          case measure => simp [intOf]; omega
    · obtain rfl : r = M := by omega
      have hrd : decide ((r : Int) + 1 < (N : Int)) = false := by simp; omega
      have HLst := hide (hO.list (Below.refl _ _) (Nat.le_refl _))
      clear hO
      go_wp2_with fail
      go_ret
      exact HLst.out
end Go.Proofs.Ytidcpocfdppobaa
