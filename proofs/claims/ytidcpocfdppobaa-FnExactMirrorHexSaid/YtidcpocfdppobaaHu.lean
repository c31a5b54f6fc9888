/-
  Boards of hexagons: the reduced triangle, both texts.
-/
import Derived.Test.YtidcpocfdppobaaHt
import Derived.Deep.LoopGhost
namespace Go.Proofs.Ytidcpocfdppobaa
open Go.RowKit
set_option linter.unusedVariables false

theorem tstart_is {x : Int} {k : Nat} (hx : x = k) (hk : k ≤ 9) (W : World) : Calls Try.prog 91 #[.int .i64 x] W (RetB (.int .i64 (tS k)) W) := by
  subst hx
  have := tstart_any (k : Int) (by omega) (by omega) W
  rw [Int.toNat_natCast] at this
  exact this
theorem hexAt_some {cs : List Int} {k : Nat} (h : k < cs.length) : cs[k]? = some (hexAt cs (k : Int)) := by simp [hexAt, h]
/-- The cells of a list, by number. -/
theorem IntsAt.at {w : World} {a : Option Addr} {zs : List Int} (h : IntsAt w a zs) (hne : 0 < zs.length) : ∃ b off, a = some ⟨b, off, none⟩ ∧ ∀ i, i < zs.length → w.cell? ⟨b, off + i, none⟩ = some (.int .i64 (hexAt zs (i : Int))) := by
  obtain ⟨b, off, rfl, hc⟩ := h.get hne
  exact ⟨b, off, rfl, fun i hi => by rw [hc i hi]; simp [hexAt]⟩
theorem tS_mul (r : Nat) (hr : r ≤ 8) : wrap64 ((r : Int) * ((r : Int) + 1)) = (r : Int) * ((r : Int) + 1) ∧ wrap64 (((r : Int) * ((r : Int) + 1)).tdiv 2) = (tS r : Int) := by
  obtain ⟨_, _, _, _, h1, h2⟩ := tri_nums' (n := (r : Int)) (by omega) (by omega)
  exact ⟨h1, by rw [h2, tS_int (by omega), Int.toNat_natCast]⟩

theorem ownsRow_empty {w : World} {lo g : Nat} (hg : w.heap[g]? = some (.cells #[] 2 (0, 0))) (hlo : lo ≤ g) : w.ownsRow lo 2 1 (.slice (some ⟨g, 0, none⟩) 0 0) 0 [] :=
  ⟨rfl, .inr ⟨g, 0, #[], rfl, hlo, hg, Nat.le_refl _, by decide, rfl, rfl⟩⟩
set_option maxRecDepth 100000 in
set_option maxHeartbeats 2000000 in
theorem specRed_any (N : Nat) (a : Option Addr) (c : Nat) (cs : List Int) (hN1 : 1 ≤ N) (hN8 : N ≤ 8) (hlen : cs.length = tS N) (hz : ∀ z ∈ cs, 1 ≤ z ∧ z ≤ 2) (W : World) (ha : IntsAt W a cs) :
    Calls Try.prog 80 #[.int .i64 N, .slice a cs.length c] W (NewL (redTo cs (N - 1)) W) := by
  obtain ⟨i0, hi0, hz0, hz1, hz2⟩ := info_parts Try.info2
  obtain ⟨M, hM⟩ : ∃ M, M = N - 1 := ⟨_, rfl⟩
  rw [← hM]
  have hM8 : M ≤ 7 := by omega
  have hM1 : M + 1 ≤ N := by omega
  have hM2 : N ≤ M + 1 := by omega
  clear hM
  have hlen36 := tS_nums hN8
  have HLN := hide hlen
  have HZ := hide hz
  have hl : cs.length ≤ 36 := by omega
  obtain ⟨b, off, rfl, hcell⟩ := ha.at (by have h0 := tS_mono hN1; have h1 : tS 1 = 1 := rfl; omega)
  have HC : Hid (∀ i, i < cs.length → W.cell? ⟨b, off + i, none⟩ = some (.int .i64 (hexAt cs (i : Int)))) := hide hcell
  clear ha hlen hz hcell
  obtain ⟨L, hL⟩ : ∃ L, L = cs.length := ⟨_, rfl⟩
  rw [← hL] at hl HLN ⊢
  have HL := hide hL
  clear hL
  obtain ⟨W0, hW0⟩ : ∃ W0, W0 = W.alloc (.cells #[] 2) := ⟨_, rfl⟩
  have hO : Hid (Owns W.heap.size W W0 (.slice (some ⟨W.heap.size, 0, none⟩) 0 0) (redTo cs 0)) := by
    rw [hW0]
    exact hide ⟨ownsRow_empty (alloc_row _ _ _) (Nat.le_refl _), below_alloc _ _, by simp⟩
  go_enter Try.func80, Try.ntmps80
  go_wp2_with fail
  rw [← hW0]
  clear hW0
  (try go_wp2_with fail)
  go_loopw [5, 6] (fun v i wr => ∃ (r : Nat) (v0 : Value), v0 = v ∧ r ≤ M ∧ i = .int .i64 r ∧ Owns W.heap.size W wr v (redTo cs r)) (fun _ i _ => M - (intOf i).toNat)
  case atStart => exact ⟨0, _, rfl, Nat.zero_le _, rfl, hO.out⟩
  case round =>
    clear hO
    obtain ⟨r, v, rfl, hr, rfl, hO⟩ := hrel
    by_cases hlt : r < M
    · have hrd : decide ((r : Int) < (N : Int) - 1) = true := by simp; omega
      have r8 : r ≤ 8 := by omega
      have r9 : r + 1 ≤ 8 := by omega
      have t1 := tS_succ r
      have t2 : tS (r + 1 + 1) = tS (r + 1) + (r + 1 + 1) := tS_succ (r + 1)
      have t3 : tS (r + 1 + 1) ≤ L := by rw [HLN.out]; exact tS_mono (by omega)
      obtain ⟨q1, q2⟩ := tS_mul r r8
      obtain ⟨q3, q4⟩ := tS_mul (r + 1) r9
      have q3' : wrap64 (((r : Int) + 1) * ((r : Int) + 2)) = ((r : Int) + 1) * ((r : Int) + 2) := by
        have e : (((r + 1 : Nat) : Int) + 1) = (r : Int) + 2 := by omega
        rw [e] at q3
        simpa using q3
      have q4' : wrap64 ((((r : Int) + 1) * ((r : Int) + 2)).tdiv 2) = (tS (r + 1) : Int) := by
        have e : (((r + 1 : Nat) : Int) + 1) = (r : Int) + 2 := by omega
        rw [e] at q4
        simpa using q4
      obtain ⟨u0, hu0⟩ : ∃ u, u = tS r := ⟨_, rfl⟩
      obtain ⟨u1, hu1⟩ : ∃ u, u = tS (r + 1) := ⟨_, rfl⟩
      have HU0 := hide hu0
      have HU1 := hide hu1
      rw [← hu0] at q2 t1
      rw [← hu1] at q4' t1 t2
      have HO := hide hO
      obtain ⟨p0, hp0⟩ : ∃ p : Int, p = (r : Int) * ((r : Int) + 1) := ⟨_, rfl⟩
      obtain ⟨p1, hp1⟩ : ∃ p : Int, p = ((r : Int) + 1) * ((r : Int) + 2) := ⟨_, rfl⟩
      rw [← hp0] at q2
      rw [← hp1] at q4'
      have HQ : Hid (wrap64 ((r : Int) * ((r : Int) + 1)) = p0 ∧ wrap64 (p0.tdiv 2) = (u0 : Int) ∧ wrap64 (((r : Int) + 1) * ((r : Int) + 2)) = p1 ∧ wrap64 (p1.tdiv 2) = (u1 : Int)) := hide ⟨by rw [hp0]; exact q1, q2, by rw [hp1]; exact q3', q4'⟩
      clear hp0 hp1
      have b1 : u1 + (r + 2) ≤ L := by omega
      have b0 : u0 + (r + 1) ≤ u1 := by omega
      clear t1 t2 t3 hO q1 q2 q3 q4 q3' q4' hu0 hu1 hN1 hN8 hlen36 r8 r9
      obtain ⟨wo, rfl⟩ : ∃ wo : World, wo = wr := ⟨_, rfl⟩
      go_wp2_with fail
      go_loopw [5, 7] (fun v i wr => ∃ (q : Nat) (v0 : Value), v0 = v ∧ q ≤ r + 1 ∧ i = .int .i64 q ∧ Owns W.heap.size W wr v (redTo cs r ++ redRow cs r q)) (fun _ i _ => r + 1 - (intOf i).toNat)
      case atStart => exact ⟨0, _, rfl, Nat.zero_le _, rfl, by rw [redRow, List.append_nil]; exact HO.out⟩
      case round =>
        clear HO
        obtain ⟨q, v, rfl, hq, rfl, hO⟩ := hrel
        by_cases hql : q < r + 1
        · have hqd : decide (q ≤ r) = true := by simp; omega
          have hqd' : decide ((q : Int) ≤ (r : Int)) = true := by simp; omega
          have hcw : ∀ i, i < L → wr.cell? ⟨b, off + i, none⟩ = some (.int .i64 (hexAt cs (i : Int))) := fun i hi => by
            have h1 := HC.out i (by rw [← HL.out]; exact hi)
            have hlt := World.block_lt_of_cell? W _ h1
            exact (hO.old.cell (p := ⟨b, off + i, none⟩) hlt).trans h1
          obtain ⟨x, hx⟩ : ∃ x, x = hexAt cs ((u0 + q : Nat) : Int) := ⟨_, rfl⟩
          obtain ⟨y, hy⟩ : ∃ y, y = hexAt cs ((u1 + q : Nat) : Int) := ⟨_, rfl⟩
          obtain ⟨z, hzz⟩ : ∃ z, z = hexAt cs ((u1 + q + 1 : Nat) : Int) := ⟨_, rfl⟩
          have bx : 1 ≤ x ∧ x ≤ 2 := by rw [hx]; exact HZ.out _ (hexAt_mem (by rw [← HL.out]; omega))
          have bY : 1 ≤ y ∧ y ≤ 2 := by rw [hy]; exact HZ.out _ (hexAt_mem (by rw [← HL.out]; omega))
          have bz : 1 ≤ z ∧ z ≤ 2 := by rw [hzz]; exact HZ.out _ (hexAt_mem (by rw [← HL.out]; omega))
          have cx : ∀ p : Past wr, p.to.cell? ⟨b, off + (u0 + q), none⟩ = some (.int .i64 x) := fun p => p.cell (by rw [hx]; exact hcw _ (by omega))
          have cy : ∀ p : Past wr, p.to.cell? ⟨b, off + (u1 + q), none⟩ = some (.int .i64 y) := fun p => p.cell (by rw [hy]; exact hcw _ (by omega))
          have cz : ∀ p : Past wr, p.to.cell? ⟨b, off + (u1 + q + 1), none⟩ = some (.int .i64 z) := fun p => p.cell (by rw [hzz]; exact hcw _ (by omega))
          have hm : Hid (red1 cs r q = if x + y + z < 5 then 1 else 2) := hide (by
            unfold red1
            rw [← HU0.out, ← HU1.out, ← hx, ← hy, ← hzz]
            exact most_sum bx bY bz)
          have hlr : (redTo cs r ++ redRow cs r q).length ≤ 64 := by rw [List.length_append, redTo_len, redRow_len, ← HU0.out]; omega
          have HO := hide hO
          clear hx hy hzz hO hcw
          by_cases h5 : x + y + z < 5
          · have hd : decide (x + y + z < 5) = true := decide_eq_true h5
            have hr1 : Hid (redRow cs r (q + 1) = redRow cs r q ++ [1]) := hide (by rw [redRow, hm.out, if_pos h5])
            obtain ⟨q1, q2, q3, q4⟩ := HQ.out
            go_wp2_with fail
            clear q1 q2 q3 q4
            refine wp_region_past (by kernel_rfl) (by kernel_rfl) ?_
            repeat (first | go_big_quiet_step (fail) | quiet_step (fail))
            refine wpQuiet_nil ?_
            rintro _ ⟨pq, rfl⟩
            have hO2 := HO.out.keep pq.old
            have hown := hO2.own
            have hsz := hO2.size
            have HO2 := hide hO2
            clear hO2
            go_wp2_with (at_builtin; refine wpList_append_own _ rfl _ _ 22 rfl (W.heap.size) 2 i0 (.int .i64 0) 1 8 Try.underlying22 hi0 hz0 hz1 hz2 rfl (by decide) _ _ _ rfl (hown.alloc _) ⟨pq.to.heap.size, 0, none⟩ 1 1 [.int .i64 1] rfl rfl (cell_one_new _ _ _) (by simp [Value.oneCell']) (by unfold maxLen; omega) (by omega) (by simp; omega) ?_)
            intro v' w5 hown' hgrow _
            have HO5 := hide (HO2.out.snoc (by simpa using hown') hgrow)
            clear hown' hgrow hown
            go_wp2_with fail
            go_roundw
            case rel => exact ⟨q + 1, _, rfl, by omega, by go_num, by rw [hr1.out, ← List.append_assoc]; exact HO5.out⟩
            case measure => simp [intOf]; omega
          · have hd : decide (x + y + z < 5) = false := decide_eq_false h5
            have hr1 : Hid (redRow cs r (q + 1) = redRow cs r q ++ [2]) := hide (by rw [redRow, hm.out, if_neg h5])
            obtain ⟨q1, q2, q3, q4⟩ := HQ.out
            go_wp2_with fail
            clear q1 q2 q3 q4
            refine wp_region_past (by kernel_rfl) (by kernel_rfl) ?_
            repeat (first | go_big_quiet_step (fail) | quiet_step (fail))
            refine wpQuiet_nil ?_
            rintro _ ⟨pq, rfl⟩
            have hO2 := HO.out.keep pq.old
            have hown := hO2.own
            have hsz := hO2.size
            have HO2 := hide hO2
            clear hO2
            go_wp2_with (at_builtin; refine wpList_append_own _ rfl _ _ 22 rfl (W.heap.size) 2 i0 (.int .i64 0) 1 8 Try.underlying22 hi0 hz0 hz1 hz2 rfl (by decide) _ _ _ rfl (hown.alloc _) ⟨pq.to.heap.size, 0, none⟩ 1 1 [.int .i64 2] rfl rfl (cell_one_new _ _ _) (by simp [Value.oneCell']) (by unfold maxLen; omega) (by omega) (by simp; omega) ?_)
            intro v' w5 hown' hgrow _
            have HO5 := hide (HO2.out.snoc (by simpa using hown') hgrow)
            clear hown' hgrow hown
            go_wp2_with fail
            go_roundw
            case rel => exact ⟨q + 1, _, rfl, by omega, by go_num, by rw [hr1.out, ← List.append_assoc]; exact HO5.out⟩
            case measure => simp [intOf]; omega
        · obtain rfl : q = r + 1 := by omega
          have HO := hide hO
          clear hO
          go_wp2_with fail
          go_roundw
          case rel => exact ⟨r + 1, _, rfl, by omega, by go_num, HO.out⟩
          case measure => simp [intOf]; omega
    · obtain rfl : r = M := by omega
      have hrd : decide ((r : Int) < (N : Int) - 1) = false := by simp; omega
      have HLst := hide (hO.list (Below.refl _ _) (Nat.le_refl _))
      clear hO
      go_wp2_with fail
      go_ret
      exact HLst.out
end Go.Proofs.Ytidcpocfdppobaa
