/-
  Boards: lineIn, isMetBy, l07Fills; l07Is.
-/
import Derived.Test.YtkekanllfpdeaaaDoorBd
namespace Go.Proofs.YtkekanllfpdeaaaDoor
open Go.RowKit
set_option linter.unusedVariables false

theorem lin_yes {z s : Int} {r : List Int} (h : subB z s = true) : lin (z :: r) s = some z ∧ fil (z :: r) s = true := by simp [lin, fil, h]
theorem lin_no {z s : Int} {r : List Int} (h : subB z s = false) : lin (z :: r) s = lin r s ∧ fil (z :: r) s = fil r s := by simp [lin, fil, h]
/-- All numbers of a list are sets. -/
def Sets (cs : List Int) : Prop := ∀ z ∈ cs, 0 ≤ z ∧ z < 65536
theorem sets_of {n : Int} {cs : List Int} (h : okB n cs = true) : Sets cs := fun z hz => by have := okB_mem h hz; omega

set_option maxRecDepth 100000 in
set_option maxHeartbeats 1000000 in
theorem lineIn_any (n : Int) (a : Option Addr) (c : Nat) (cs : List Int) (s : Int) (hS : Sets cs) (s0 : 0 ≤ s) (s1 : s < 65536) (W : World) (ha : IntsAt W a cs) (hl : cs.length ≤ 1048576) :
    Calls Tryd.prog 170 #[.agg #[.int .i64 n, .slice a cs.length c], .int .i64 s] W (RetB (.tuple #[.int .i64 ((lin cs s).getD 0), .bool (fil cs s)]) W) := by
  obtain ⟨W0, hW0⟩ : ∃ W0, W0 = W.alloc (.cells #[.int .i64 n, .slice a cs.length c] 28) := ⟨_, rfl⟩
  have hB0 : Hid (Below W.heap.size W W0) := by rw [hW0]; exact hide (below_alloc _ _)
  have hX0 : Hid (HexIn W0 W.heap.size n a cs.length c) := by rw [hW0]; exact hide (hexIn_new _ _ _ _ _ _)
  have hA0 := hide (ha.keep hB0.out)
  obtain ⟨x, hx⟩ : ∃ x, x = (lin cs s).getD 0 := ⟨_, rfl⟩
  obtain ⟨f, hf⟩ : ∃ f, f = fil cs s := ⟨_, rfl⟩
  rw [← hx, ← hf]
  have HX := hide hx
  have HF := hide hf
  have HS := hide hS
  obtain ⟨c0, c1⟩ := hX0.out
  clear ha hx hf hS
  go_enter Tryd.func170, Tryd.ntmps170
  go_wp2_with fail
  rw [← hW0]
  clear hW0
  (try go_wp2_with fail)
  go_loop [11] (fun i => ∃ k : Nat, k ≤ cs.length ∧ i = .int .i64 k ∧ Hid ((lin (cs.drop k) s).getD 0 = x ∧ fil (cs.drop k) s = f)) (fun i => cs.length - (intOf i).toNat)
  case atStart => exact ⟨0, Nat.zero_le _, rfl, hide (by rw [List.drop_zero]; exact ⟨HX.out.symm, HF.out.symm⟩)⟩
  case round =>
    obtain ⟨k, hk, rfl, hD⟩ := hrel
    by_cases hlt : k < cs.length
    · obtain ⟨b, off, z, rfl, hcell, hz⟩ := hA0.out.one hlt
      obtain ⟨z0, z1⟩ := HS.out z (mem_of_get hz.out)
      have hbw := diff_walkI (x := z) (y := s) z0 (by omega) s0 (by omega)
      have hD2 : Hid ((lin (z :: cs.drop (k + 1)) s).getD 0 = x ∧ fil (z :: cs.drop (k + 1)) s = f) := by rw [← drop_of_get hz.out]; exact hD
      clear hD hz
      obtain ⟨d, hd⟩ : ∃ d, d = diffI z s := ⟨_, rfl⟩
      rw [← hd] at hbw
      by_cases h0 : d = 0
      · have hs : subB z s = true := by unfold subB; rw [← hd]; simp [h0]
        have hE : Hid (z = x ∧ true = f) := hide ⟨by have := hD2.out.1; rw [(lin_yes hs).1] at this; exact this, by have := hD2.out.2; rw [(lin_yes hs).2] at this; exact this⟩
        have e0 : (d == 0) = true := by simp [h0]
        clear hd hs hD2 h0
        go_wp2
        go_ret2
        exact ⟨by simp [go_sem, ← hE.out.1, ← hE.out.2], hB0.out⟩
      · have hs : subB z s = false := by unfold subB; rw [← hd]; simp [h0]
        have hE : Hid ((lin (cs.drop (k + 1)) s).getD 0 = x ∧ fil (cs.drop (k + 1)) s = f) := hide ⟨by have := hD2.out.1; rw [(lin_no hs).1] at this; exact this, by have := hD2.out.2; rw [(lin_no hs).2] at this; exact this⟩
        have e0 : (d == 0) = false := by simp [h0]
        clear hd hs hD2 h0
        go_wp2
        go_round
        case rel => exact ⟨k + 1, by omega, by go_num, hE⟩
        case measure => simp [intOf]; omega
    · have hE : Hid (0 = x ∧ false = f) := hide (by have := hD.out; rw [List.drop_eq_nil_of_le (by omega)] at this; exact this)
      clear hD
      go_wp2
      go_ret2
      exact ⟨by simp [go_sem, ← hE.out.1, ← hE.out.2], hB0.out⟩

set_option maxRecDepth 100000 in
set_option maxHeartbeats 1000000 in
theorem fills_any (n : Int) (a : Option Addr) (c : Nat) (cs : List Int) (s : Int) (hS : Sets cs) (s0 : 0 ≤ s) (s1 : s < 65536) (W : World) (ha : IntsAt W a cs) (hl : cs.length ≤ 1048576) :
    Calls Tryd.prog 75 #[.agg #[.int .i64 n, .slice a cs.length c], .int .i64 s] W (RetB (.bool (fil cs s)) W) := by
  obtain ⟨W0, hW0⟩ : ∃ W0, W0 = W.alloc (.cells #[.int .i64 n, .slice a cs.length c] 28) := ⟨_, rfl⟩
  have hB0 : Hid (Below W.heap.size W W0) := by rw [hW0]; exact hide (below_alloc _ _)
  have hX0 : Hid (HexIn W0 W.heap.size n a cs.length c) := by rw [hW0]; exact hide (hexIn_new _ _ _ _ _ _)
  have hA0 := hide (ha.keep hB0.out)
  obtain ⟨f, hf⟩ : ∃ f, f = fil cs s := ⟨_, rfl⟩
  rw [← hf]
  have HF := hide hf
  have HS := hide hS
  obtain ⟨c0, c1⟩ := hX0.out
  clear ha hf hS
  go_enter Tryd.func75, Tryd.ntmps75
  go_wp2_with fail
  rw [← hW0]
  clear hW0
  (try go_wp2_with fail)
  clear c0 c1
  go_loopw [5] (fun i wr => ∃ k : Nat, k ≤ cs.length ∧ i = .int .i64 k ∧ Hid (fil (cs.drop k) s = f) ∧ Below W0.heap.size W0 wr) (fun i _ => cs.length - (intOf i).toNat)
  case atStart => exact ⟨0, Nat.zero_le _, rfl, hide (by rw [List.drop_zero]; exact HF.out.symm), Below.refl _ _⟩
  case round =>
    obtain ⟨k, hk, rfl, hD, hB⟩ := hrel
    obtain ⟨c0, c1⟩ := hX0.out.keep hB
    have HB := hide hB
    by_cases hlt : k < cs.length
    · obtain ⟨b, off, z, rfl, hcell, hz⟩ := (hA0.out.keep hB).one hlt
      have q1 : ∀ p : Past wr, p.to.cell? ⟨W.heap.size, 1, none⟩ = some (.slice (some ⟨b, off, none⟩) cs.length c) := fun p => p.cell c1
      have qz : ∀ p : Past wr, p.to.cell? ⟨b, off + k, none⟩ = some (.int .i64 z) := fun p => p.cell hcell
      obtain ⟨z0, z1⟩ := HS.out z (mem_of_get hz.out)
      have hbw := and_walkI (x := z) (y := s) z0 (by omega) s0 (by omega)
      have hsa := subB_and (l := z) (s := s) z0 s0
      have hD2 : Hid (fil (z :: cs.drop (k + 1)) s = f) := by rw [← drop_of_get hz.out]; exact hD
      clear hD hz
      obtain ⟨d, hd⟩ : ∃ d, d = andI z s := ⟨_, rfl⟩
      rw [← hd] at hbw hsa
      by_cases h0 : d = z
      · have hs : subB z s = true := by rw [← hsa]; simp [h0]
        have hE : Hid (true = f) := hide (by have := hD2.out; rw [(lin_yes hs).2] at this; exact this)
        have e0 : (d == z) = true := by simp [h0]
        clear hd hs hD2 h0 hsa hB hcell
        go_wp2_with fail
        refine wp_region_past (by kernel_rfl) (by kernel_rfl) ?_
        repeat (first | go_big_quiet_step (fail) | quiet_step (fail))
        refine wpQuiet_nil ?_
        rintro _ ⟨pq, rfl⟩
        have HB2 := hide (Below.trans' hB0.out (Below.trans' HB.out pq.old))
        clear q1 qz
        go_wp2_with fail
        go_ret
        exact ⟨by rw [← hE.out]; rfl, HB2.out⟩
      · have hs : subB z s = false := by rw [← hsa]; simp [h0]
        have hE : Hid (fil (cs.drop (k + 1)) s = f) := hide (by have := hD2.out; rw [(lin_no hs).2] at this; exact this)
        have e0 : (d == z) = false := by simp [h0]
        clear hd hs hD2 h0 hsa hB hcell
        go_wp2_with fail
        refine wp_region_past (by kernel_rfl) (by kernel_rfl) ?_
        repeat (first | go_big_quiet_step (fail) | quiet_step (fail))
        refine wpQuiet_nil ?_
        rintro _ ⟨pq, rfl⟩
        have HB2 := hide (Below.trans' HB.out pq.old)
        clear q1 qz c0 c1
        go_wp2_with fail
        go_roundw
        case rel => exact ⟨k + 1, by omega, by go_num, hE, HB2.out⟩
        case measure => simp [intOf]; omega
    · have hE : Hid (false = f) := hide (by have := hD.out; rw [List.drop_eq_nil_of_le (by omega)] at this; exact this)
      clear hD hB
      go_wp2_with fail
      go_ret
      exact ⟨by rw [← hE.out]; rfl, Below.trans' hB0.out HB.out⟩

end Go.Proofs.YtkekanllfpdeaaaDoor
