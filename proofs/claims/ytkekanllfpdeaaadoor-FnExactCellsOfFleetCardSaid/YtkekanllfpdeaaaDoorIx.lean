/-
  slices.Index and Contains on lists of ships placed.
-/
import Derived.Test.YtkekanllfpdeaaaDoorFf
import Derived.Laws.StructEq
namespace Go.Proofs.YtkekanllfpdeaaaDoor
open Go.RowKit
set_option linter.unusedVariables false

theorem eqT_any (a b c x y z : Int) (w : World) : (Op.equalIn 10000 112 (.agg #[.int .i64 a, .int .i64 b, .int .i64 c]) (.agg #[.int .i64 x, .int .i64 y, .int .i64 z])).run Tryd.prog w = .ok (decide ((a, b, c) = ((x, y, z) : T3))) w := by
  have u3 := Tryd.underlying2
  have a3 := Tryd.isAgg2
  have z3 := Tryd.sizeOf2
  rw [show (10000 : Nat) = 9999 + 1 from rfl, Op.equalIn]
  simp only [Sem.run_bind, run_underlying Tryd.underlying112, Result.andThen_ok]
  simp only [Std.Legacy.Range.forIn_eq_forIn_range', Std.Legacy.Range.size, Nat.sub_zero, Nat.add_sub_cancel, Nat.div_one, List.range'_succ, List.range'_zero, List.forIn_cons, List.forIn_nil]
  go_simp
  by_cases h1 : a = x <;> by_cases h2 : b = y <;> by_cases h3 : c = z <;> simp [h1, h2, h3]

def idxT : List T3 → T3 → Nat → Int
  | [], _, _ => -1
  | f :: fs, t, k => if t = f then (k : Int) else idxT fs t (k + 1)
theorem idxT_mem (t : T3) : ∀ (fs : List T3) (k : Nat), decide (0 ≤ idxT fs t k) = fs.contains t
  | [], k => by simp [idxT]
  | f :: fs, k => by
    unfold idxT
    by_cases h : t = f
    · subst h
      simp
    · rw [if_neg h, idxT_mem t fs (k + 1)]
      simp [h]

set_option maxRecDepth 100000 in
set_option maxHeartbeats 4000000 in
theorem indexT_any (v : Value) (fs : List T3) (t : T3) (W : World) (hv : TrisAt W v fs) (hl : fs.length ≤ 200000) :
    Calls Tryd.prog 227 #[v, valT t] W (RetB (.int .i64 (idxT fs t 0)) W) := by
  have hvk := hv
  obtain ⟨a, c, rfl, _⟩ := hvk
  obtain ⟨x, y, z⟩ := t
  obtain ⟨W0, hW0⟩ : ∃ W0, W0 = W.alloc (.cells #[.int .i64 x, .int .i64 y, .int .i64 z] 112) := ⟨_, rfl⟩
  have hB0 : Hid (Below W.heap.size W W0) := by rw [hW0]; exact hide (below_alloc _ _)
  have hr0 : Hid (W0.heap[W.heap.size]? = some (.cells (cellsT (x, y, z)) 112 (0, 0))) := by rw [hW0]; exact hide (heap_alloc_new _ _)
  have hV0 := hide (hv.keep hB0.out)
  obtain ⟨R, hR⟩ : ∃ R, R = idxT fs (x, y, z) 0 := ⟨_, rfl⟩
  rw [← hR]
  have HR := hide hR
  obtain ⟨n, hn⟩ : ∃ n, n = fs.length := ⟨_, rfl⟩
  have HN := hide hn
  clear hv hR
  show Calls Tryd.prog _ #[_, .agg #[.int .i64 x, .int .i64 y, .int .i64 z]] W _
  rw [← hn] at hl ⊢
  clear hn
  go_enter Tryd.func227, Tryd.ntmps227
  go_wp2_with fail
  rw [← hW0]
  clear hW0
  go_loopw [8] (fun v8 wr => ∃ k : Nat, v8 = .int .i64 k ∧ k ≤ n ∧ Hid (R = idxT (fs.drop k) (x, y, z) k) ∧ Below W0.heap.size W0 wr) (fun v8 _ => n - (intOf v8).toNat)
  case atStart => exact ⟨0, rfl, Nat.zero_le _, hide (by rw [List.drop_zero]; exact HR.out), Below.refl _ _⟩
  case round =>
    obtain ⟨k, rfl, hk, hI, hB⟩ := hrel
    have HB := hide hB
    by_cases hlt : k < n
    · obtain ⟨g, t, hg, ht, t0, t1, t2⟩ := (hV0.out.keep hB).one (k := k) (by rw [← HN.out]; exact hlt)
      subst hg
      obtain ⟨x', y', z'⟩ := t
      dsimp only at t0 t1 t2
      obtain ⟨c0, c1, c2, _⟩ := boxT (box_keep hr0.out hB)
      dsimp only at c0 c1 c2
      have hI2 : Hid (R = if (x, y, z) = ((x', y', z') : T3) then (k : Int) else idxT (fs.drop (k + 1)) (x, y, z) (k + 1)) := hide (by rw [hI.out, drop_of_get ht.out]; rfl)
      have hE := eqT_any x y z x' y' z'
      clear hI ht hB
      by_cases he : (x, y, z) = ((x', y', z') : T3)
      · have hf : Hid (R = (k : Int)) := hide (by rw [hI2.out, if_pos he])
        have hE2 : ∀ w : World, (Op.equalIn 10000 112 (.agg #[.int .i64 x, .int .i64 y, .int .i64 z]) (.agg #[.int .i64 x', .int .i64 y', .int .i64 z'])).run Tryd.prog w = .ok true w := fun w => by rw [hE w, decide_eq_true he]
        clear hE he hI2
        go_wp2_with fail
        go_quiet (fail)
        have hB2 := hide (Below.trans' hB0.out (Below.trans' HB.out (quiet_below (B := wr.heap.size) ⟨nq, rfl⟩ : Below wr.heap.size wr (wr.drewN nq))))
        clear hE2
        go_wp2_with fail
        go_ret
        exact ⟨ret_int hf.out.symm, hB2.out⟩
      · have hf : Hid (R = idxT (fs.drop (k + 1)) (x, y, z) (k + 1)) := hide (by rw [hI2.out, if_neg he])
        have hE2 : ∀ w : World, (Op.equalIn 10000 112 (.agg #[.int .i64 x, .int .i64 y, .int .i64 z]) (.agg #[.int .i64 x', .int .i64 y', .int .i64 z'])).run Tryd.prog w = .ok false w := fun w => by rw [hE w, decide_eq_false he]
        clear hE he hI2
        go_wp2_with fail
        go_quiet (fail)
        have hB2 := hide (Below.trans' HB.out (quiet_below (B := wr.heap.size) ⟨nq, rfl⟩ : Below wr.heap.size wr (wr.drewN nq)))
        clear hE2 t0 t1 t2 c0 c1 c2
        go_wp2_with fail
        go_roundw
        case rel => exact ⟨k + 1, by go_num, by omega, hf, hB2.out⟩
        case measure => simp [intOf]; omega
    · obtain rfl : k = n := by omega
      have hf : Hid (R = -1) := hide (by rw [hI.out, HN.out, List.drop_length]; rfl)
      clear hB
      go_wp2_with fail
      go_ret
      exact ⟨ret_int hf.out.symm, Below.trans' hB0.out HB.out⟩

set_option maxRecDepth 100000 in
set_option maxHeartbeats 2000000 in
theorem containsT_any (v : Value) (fs : List T3) (t : T3) (W : World) (hv : TrisAt W v fs) (hl : fs.length ≤ 200000) :
    Calls Tryd.prog 179 #[v, valT t] W (RetB (.bool (fs.contains t)) W) := by
  obtain ⟨x, y, z⟩ := t
  obtain ⟨W0, hW0⟩ : ∃ W0, W0 = W.alloc (.cells #[.int .i64 x, .int .i64 y, .int .i64 z] 112) := ⟨_, rfl⟩
  have hB0 : Hid (Below W.heap.size W W0) := by rw [hW0]; exact hide (below_alloc _ _)
  have hr0 : W0.heap[W.heap.size]? = some (.cells (cellsT (x, y, z)) 112 (0, 0)) := by rw [hW0]; exact heap_alloc_new _ _
  have HI := hide (indexT_any v fs (x, y, z) W0 (hv.keep hB0.out) hl)
  have hi2 : Hid (decide (0 ≤ idxT fs (x, y, z) 0) = fs.contains (x, y, z)) := hide (idxT_mem _ _ _)
  obtain ⟨a, c, rfl, _⟩ := hv
  obtain ⟨i, hi⟩ : ∃ i, i = idxT fs (x, y, z) 0 := ⟨_, rfl⟩
  rw [← hi] at HI hi2
  obtain ⟨r, hr⟩ : ∃ r, r = fs.contains (x, y, z) := ⟨_, rfl⟩
  rw [← hr] at hi2 ⊢
  obtain ⟨c0, c1, c2, _⟩ := boxT hr0
  dsimp only at c0 c1 c2
  clear hi hr hr0
  show Calls Tryd.prog _ #[_, .agg #[.int .i64 x, .int .i64 y, .int .i64 z]] W _
  have HI2 : Hid (Calls Tryd.prog 227 #[.slice a fs.length c, .agg #[.int .i64 x, .int .i64 y, .int .i64 z]] W0 (RetB (.int .i64 i) W0)) := HI
  go_enter Tryd.func179, Tryd.ntmps179
  go_wp2_with fail
  rw [← hW0]
  clear hW0
  (try go_wp2_with fail)
  refine HI2.out.mono ?_
  rintro e w1 ⟨rfl, hb1⟩
  have hB1 := hide (Below.trans' hB0.out hb1)
  clear hb1 c0 c1 c2
  go_wp2_with fail
  go_ret
  exact ⟨ret_bool hi2.out, hB1.out⟩
end Go.Proofs.YtkekanllfpdeaaaDoor
