/-
  Ships placed: cells, withShip, fleetsFrom: the program's texts.
-/
import Derived.Test.YtkekanllfpdeaabSr
import Derived.Test.YtkekanllfpdeaabTr
import Derived.BigQuiet
namespace Go.Proofs.Ytkekanllfpdeaab
open Go.RowKit
set_option linter.unusedVariables false

def okT (t : T3) : Prop := (0 ≤ t.1 ∧ t.1 < 33554432) ∧ (0 ≤ t.2.1 ∧ t.2.1 < 33554432) ∧ (0 ≤ t.2.2 ∧ t.2.2 < 33554432)
theorem ix_any (x y z : Int) (w : World) : (Instr.index 61 (.agg #[.int .i64 x, .int .i64 y, .int .i64 z]) (.int .i64 0)).run Try.prog w = .ok (.int .i64 x) w ∧ (Instr.index 61 (.agg #[.int .i64 x, .int .i64 y, .int .i64 z]) (.int .i64 1)).run Try.prog w = .ok (.int .i64 y) w ∧ (Instr.index 61 (.agg #[.int .i64 x, .int .i64 y, .int .i64 z]) (.int .i64 2)).run Try.prog w = .ok (.int .i64 z) w := ⟨by kernel_rfl, by kernel_rfl, by kernel_rfl⟩
set_option maxRecDepth 100000 in
set_option maxHeartbeats 1000000 in
theorem cells_any (t : T3) (h : okT t) (W : World) : Calls Try.prog 77 #[valT t] W (RetB (.int .i64 (set3 t)) W) := by
  obtain ⟨x, y, z⟩ := t
  obtain ⟨⟨x0, x1⟩, ⟨y0, y1⟩, ⟨z0, z1⟩⟩ := h
  dsimp only at x0 x1 y0 y1 z0 z1
  show Calls Try.prog 77 #[.agg #[.int .i64 x, .int .i64 y, .int .i64 z]] W (RetB (.int .i64 (orI (orI (orI 0 x) y) z)) W)
  have o1 := or_walkI (x := 0) (y := x) (by omega) (by omega) (by omega) (by omega)
  obtain ⟨r1, r2⟩ := orI_range (n := 25) (x := 0) (y := x) (by omega) (by decide) (by omega) (by simpa using x1)
  obtain ⟨A, hA⟩ : ∃ A, A = orI 0 x := ⟨_, rfl⟩
  rw [← hA] at o1 r1 r2 ⊢
  have o2 := or_walkI (x := A) (y := y) (by omega) (by omega) (by omega) (by omega)
  obtain ⟨r3, r4⟩ := orI_range (n := 25) (x := A) (y := y) (by omega) (by omega) (by omega) (by simpa using y1)
  obtain ⟨B, hB⟩ : ∃ B, B = orI A y := ⟨_, rfl⟩
  rw [← hB] at o2 r3 r4 ⊢
  have o3 := or_walkI (x := B) (y := z) (by omega) (by omega) (by omega) (by omega)
  obtain ⟨C, hC⟩ : ∃ C, C = orI B z := ⟨_, rfl⟩
  rw [← hC] at o3 ⊢
  clear hA hB hC r1 r2 r3 r4 x0 x1 y0 y1 z0 z1
  have i0 := fun w => (ix_any x y z w).1
  have i1 := fun w => (ix_any x y z w).2.1
  have i2 := fun w => (ix_any x y z w).2.2
  go_enter Try.func77, Try.ntmps77
  go_wp2_with fail
  refine wp_loop_rounds 4 ?_
  rw [rounds_succ]
  go_wp2_with fail
  rw [rounds_succ]
  go_wp2_with fail
  rw [rounds_succ]
  go_wp2_with fail
  rw [rounds_succ]
  go_wp2_with fail
  go_ret
  exact ⟨rfl, below_alloc _ _⟩

/-! ### lists of fleets begun -/
def okL (k : Nat) (L : List (List Int)) : Prop := ∀ f ∈ L, f.length = k ∧ ∀ z ∈ f, 0 ≤ z ∧ z < 33554432
theorem okT_pad {f : List Int} (h : ∀ z ∈ f, 0 ≤ z ∧ z < 33554432) : okT (padF f) := by
  have g : ∀ i, 0 ≤ f.getD i 0 ∧ f.getD i 0 < 33554432 := fun i => by
    rw [List.getD_eq_getElem?_getD]
    cases hz : f[i]? with
    | none => exact ⟨Int.le_refl _, by decide⟩
    | some z => exact h z (mem_of_get hz)
  exact ⟨g 0, g 1, g 2⟩
def extP (wd hi : Int) (cs f : List Int) (i : Nat) : List (List Int) := (((plAt wd hi cs f.length).take i).filter (okNext cs f)).map (fun z => f ++ [z])
theorem extP_all (wd hi : Int) (cs f : List Int) : extP wd hi cs f (plAt wd hi cs f.length).length = extF wd hi cs f := by unfold extP extF; rw [List.take_length]
theorem extP_yes {wd hi : Int} {cs f : List Int} {i : Nat} {z : Int} (hz : (plAt wd hi cs f.length)[i]? = some z) (h : okNext cs f z = true) : extP wd hi cs f (i + 1) = extP wd hi cs f i ++ [f ++ [z]] := by
  unfold extP
  rw [List.take_add_one, hz, List.filter_append, List.map_append]
  simp [h]
theorem extP_no {wd hi : Int} {cs f : List Int} {i : Nat} {z : Int} (hz : (plAt wd hi cs f.length)[i]? = some z) (h : okNext cs f z = false) : extP wd hi cs f (i + 1) = extP wd hi cs f i := by
  unfold extP
  rw [List.take_add_one, hz, List.filter_append, List.map_append]
  simp [h]
theorem extP_len (wd hi : Int) (cs f : List Int) (i : Nat) : (extP wd hi cs f i).length ≤ i := by
  unfold extP
  rw [List.length_map]
  refine Nat.le_trans (List.length_filter_le _ _) ?_
  rw [List.length_take]
  omega
theorem okL_ext {wd hi : Int} {cs : List Int} {k : Nat} {L : List (List Int)} (h : okL k L) (hp : ∀ z ∈ plAt wd hi cs k, 0 ≤ z ∧ z < 33554432) : okL (k + 1) (L.flatMap (extF wd hi cs)) := by
  intro g hg
  obtain ⟨f, hf, hgf⟩ := List.mem_flatMap.1 hg
  obtain ⟨z, rfl, hz, _⟩ := (mem_extF wd hi cs).1 hgf
  obtain ⟨h1, h2⟩ := h f hf
  rw [h1] at hz
  refine ⟨by simp [h1], fun u hu => ?_⟩
  rcases List.mem_append.1 hu with hu | hu
  · exact h2 u hu
  · rw [List.mem_singleton.1 hu]; exact hp z hz
theorem flat_len {wd hi : Int} {cs : List Int} {k m : Nat} : ∀ {L : List (List Int)}, okL k L → (plAt wd hi cs k).length ≤ m → (L.flatMap (extF wd hi cs)).length ≤ L.length * m
  | [], _, _ => Nat.zero_le _
  | f :: L, h, hm => by
    have h1 := flat_len (L := L) (fun g hg => h g (List.mem_cons_of_mem _ hg)) hm
    have h2 := extP_len wd hi cs f (plAt wd hi cs f.length).length
    rw [extP_all, (h f (List.mem_cons_self ..)).1] at h2
    rw [List.flatMap_cons, List.length_append, List.length_cons, Nat.succ_mul]
    omega
end Go.Proofs.Ytkekanllfpdeaab
