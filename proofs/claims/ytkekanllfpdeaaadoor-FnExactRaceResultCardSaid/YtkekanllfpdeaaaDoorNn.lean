/-
  A new search.
-/
import Derived.Test.YtkekanllfpdeaaaDoorNw
import Derived.Deep.RegionHeld3
import Derived.Deep.RegionWith
import Derived.Carry
import Derived.Laws.EntriesVeiled
namespace Go.Proofs.YtkekanllfpdeaaaDoor
open Go.RowKit Go.Maps
set_option linter.unusedVariables false

theorem ends_any (W : World) : Calls Tryd.prog 121 #[] W (fun e w' => e = .returned (.slice (some ⟨W.heap.size, 0, none⟩) 2 2) ∧ w' = W.alloc (.cells #[.func (.func 166) #[] #[], .func (.func 127) #[] #[]] 84)) := by
  go_enter Tryd.func121, Tryd.ntmps121
  go_wp2
  go_ret
  exact ⟨rfl, rfl⟩
theorem new_fin1 (W : World) (Z0 Z1 E : Obj) : W.heap.size ≤ W.heap.size + 1 + 1 + 1 ∧ Below W.heap.size W ((((W.alloc Z0).alloc Z1).alloc E).alloc (.map #[] 0)).drew ∧ ∀ (a : Option Addr) (lv : Int → Int → Int) (m : Int) (cs : List Int), IntsAt W a cs → TzTab W → KnS lv m a cs (W.heap.size + 1 + 1 + 1) ((((W.alloc Z0).alloc Z1).alloc E).alloc (.map #[] 0)).drew := by
  have h3 : Below W.heap.size W (((W.alloc Z0).alloc Z1).alloc E) := (((Below.refl _ _).alloc (Nat.le_refl _) _).alloc (by simp) _).alloc (by simp; omega) _
  have hs : (((W.alloc Z0).alloc Z1).alloc E).heap.size = W.heap.size + 1 + 1 + 1 := by simp
  refine ⟨by omega, Below.drew (h3.alloc (by rw [hs]; omega) _), fun a lv m cs hi ht => ?_⟩
  have h := KnS.made (lv := lv) (n := m) (((W.alloc Z0).alloc Z1).alloc E) (hi.keep h3) (ht.keep h3)
  rw [hs] at h
  exact h.keep (Below.drew (Below.refl _ _))
theorem new_fin2 (W : World) (Z0 Z1 E : Obj) : W.heap.size ≤ W.heap.size + 1 + 1 ∧ Below W.heap.size W ((((W.alloc Z0).alloc Z1).alloc (.map #[] 0)).alloc E).drew ∧ ∀ (a : Option Addr) (lv : Int → Int → Int) (m : Int) (cs : List Int), IntsAt W a cs → TzTab W → KnS lv m a cs (W.heap.size + 1 + 1) ((((W.alloc Z0).alloc Z1).alloc (.map #[] 0)).alloc E).drew := by
  have h3 : Below W.heap.size W ((W.alloc Z0).alloc Z1) := ((Below.refl _ _).alloc (Nat.le_refl _) _).alloc (by simp) _
  have hs : ((W.alloc Z0).alloc Z1).heap.size = W.heap.size + 1 + 1 := by simp
  refine ⟨by omega, Below.drew ((h3.alloc (by rw [hs]; omega) _).alloc (by simp; omega) _), fun a lv m cs hi ht => ?_⟩
  have h := KnS.made (lv := lv) (n := m) ((W.alloc Z0).alloc Z1) (hi.keep h3) (ht.keep h3)
  rw [hs] at h
  exact (h.keep (below_alloc _ _)).keep (Below.drew (Below.refl _ _))
set_option maxRecDepth 100000 in
set_option maxHeartbeats 8000000 in
theorem newM_any (n : Int) (a : Option Addr) (K c : Nat) (W : World) : Calls Tryd.prog 67 #[.agg #[.int .i64 n, .slice a K c], .int .i64 0] W fun e W' => ∃ bm, e = .returned (svM n a K c bm) ∧ W.heap.size ≤ bm ∧ Below W.heap.size W W' ∧ ∀ (a : Option Addr) (lv : Int → Int → Int) (m : Int) (cs : List Int), IntsAt W a cs → TzTab W → KnS lv m a cs bm W' := by
  have hmm := @run_makeMap Tryd.prog
  go_enter Tryd.func67, Tryd.ntmps67
  go_wp2_with fail
  go_region_with (go_at_call 121; (with_reducible refine (ends_any _).mono ?_); rintro e w5 ⟨rfl, rfl⟩)
  all_goals
    go_wp2_with fail
    first
    | exact bodyPost_ret (v := svM n a K c (W.heap.size + 1 + 1 + 1)) (by simp [results, Tryd.results67, go_sem, svM]) rfl ⟨_, rfl, new_fin1 _ _ _ _⟩
    | exact bodyPost_ret (v := svM n a K c (W.heap.size + 1 + 1)) (by simp [results, Tryd.results67, go_sem, svM]) rfl ⟨_, rfl, new_fin2 _ _ _ _⟩
set_option maxRecDepth 100000 in
set_option maxHeartbeats 8000000 in
theorem newR_any (n : Int) (a : Option Addr) (K c : Nat) (W : World) : Calls Tryd.prog 67 #[.agg #[.int .i64 n, .slice a K c], .int .i64 1] W fun e W' => ∃ bm, e = .returned (svR n a K c bm) ∧ W.heap.size ≤ bm ∧ Below W.heap.size W W' ∧ ∀ (a : Option Addr) (lv : Int → Int → Int) (m : Int) (cs : List Int), IntsAt W a cs → TzTab W → KnS lv m a cs bm W' := by
  have hmm := @run_makeMap Tryd.prog
  go_enter Tryd.func67, Tryd.ntmps67
  go_wp2_with fail
  go_region_with (go_at_call 121; (with_reducible refine (ends_any _).mono ?_); rintro e w5 ⟨rfl, rfl⟩)
  all_goals
    go_wp2_with fail
    first
    | exact bodyPost_ret (v := svR n a K c (W.heap.size + 1 + 1 + 1)) (by simp [results, Tryd.results67, go_sem, svR]) rfl ⟨_, rfl, new_fin1 _ _ _ _⟩
    | exact bodyPost_ret (v := svR n a K c (W.heap.size + 1 + 1)) (by simp [results, Tryd.results67, go_sem, svR]) rfl ⟨_, rfl, new_fin2 _ _ _ _⟩
end Go.Proofs.YtkekanllfpdeaaaDoor
