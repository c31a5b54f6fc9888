/-
  Boards of hexagons: the rows of a list, three-index slices of it.
-/
import Derived.Test.YtogfoahejgmfgaaHr
namespace Go.Proofs.Ytogfoahejgmfgaa
open Go.RowKit
set_option linter.unusedVariables false

/-- The first k rows of a list that begins at a place of a block. -/
def rowsOf (b off N k : Nat) : List Value := (List.range k).map fun i => Value.slice (some ⟨b, off + N * i, none⟩) N N
theorem rowsOf_succ (b off N k : Nat) : rowsOf b off N (k + 1) = rowsOf b off N k ++ [Value.slice (some ⟨b, off + N * k, none⟩) N N] := by simp [rowsOf, List.range_succ]
theorem rowsOf_len (b off N k : Nat) : (rowsOf b off N k).length = k := by simp [rowsOf]
theorem rowsOf_get {b off N k i : Nat} (h : i < k) : (rowsOf b off N k)[i]? = some (Value.slice (some ⟨b, off + N * i, none⟩) N N) := by simp [rowsOf, h]
theorem info_rows : (Try.prog.info? 22).map (fun i => (i.zero, i.size, i.bytes)) = some (some (.slice none 0 0), 1, 24) := by kernel_rfl
/-- A list of rows of the call's own. -/
def NewRows (b off N : Nat) (W : World) (e : Ending) (W' : World) : Prop :=
  ∃ a c, e = .returned (.slice a N c) ∧ W'.ownsRow W.heap.size 22 1 (.slice a N c) N (rowsOf b off N N) ∧ Below W.heap.size W W'
theorem sqN {N k : Nat} (h : k < N) : N * k + N ≤ N * N := by
  have h1 : N * (k + 1) ≤ N * N := Nat.mul_le_mul_left N (by omega)
  rw [Nat.mul_succ] at h1
  exact h1
theorem sqN8 {N : Nat} (h : N ≤ 8) : N * N ≤ 64 := Nat.mul_le_mul h h

set_option maxRecDepth 100000 in
set_option maxHeartbeats 2000000 in
theorem hexRows_any (N b off L c : Nat) (hN1 : 1 ≤ N) (hN8 : N ≤ 8) (hL : L = N * N) (hc : L ≤ c) (W : World) :
    Calls Try.prog 105 #[.int .i64 N, .slice (some ⟨b, off, none⟩) L c] W (NewRows b off N W) := by
  obtain ⟨i1, hi0, hz0, hz1, hz2⟩ := info_parts info_rows
  have h64 := sqN8 hN8
  have hq : wrap64 ((N : Int) * (N : Int)) = (L : Int) := by
    have e : ((N : Int) * (N : Int)) = (L : Int) := by rw [hL]; push_cast; rfl
    rw [e]; unfold wrap64; omega
  have hqe : ((N : Int) * (N : Int)) = (L : Int) := by rw [hL]; push_cast; rfl
  have HL := hide hL
  have hL64 : L ≤ 64 := by omega
  clear hL h64
  have hO : Hid (W.ownsRow W.heap.size 22 1 (.slice none 0 0) 0 (rowsOf b off N 0)) := hide (World.ownsRow_nil _ _ _ _)
  go_enter Try.func105, Try.ntmps105
  go_wp2_with fail
  go_loopw [5, 6] (fun v i wr => ∃ (k s : Nat) (v0 : Value), v0 = v ∧ k ≤ N ∧ Hid (s = N * k) ∧ i = .int .i64 s ∧ Hid (wr.ownsRow W.heap.size 22 1 v k (rowsOf b off N k)) ∧ Below W.heap.size W wr) (fun _ i _ => L - (intOf i).toNat)
  case atStart => exact ⟨0, 0, _, rfl, Nat.zero_le _, by rw [Nat.mul_zero]; rfl, rfl, hO, Below.refl _ _⟩
  case round =>
    clear hO
    obtain ⟨k, s, v, rfl, hk, hs, rfl, hO, hB⟩ := hrel
    by_cases hlt : k < N
    · have hsl : s + N ≤ L := by rw [hs.out, HL.out]; exact sqN hlt
      have hown := hO.out
      have hsz := hB.size
      have HB := hide hB
      have hr := rowsOf_len b off N k
      clear hB
      go_wp2_with (at_builtin; refine wpList_append_own _ rfl _ _ 39 rfl (W.heap.size) 22 i1 (.slice none 0 0) 1 24 Try.underlying39 hi0 hz0 hz1 hz2 rfl (by decide) _ _ _ rfl (hown.alloc _) ⟨wr.heap.size, 0, none⟩ 1 1 [.slice (some ⟨b, off + s, none⟩) N N] rfl rfl (cell_one_new _ _ _) (by simp [Value.oneCell']) (by unfold maxLen; omega) (by omega) (by simp; omega) ?_)
      intro v' w5 hown' hgrow _
      have HO5 : Hid (w5.ownsRow W.heap.size 22 1 v' (k + 1) (rowsOf b off N (k + 1))) := hide (by rw [rowsOf_succ, ← hs.out]; exact hown')
      have HB5 : Hid (Below W.heap.size W w5) := hide ((HB.out.alloc hsz _).grown hgrow (by simp; omega) (fun j hj => (hown.lt j hj).1))
      clear hown' hgrow hown
      go_wp2_with fail
      go_roundw
      case rel => exact ⟨k + 1, s + N, _, rfl, by omega, by show s + N = N * (k + 1); rw [Nat.mul_succ, hs.out], by go_num, HO5, HB5.out⟩
      case measure => simp [intOf]; omega
    · obtain rfl : k = N := by omega
      have hsl : s = L := by rw [hs.out, HL.out]
      have HB := hide hB
      obtain ⟨a2, c2, rfl⟩ := own_form hO.out
      clear hB hs
      subst hsl
      go_wp2_with fail
      go_ret
      exact ⟨a2, c2, rfl, hO.out, HB.out⟩
end Go.Proofs.Ytogfoahejgmfgaa
