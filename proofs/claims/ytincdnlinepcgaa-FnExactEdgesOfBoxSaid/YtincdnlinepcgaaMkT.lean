/-
  The laws' mark on a row of numbers in a block of whatever type (an array).
-/
import Derived.Test.YtincdnlinepcgaaMk
namespace Go.Proofs.Ytincdnlinepcgaa.MT
open Go.RowKit

/-- There is room for n numbers at 'a'. -/
def Room (w : World) (a : Option Addr) (n : Nat) : Prop := n = 0 ∨ ∃ b off cur t, a = some ⟨b, off, none⟩ ∧ w.heap[b]? = some (.cells cur t (0, 0)) ∧ off + n ≤ cur.size

def MarkPost (a : Option Addr) (n : Nat) (k : Int) (w : World) (e : Ending) (w' : World) : Prop :=
  e = .returned (.int .i64 (k + n)) ∧ (n = 0 ∧ w' = w ∨ ∃ b off cur cur' t, 0 < n ∧ a = some ⟨b, off, none⟩ ∧ w.heap[b]? = some (.cells cur t (0, 0)) ∧ w'.heap[b]? = some (.cells cur' t (0, 0)) ∧ InMarks k off cur cur' n ∧ Marked (· = b) w w')

set_option maxHeartbeats 400000 in
theorem markInt64S_any (a : Option Addr) (n c : Nat) (k : Int) (w : World) (hr : Room w a n) (hn : n ≤ 1048576) (hk0 : 0 ≤ k) (hk1 : k ≤ 4398046511104) :
    Calls Try.prog 21 #[.slice a n c, .int .i64 k] w (MarkPost a n k w) := by
  by_cases h0 : n = 0
  · subst h0
    have hfin : MarkPost a 0 k w (.returned (.int .i64 k)) w := ⟨by simp, .inl ⟨rfl, rfl⟩⟩
    go_enter Try.func21, Try.ntmps21
    go_wp2
    refine wp_loop_rounds 1 ?_
    rw [rounds_succ]
    go_wp2
    go_ret
    exact hfin
  · obtain ⟨b, off, cur, t, rfl, hb, hroom⟩ := hr.resolve_left h0
    go_enter Try.func21, Try.ntmps21
    go_wp2
    go_loopw [1, 5] (fun s i wr => ∃ (j : Nat) (cur' : Array Value), s = .int .i64 (k + j) ∧ j ≤ n ∧ i = .int .i64 j ∧ wr.heap[b]? = some (.cells cur' t (0, 0)) ∧ InMarks k off cur cur' j ∧ Marked (· = b) w wr) (fun _ i _ => n - (intOf i).toNat)
    case atStart => exact ⟨0, cur, by simp, Nat.zero_le _, rfl, hb, ⟨rfl, fun _ h => by omega, fun _ _ => rfl⟩, Marked.refl _ _⟩
    case round =>
      obtain ⟨j, cur', rfl, hj, rfl, hb', hI, hM⟩ := hrel
      by_cases hlt : j < n
      · obtain ⟨v, hcell⟩ : ∃ v, wr.cell? ⟨b, off + j, none⟩ = some v := by
          rw [cell_of_row wr b (off + j) cur' _ (0, 0) hb']
          have := hI.1
          exact ⟨_, Array.getElem?_eq_getElem (by omega)⟩
        have hfr : wr.frozen? ⟨b, off + j, none⟩ = false := frozen_of_row wr b (off + j) cur' _ hb'
        have hb2 := heap_setCell_same wr b (off + j) cur' _ (.int .i64 (k + j)) hb'
        have hI2 := hI.succ (by omega)
        have hM2 : Marked (· = b) w (wr.setCell ⟨b, off + j, none⟩ (.int .i64 (k + j))) := hM.trans (Marked.step (S := (· = b)) hb' rfl _)
        clear hb hb' hI hM hr
        go_wp2
        go_roundw
        case rel => exact ⟨j + 1, _, by go_num, by omega, by go_num, hb2, hI2, hM2⟩
        case measure => simp [intOf]; omega
      · obtain rfl : j = n := by omega
        have hfin : MarkPost (some ⟨b, off, none⟩) j k w (.returned (.int .i64 (k + j))) wr := ⟨rfl, .inr ⟨b, off, cur, cur', t, by omega, rfl, hb, hb', hI, hM⟩⟩
        clear hb hb' hI hM
        go_wp2
        go_ret
        exact hfin

end Go.Proofs.Ytincdnlinepcgaa.MT
