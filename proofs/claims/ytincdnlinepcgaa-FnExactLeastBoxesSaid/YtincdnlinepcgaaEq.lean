/-
  The contracts of the laws' helpers on []int64 and of the functions on lists of numbers.
-/
import Derived.Test.YtincdnlinepcgaaGen
import Derived.Deep.RegionHeld3
namespace Go.Proofs.Ytincdnlinepcgaa
open Go.RowKit

set_option maxHeartbeats 400000 in
/-- eqInt64S at two slices that read as one list: true; it only reads. -/
theorem eqInt64S_quiet (a b : Option Addr) (c d : Nat) (zs : List Int) (w : World) (ha : IntsAt w a zs) (hb : IntsAt w b zs) (hl : zs.length ≤ 1048576) :
    Calls Try.prog 20 #[.slice a zs.length c, .slice b zs.length d] w fun e w' => e = .returned (.bool true) ∧ ∃ m, w' = w.drewN m := by
  go_enter Try.func20, Try.ntmps20
  go_wp2
  go_loopw [5] (fun i wr => ∃ k : Nat, k ≤ zs.length ∧ i = .int .i64 k ∧ Hid (∃ m, wr = w.drewN m)) (fun i _ => zs.length - (intOf i).toNat)
  case atStart => exact ⟨0, Nat.zero_le _, rfl, 0, rfl⟩
  case round =>
    obtain ⟨k, hk, rfl, m, rfl⟩ := hrel
    by_cases hlt : k < zs.length
    · obtain ⟨b1, o1, rfl, hc1⟩ := ha.get hlt
      obtain ⟨b2, o2, rfl, hc2⟩ := hb.get hlt
      have h1 := hc1 k hlt
      have h2 := hc2 k hlt
      clear hc1 hc2 ha hb
      go_wp2
      go_quiet (fail)
      go_wp2
      go_roundw
      case rel => exact ⟨k + 1, by omega, by go_num, _, rfl⟩
      case measure => simp [intOf]; omega
    · go_wp2
      go_ret
      exact ⟨rfl, m, rfl⟩
theorem eqInt64S_same (a b : Option Addr) (c d : Nat) (zs : List Int) (w : World) (ha : IntsAt w a zs) (hb : IntsAt w b zs) (hl : zs.length ≤ 1048576) :
    Calls Try.prog 20 #[.slice a zs.length c, .slice b zs.length d] w fun e w' => e = .returned (.bool true) ∧ Below w.heap.size w w' :=
  (eqInt64S_quiet a b c d zs w ha hb hl).mono fun _ _ h => ⟨h.1, quiet_below h.2⟩

theorem ret_int {k : IntKind} {a b : Int} (h : a = b) : Ending.returned (.int k a) = .returned (.int k b) := by rw [h]
theorem ret_bool {a b : Bool} (h : a = b) : Ending.returned (.bool a) = .returned (.bool b) := by rw [h]

theorem mem_of_get {α : Type} {l : List α} {k : Nat} {x : α} (h : l[k]? = some x) : x ∈ l := List.mem_of_getElem? h
theorem block_lt {w : World} {b : Nat} {o : Obj} (h : w.heap[b]? = some o) : b < w.heap.size := (Array.getElem?_eq_some_iff.1 h).1
end Go.Proofs.Ytincdnlinepcgaa
