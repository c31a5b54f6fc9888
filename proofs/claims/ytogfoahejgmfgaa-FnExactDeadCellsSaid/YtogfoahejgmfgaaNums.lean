/-
  The contracts of the laws' helpers on []int64 and of the functions on lists of numbers.
-/
import Derived.Test.YtogfoahejgmfgaaGen
namespace Go.Proofs.Ytogfoahejgmfgaa
open Go.RowKit

set_option maxHeartbeats 400000 in
/-- eqInt64S at two slices that read as one list: true; it only reads. -/
theorem eqInt64S_quiet (a b : Option Addr) (c d : Nat) (zs : List Int) (w : World) (ha : IntsAt w a zs) (hb : IntsAt w b zs) (hl : zs.length ≤ 1048576) :
    Calls Try.prog 19 #[.slice a zs.length c, .slice b zs.length d] w fun e w' => e = .returned (.bool true) ∧ ∃ m, w' = w.drewN m := by
  go_enter Try.func19, Try.ntmps19
  go_wp2
  go_loopw [5] (fun i wr => ∃ k : Nat, k ≤ zs.length ∧ i = .int .i64 k ∧ Hid (∃ m, wr = w.drewN m)) (fun i _ => zs.length - (intOf i).toNat)
  case atStart => exact ⟨0, Nat.zero_le _, rfl, 0, rfl⟩
  case round =>
    obtain ⟨k, hk, rfl, m, rfl⟩ := hrel
    by_cases hlt : k < zs.length
    · obtain ⟨b1, o1, rfl, hc1⟩ := ha.get hlt
      obtain ⟨b2, o2, rfl, hc2⟩ := hb.get hlt
      have h1 := hc1 k hlt
      have h2 := hc2 k hlt
      clear hc1 hc2 ha hb
      go_wp2
      go_quiet (fail)
      go_wp2
      go_roundw
      case rel => exact ⟨k + 1, by omega, by go_num, _, rfl⟩
      case measure => simp [intOf]; omega
    · go_wp2
      go_ret
      exact ⟨rfl, m, rfl⟩
theorem eqInt64S_same (a b : Option Addr) (c d : Nat) (zs : List Int) (w : World) (ha : IntsAt w a zs) (hb : IntsAt w b zs) (hl : zs.length ≤ 1048576) :
    Calls Try.prog 19 #[.slice a zs.length c, .slice b zs.length d] w fun e w' => e = .returned (.bool true) ∧ Below w.heap.size w w' :=
  (eqInt64S_quiet a b c d zs w ha hb hl).mono fun _ _ h => ⟨h.1, quiet_below h.2⟩

theorem ret_int {k : IntKind} {a b : Int} (h : a = b) : Ending.returned (.int k a) = .returned (.int k b) := by rw [h]
theorem ret_bool {a b : Bool} (h : a = b) : Ending.returned (.bool a) = .returned (.bool b) := by rw [h]

/-- The copy's row after k stores. -/
def copied (zs : List Int) (k : Nat) : Nat → Value := fun i => if i < k then .int .i64 (zs[i]?.getD 0) else .int .i64 0
theorem copied_set {w : World} {b : Nat} {t : TypeId} {zs : List Int} {k : Nat} {z : Int} (h : w.rowIs b t zs.length (copied zs k)) (hz : zs[k]? = some z) :
    (w.setCell ⟨b, k, none⟩ (.int .i64 z)).rowIs b t zs.length (copied zs (k + 1)) := by
  refine (h.set k (.int .i64 z)).congr ?_
  intro i _
  unfold copied
  by_cases e : i = k
  · subst e; simp [hz]
  · simp only [e, if_false]
    by_cases h1 : i < k
    · rw [if_pos h1, if_pos (by omega)]
    · rw [if_neg h1, if_neg (by omega)]

set_option maxHeartbeats 400000 in
theorem toInt64S_any (a : Option Addr) (c : Nat) (zs : List Int) (w : World) (ha : IntsAt w a zs) (hl : zs.length ≤ 1048576) :
    Calls Try.prog 46 #[.slice a zs.length c] w (NewInts zs w) := by
  have hmk := run_make_row' (P := Try.prog) 22 2 (.int .i64 0) 8 Try.underlying22 Try.info2 rfl .i64 .i64 zs.length (by omega) (by omega)
  have h0 := World.rowIs_made w (.int .i64 0) zs.length 2
  go_enter Try.func46, Try.ntmps46
  go_wp2
  go_loopw [4] (fun i wr => ∃ k : Nat, k ≤ zs.length ∧ i = .int .i64 k ∧ wr.rowIs w.heap.size 2 zs.length (copied zs k) ∧ Below w.heap.size w wr) (fun i _ => zs.length - (intOf i).toNat)
  case atStart => exact ⟨0, Nat.zero_le _, rfl, h0.congr (fun i _ => by simp [copied]), (Below.refl _ _).alloc (Nat.le_refl _) _⟩
  case round =>
    clear h0
    obtain ⟨k, hk, rfl, hr, hB⟩ := hrel
    by_cases hlt : k < zs.length
    · obtain ⟨b1, o1, z, rfl, h1, hz⟩ := (ha.keep hB).one hlt
      clear ha
      have hce := hr.cell hlt
      have hfr := hr.frozen k
      have hn := copied_set hr hz.out
      have hB' := hB.setCell (p := ⟨w.heap.size, k, none⟩) (Nat.le_refl _) (.int .i64 z)
      go_wp2
      go_roundw
      case rel => exact ⟨k + 1, by omega, by go_num, hn, hB'⟩
      case measure => simp [intOf]; omega
    · obtain rfl : k = zs.length := by omega
      have hfin : NewInts zs w (.returned (.slice (some ⟨w.heap.size, 0, none⟩) zs.length zs.length)) wr :=
        ⟨w.heap.size, zs.length, rfl, rowIs_owns hr (Nat.le_refl _) (by unfold maxLen; omega) (by simp) (fun i hi => by simp [copied, hi, intV]), hB⟩
      go_wp2
      go_ret
      exact hfin
end Go.Proofs.Ytogfoahejgmfgaa