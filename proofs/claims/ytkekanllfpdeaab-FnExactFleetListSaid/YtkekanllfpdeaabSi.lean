/-
  Seas: the box of a sea.
-/
import Derived.Test.YtkekanllfpdeaabDg
import Derived.Deep.LoopGhost
namespace Go.Proofs.Ytkekanllfpdeaab
open Go.RowKit
set_option linter.unusedVariables false

/-- The box of a sea, in whatever has come of its world. -/
def SeaIn (W : World) (b : Nat) (wd hi : Int) (a : Option Addr) (k c : Nat) : Prop := W.cell? ⟨b, 0, none⟩ = some (.int .i64 wd) ∧ W.cell? ⟨b, 1, none⟩ = some (.int .i64 hi) ∧ W.cell? ⟨b, 2, none⟩ = some (.slice a k c)
theorem seaIn_new (W : World) (wd hi : Int) (a : Option Addr) (k c : Nat) (t : TypeId) : SeaIn (W.alloc (.cells #[.int .i64 wd, .int .i64 hi, .slice a k c] t)) W.heap.size wd hi a k c := by
  refine ⟨?_, ?_, ?_⟩ <;> simp [go_sem]
theorem SeaIn.keep {W W' : World} {b : Nat} {wd hi : Int} {a : Option Addr} {k c : Nat} (hx : SeaIn W b wd hi a k c) (hb : Below W.heap.size W W') : SeaIn W' b wd hi a k c := ⟨cell_keep hb hx.1, cell_keep hb hx.2.1, cell_keep hb hx.2.2⟩
theorem SeaIn.below {B : Nat} {W W' : World} {b : Nat} {wd hi : Int} {a : Option Addr} {k c : Nat} (hx : SeaIn W b wd hi a k c) (hb : Below B W W') (hB : b < B) : SeaIn W' b wd hi a k c := ⟨(hb.cell (p := ⟨b, 0, none⟩) hB).trans hx.1, (hb.cell (p := ⟨b, 1, none⟩) hB).trans hx.2.1, (hb.cell (p := ⟨b, 2, none⟩) hB).trans hx.2.2⟩
theorem SeaIn.past {W : World} {b : Nat} {wd hi : Int} {a : Option Addr} {k c : Nat} (hx : SeaIn W b wd hi a k c) : (∀ p : Past W, p.to.cell? ⟨b, 0, none⟩ = some (.int .i64 wd)) ∧ (∀ p : Past W, p.to.cell? ⟨b, 1, none⟩ = some (.int .i64 hi)) ∧ (∀ p : Past W, p.to.cell? ⟨b, 2, none⟩ = some (.slice a k c)) := ⟨fun p => p.cell hx.1, fun p => p.cell hx.2.1, fun p => p.cell hx.2.2⟩
theorem SeaIn.lt {W : World} {b : Nat} {wd hi : Int} {a : Option Addr} {k c : Nat} (hx : SeaIn W b wd hi a k c) : b < W.heap.size := World.block_lt_of_cell? W _ hx.1
theorem sea_of_row {w : World} {b : Nat} {wd hi : Int} {a : Option Addr} {k c : Nat} {t : TypeId} (h : w.heap[b]? = some (.cells #[.int .i64 wd, .int .i64 hi, .slice a k c] t (0, 0))) : SeaIn w b wd hi a k c :=
  ⟨(cell_of_row _ _ 0 _ _ (0, 0) h).trans rfl, (cell_of_row _ _ 1 _ _ (0, 0) h).trans rfl, (cell_of_row _ _ 2 _ _ (0, 0) h).trans rfl⟩

def inn (n lo hi : Int) : Bool := decide (lo ≤ n) && decide (n ≤ hi)
set_option maxHeartbeats 400000 in
theorem inn_any (n lo hi : Int) (W : World) : Calls Try.prog 52 #[.int .i64 n, .int .i64 lo, .int .i64 hi] W (RetB (.bool (inn n lo hi)) W) := by
  by_cases h1 : lo ≤ n
  · by_cases h2 : n ≤ hi
    · go_enter Try.func52, Try.ntmps52
      go_wp2
      go_ret
      exact ⟨ret_bool (by simp [inn, h1, h2]), Below.refl _ _⟩
    · go_enter Try.func52, Try.ntmps52
      go_wp2
      go_ret
      exact ⟨ret_bool (by simp [inn, h2]), Below.refl _ _⟩
  · go_enter Try.func52, Try.ntmps52
    go_wp2
    go_ret
    exact ⟨ret_bool (by simp [inn]; omega), Below.refl _ _⟩
theorem inn_is {b : Bool} (n lo hi : Int) (h : inn n lo hi = b) (W : World) : Calls Try.prog 52 #[.int .i64 n, .int .i64 lo, .int .i64 hi] W (RetB (.bool b) W) := by
  rw [← h]
  exact inn_any n lo hi W
theorem inn_yes {n lo hi : Int} (h : inn n lo hi = true) : lo ≤ n ∧ n ≤ hi := by simpa [inn] using h
theorem inn_no {n lo hi : Int} (h : inn n lo hi = false) : ¬ (lo ≤ n ∧ n ≤ hi) := by
  intro ⟨h1, h2⟩
  simp [inn, h1, h2] at h
theorem inn_mk {n lo hi : Int} (h1 : lo ≤ n) (h2 : n ≤ hi) : inn n lo hi = true := by simp [inn, h1, h2]



theorem pow_28 {k : Int} (hk : k.toNat ≤ 28) : (0 : Int) ≤ 2 ^ k.toNat ∧ (2 : Int) ^ k.toNat ≤ 268435456 := by
  refine ⟨Int.le_of_lt (Int.pow_pos (by decide)), ?_⟩
  have := pow_mono hk
  simpa using this
theorem shl_walkL {k : Int} (hk : k.toNat ≤ 28) : wrap64 ((2 : Int) ^ k.toNat) = 2 ^ k.toNat := by
  have := pow_28 hk
  unfold wrap64
  omega

theorem u64_small {k : Int} (h0 : 0 ≤ k) (h1 : k ≤ 64) : IntKind.u64.wrap k = k := by
  rw [IntKind.wrap_u64]
  omega


end Go.Proofs.Ytkekanllfpdeaab
