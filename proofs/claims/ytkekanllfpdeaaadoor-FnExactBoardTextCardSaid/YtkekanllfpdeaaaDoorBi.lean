/-
  Games of lines on points: the box of a board; IsBoard, both texts.
-/
import Derived.Test.YtkekanllfpdeaaaDoorBp
import Derived.Deep.LoopGhost
namespace Go.Proofs.YtkekanllfpdeaaaDoor
open Go.RowKit
set_option linter.unusedVariables false

/-- The box of a board, in whatever has come of its world. -/
def HexIn (W : World) (b : Nat) (n : Int) (a : Option Addr) (k c : Nat) : Prop := W.cell? ⟨b, 0, none⟩ = some (.int .i64 n) ∧ W.cell? ⟨b, 1, none⟩ = some (.slice a k c)
theorem hexIn_new (W : World) (n : Int) (a : Option Addr) (k c : Nat) (t : TypeId) : HexIn (W.alloc (.cells #[.int .i64 n, .slice a k c] t)) W.heap.size n a k c := by
  refine ⟨?_, ?_⟩ <;> simp [go_sem]
theorem HexIn.keep {W W' : World} {b : Nat} {n : Int} {a : Option Addr} {k c : Nat} (hx : HexIn W b n a k c) (hb : Below W.heap.size W W') : HexIn W' b n a k c := ⟨cell_keep hb hx.1, cell_keep hb hx.2⟩
theorem HexIn.below {B : Nat} {W W' : World} {b : Nat} {n : Int} {a : Option Addr} {k c : Nat} (hx : HexIn W b n a k c) (hb : Below B W W') (hB : b < B) : HexIn W' b n a k c := ⟨(hb.cell (p := ⟨b, 0, none⟩) hB).trans hx.1, (hb.cell (p := ⟨b, 1, none⟩) hB).trans hx.2⟩
theorem HexIn.past {W : World} {b : Nat} {n : Int} {a : Option Addr} {k c : Nat} (hx : HexIn W b n a k c) : (∀ p : Past W, p.to.cell? ⟨b, 0, none⟩ = some (.int .i64 n)) ∧ (∀ p : Past W, p.to.cell? ⟨b, 1, none⟩ = some (.slice a k c)) := ⟨fun p => p.cell hx.1, fun p => p.cell hx.2⟩
theorem HexIn.lt {W : World} {b : Nat} {n : Int} {a : Option Addr} {k c : Nat} (hx : HexIn W b n a k c) : b < W.heap.size := World.block_lt_of_cell? W _ hx.1

def inn (n lo hi : Int) : Bool := decide (lo ≤ n) && decide (n ≤ hi)
set_option maxHeartbeats 400000 in
theorem inn_any (n lo hi : Int) (W : World) : Calls Tryd.prog 110 #[.int .i64 n, .int .i64 lo, .int .i64 hi] W (RetB (.bool (inn n lo hi)) W) := by
  by_cases h1 : lo ≤ n
  · by_cases h2 : n ≤ hi
    · go_enter Tryd.func110, Tryd.ntmps110
      go_wp2
      go_ret
      exact ⟨ret_bool (by simp [inn, h1, h2]), Below.refl _ _⟩
    · go_enter Tryd.func110, Tryd.ntmps110
      go_wp2
      go_ret
      exact ⟨ret_bool (by simp [inn, h2]), Below.refl _ _⟩
  · go_enter Tryd.func110, Tryd.ntmps110
    go_wp2
    go_ret
    exact ⟨ret_bool (by simp [inn]; omega), Below.refl _ _⟩
theorem inn_is {b : Bool} (n lo hi : Int) (h : inn n lo hi = b) (W : World) : Calls Tryd.prog 110 #[.int .i64 n, .int .i64 lo, .int .i64 hi] W (RetB (.bool b) W) := by
  rw [← h]
  exact inn_any n lo hi W
theorem inn_yes {n lo hi : Int} (h : inn n lo hi = true) : lo ≤ n ∧ n ≤ hi := by simpa [inn] using h
theorem inn_no {n lo hi : Int} (h : inn n lo hi = false) : ¬ (lo ≤ n ∧ n ≤ hi) := by
  intro ⟨h1, h2⟩
  simp [inn, h1, h2] at h
theorem inn_mk {n lo hi : Int} (h1 : lo ≤ n) (h2 : n ≤ hi) : inn n lo hi = true := by simp [inn, h1, h2]


set_option maxHeartbeats 400000 in
theorem isAscendingIn_any (a : Option Addr) (c : Nat) (zs : List Int) (low high : Int) (w : World) (ha : IntsAt w a zs) (hl : zs.length ≤ 1048576) (h0 : 0 ≤ low) (hh : high ≤ 1048576) :
    Calls Tryd.prog 113 #[.slice a zs.length c, .int .i64 low, .int .i64 high] w fun e w' => e = .returned (.bool (ascB low high zs)) ∧ w = w' := by
  go_enter Tryd.func113, Tryd.ntmps113
  go_wp2
  go_loop [1, 11] (fun l i => ∃ (k : Nat) (m : Int), l = .int .i64 m ∧ k ≤ zs.length ∧ i = .int .i64 k ∧ 0 ≤ m ∧ Hid (ascB m high (zs.drop k) = ascB low high zs)) (fun _ i => zs.length - (intOf i).toNat)
  case atStart => exact ⟨0, low, rfl, Nat.zero_le _, rfl, h0, rfl⟩
  case round =>
    obtain ⟨k, m, rfl, hk, rfl, hm, hA⟩ := hrel
    by_cases hlt : k < zs.length
    · obtain ⟨b1, o1, z, rfl, h1, hz⟩ := ha.one hlt
      clear ha
      have hA' : Hid (ascB m high (z :: zs.drop (k + 1)) = ascB low high zs) := by have := hA.out; rw [drop_of_get hz.out] at this; exact this
      clear hA
      by_cases hlow : z < m
      · go_wp2
        go_ret
        exact ⟨ret_bool (by rw [← hA'.out, ascB_no (.inl (by omega))]), rfl⟩
      · by_cases hhi : high < z
        · go_wp2
          go_ret
          exact ⟨ret_bool (by rw [← hA'.out, ascB_no (.inr (by omega))]), rfl⟩
        · have hb1 : 0 ≤ z := by omega
          have hb2 : z ≤ 1048576 := by omega
          go_wp2
          go_round
          case rel => exact ⟨k + 1, _, rfl, by omega, by go_num, by omega, by rw [← hA'.out, ascB_go (by omega) (by omega)]; rfl⟩
          case measure => simp [intOf]; omega
    · obtain rfl : k = zs.length := by omega
      go_wp2
      go_ret
      refine ⟨ret_bool ?_, rfl⟩
      have := hA.out
      rw [List.drop_length] at this
      exact this


def setB (x : Int) (c : Nat) : Bool := decide (0 ≤ x) && decide (x < 2 ^ c)
theorem setB_yes {x : Int} {c : Nat} (h : setB x c = true) : 0 ≤ x ∧ x < 2 ^ c := by simpa [setB] using h
theorem setB_no {x : Int} {c : Nat} (h : setB x c = false) : ¬ (0 ≤ x ∧ x < 2 ^ c) := by
  intro ⟨h1, h2⟩
  simp [setB, h1, h2] at h

theorem pow_28 {k : Int} (hk : k.toNat ≤ 28) : (0 : Int) ≤ 2 ^ k.toNat ∧ (2 : Int) ^ k.toNat ≤ 268435456 := by
  refine ⟨Int.le_of_lt (Int.pow_pos (by decide)), ?_⟩
  have := pow_mono hk
  simpa using this
theorem shl_walkL {k : Int} (hk : k.toNat ≤ 28) : wrap64 ((2 : Int) ^ k.toNat) = 2 ^ k.toNat := by
  have := pow_28 hk
  unfold wrap64
  omega

set_option maxHeartbeats 400000 in
theorem isSet_any (x c : Int) (h0 : 0 ≤ c) (h1 : c ≤ 28) (W : World) : Calls Tryd.prog 220 #[.int .i64 x, .int .i64 c] W (RetB (.bool (setB x c.toNat)) W) := by
  have hs := shl_walkL (k := c) (by omega)
  by_cases h : 0 ≤ x
  · have hd : decide (0 ≤ x) = true := decide_eq_true h
    have hfin : Hid (setB x c.toNat = decide (x < 2 ^ c.toNat)) := hide (by simp [setB, h])
    go_enter Tryd.func220, Tryd.ntmps220
    go_wp2
    go_ret
    exact ⟨ret_bool hfin.out.symm, Below.refl _ _⟩
  · have hd : decide (0 ≤ x) = false := decide_eq_false h
    have hfin : Hid (setB x c.toNat = false) := hide (by simp [setB]; omega)
    go_enter Tryd.func220, Tryd.ntmps220
    go_wp2
    go_ret
    exact ⟨ret_bool hfin.out.symm, Below.refl _ _⟩
theorem isSet_is {b : Bool} (x c : Int) (h0 : 0 ≤ c) (h1 : c ≤ 28) (h : setB x c.toNat = b) (W : World) : Calls Tryd.prog 220 #[.int .i64 x, .int .i64 c] W (RetB (.bool b) W) := by
  rw [← h]; exact isSet_any x c h0 h1 W

theorem u64_small {k : Int} (h0 : 0 ≤ k) (h1 : k ≤ 64) : IntKind.u64.wrap k = k := by
  rw [IntKind.wrap_u64]
  omega

end Go.Proofs.YtkekanllfpdeaaaDoor
