/-
  nodesOf by its lowest digits: TrailingZeros64 over the library's table, which is there as its initialiser lays it.
-/
import Derived.Test.YtkekanllfpdeaaaDoorTz0
import Derived.Test.YtkekanllfpdeaaaDoorBa
import Derived.Shelf.Spec.TrailingZeros
namespace Go.Proofs.YtkekanllfpdeaaaDoor
open Go.RowKit
set_option linter.unusedVariables false

/-- The library's table of 64 numbers lies in its variable. -/
def TzTab (w : World) : Prop := ∀ j, j < 64 → w.cell? ⟨0, j, none⟩ = some (.int .u8 (Lib.deBruijn64tab.getD j 0))
theorem TzTab.keep {w w' : World} (h : TzTab w) (hb : Below w.heap.size w w') : TzTab w' := fun j hj => by
  have := h j hj
  rw [hb.cell (p := ⟨0, j, none⟩) (World.block_lt_of_cell? w _ this)]
  exact this

theorem TzTab.lt {w : World} (h : TzTab w) : 0 < w.heap.size := World.block_lt_of_cell? w _ (h 0 (by omega))
theorem TzTab.turn {w w' : World} (h : TzTab w) (hb : w'.heap[0]? = w.heap[0]?) : TzTab w' := fun j hj => (World.cell?_of_block hb).trans (h j hj)

set_option maxRecDepth 100000 in
set_option maxHeartbeats 1000000 in
theorem tz_core (x k idx : Nat) (W : World) (hx0 : ((x : Int) == 0) = false)
    (key : IntKind.u64.wrap (bits BinOp.and IntKind.u64 (x : Int) (IntKind.u64.wrap (-(x : Int))) * 285870213051353865) / 288230376151711744 = (idx : Int))
    (hi : idx < 64) (hk : k < 64) (hcell : W.cell? ⟨0, idx, none⟩ = some (.int .u8 k)) :
    Calls Tryd.prog 114 #[.int .u64 (x : Int)] W fun e w' => e = .returned (.int .i64 k) ∧ W = w' := by
  go_enter Tryd.func114, Tryd.ntmps114
  go_wp2_with (simp only [key])
  go_ret
  exact ⟨rfl, rfl⟩

theorem tz_any (x : Nat) (h0 : x ≠ 0) (hx : x < 18446744073709551616) (W : World) (hT : TzTab W) :
    Calls Tryd.prog 114 #[.int .u64 (x : Int)] W fun e w' => e = .returned (.int .i64 (Lib.ctz 64 x)) ∧ W = w' := by
  obtain ⟨hlow, hk⟩ := Lib.lowest_bit 64 x h0 hx
  obtain ⟨hi, htab⟩ := Lib.deBruijn64_at _ hk
  have hcell := hT _ hi
  rw [htab] at hcell
  exact tz_core x _ _ W (by simp; omega) (tz64_key x _ hx h0 hlow) hi hk hcell

theorem wraps_u64 (n : Int) (h0 : 0 ≤ n) (h1 : n < 2 ^ 64) : IntKind.u64.wrap n = n := by rw [IntKind.wrap_u64]; omega
theorem and_u64 (a b : Nat) (ha : a < 2 ^ 64) (hb : b < 2 ^ 64) : bits BinOp.and IntKind.u64 (a : Int) (b : Int) = ((a &&& b : Nat) : Int) := (bits_nat .u64 64 (by decide) wraps_u64 a b ha hb).1

set_option maxRecDepth 100000 in
set_option maxHeartbeats 1000000 in
theorem nodesOf_gen (K : Nat) (x : Int) (hK : K ≤ 48) (h0 : 0 ≤ x) (h1 : x < 2 ^ K) (W : World) (hT : TzTab W) : Calls Tryd.prog 60 #[.int .i64 x] W (NewL (pre (drawn x) K) W) := by
  obtain ⟨i0, hi0, hz0, hz1, hz2⟩ := info_parts Tryd.info2
  obtain ⟨n, rfl⟩ := Int.eq_ofNat_of_zero_le h0
  have hn : n < 2 ^ K := by exact_mod_cast h1
  have h48 : n < 281474976710656 := Nat.lt_of_lt_of_le hn (Nat.pow_le_pow_right (by omega) hK)
  rw [← lowL_pre hn (by omega)]
  obtain ⟨R, hR⟩ : ∃ R, R = lowL 0 64 n := ⟨_, rfl⟩
  have HR : Hid (R = [] ++ lowL 0 64 n) := hide hR
  rw [← hR]
  have hO : Hid (Owns W.heap.size W W (.slice none 0 0) []) := hide (Owns.nil (Below.refl _ _) (Nat.le_refl _))
  have hu : IntKind.u64.wrap (n : Int) = (n : Int) := wraps_u64 _ (by omega) (by omega)
  have HT := hide hT
  clear hR hn h1 h0 hK hT
  go_enter Tryd.func60, Tryd.ntmps60
  go_wp2_with fail
  go_loopw [3, 4] (fun v t wr => ∃ (y : Nat) (zs : List Int) (v0 : Value), v0 = v ∧ y < 281474976710656 ∧ t = .int .u64 y ∧ Hid (R = zs ++ lowL 0 64 y) ∧ zs.length + (lowL 0 64 y).length ≤ 64 ∧ Owns W.heap.size W wr v zs) (fun _ t _ => (intOf t).toNat)
  case atStart => exact ⟨n, [], _, rfl, h48, rfl, HR, by simpa using lowL_len 64 0 n, hO.out⟩
  case round =>
    clear hO HR hu
    obtain ⟨y, zs, v, rfl, hy48, rfl, hRy, hlen, hO⟩ := hrel
    by_cases hy : y = 0
    · subst hy
      have hRz : Hid (R = zs) := hide (by rw [hRy.out, lowL_zero, List.append_nil])
      have HL := hide (hO.list (Below.refl _ _) (Nat.le_refl _))
      rw [← hRz.out] at HL
      clear hO hRy hRz hlen
      go_wp2_with fail
      go_ret
      exact HL.out
    · have hne : ((y : Int) != 0) = true := by simp; omega
      have hpop := lowL_pop 64 0 y (by omega) (by omega)
      have hce : Lib.ctz 64 y = Lib.ctzFrom 64 y := by simp [Lib.ctz, hy]
      have HC := hide (tz_any y hy (by omega) wr (HT.out.keep hO.old))
      have hc64 := (Lib.lowest_bit 64 y hy (by omega)).2
      obtain ⟨c, hc⟩ : ∃ c, c = Lib.ctz 64 y := ⟨_, rfl⟩
      rw [← hc] at HC hc64
      rw [Nat.zero_add, ← hce, ← hc] at hpop
      have hand := and_u64 y (y - 1) (by omega) (by omega)
      have hle : y &&& (y - 1) ≤ y - 1 := Nat.and_le_right
      obtain ⟨d, hd⟩ : ∃ d, d = y &&& (y - 1) := ⟨_, rfl⟩
      rw [← hd] at hand hpop hle
      rw [show ((y - 1 : Nat) : Int) = (y : Int) - 1 by omega] at hand
      have hw : IntKind.u64.wrap ((y : Int) - 1) = (y : Int) - 1 := wraps_u64 _ (by omega) (by omega)
      have HRn : Hid (R = (zs ++ [(c : Int)]) ++ lowL 0 64 d) := hide (by rw [hRy.out, hpop]; simp)
      have hlen2 : (zs ++ [(c : Int)]).length + (lowL 0 64 d).length ≤ 64 := by rw [hpop] at hlen; simp at hlen ⊢; omega
      have HO := hide hO
      have hown := hO.own
      have hsz := hO.size
      have hzl : zs.length ≤ 64 := by omega
      have HLN := hide hlen2
      clear hO hRy hlen hpop hce hc hd hlen2
      go_wp2_with fail
      refine HC.out.mono ?_
      rintro e w1 ⟨rfl, rfl⟩
      go_wp2_with (at_builtin; refine wpList_append_own _ rfl _ _ 22 rfl (W.heap.size) 2 i0 (.int .i64 0) 1 8 Tryd.underlying22 hi0 hz0 hz1 hz2 rfl (by decide) _ _ _ rfl (hown.alloc _) ⟨wr.heap.size, 0, none⟩ 1 1 [.int .i64 c] rfl rfl (cell_one_new _ _ _) (by simp [Value.oneCell']) (by unfold maxLen; omega) (by omega) (by simp; omega) ?_)
      intro v' w5 hown' hgrow _
      have HO5 := hide (HO.out.snoc (by simpa using hown') hgrow)
      clear hown' hgrow hown
      go_wp2_with fail
      go_roundw
      case rel => exact ⟨d, _, _, rfl, by omega, rfl, HRn, HLN.out, HO5.out⟩
      case measure => simp [intOf]; omega

def nodesL (x : Int) : List Int := pre (drawn x) 16
theorem nodesL_len (x : Int) : ((nodesL x).length : Int) = ones x := onesK_pre x 16
theorem nodesL_le (x : Int) : (nodesL x).length ≤ 16 := pre_le _ _
theorem nodesOf_any (x : Int) (h0 : 0 ≤ x) (h1 : x < 65536) (W : World) (hT : TzTab W) : Calls Tryd.prog 60 #[.int .i64 x] W (NewL (nodesL x) W) := nodesOf_gen 16 x (by omega) h0 (by omega) W hT
end Go.Proofs.YtkekanllfpdeaaaDoor
