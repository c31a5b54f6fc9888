/-
  Lists of numbers: what MexOf and NimSumOf take; both texts of NimSumOf.
-/
import Derived.Test.YtailjbenichiaaaNums
namespace Go.Proofs.Ytailjbenichiaaa
open Go.RowKit

/-- at most 1000 numbers of at least 0 -/
def numsB (zs : List Int) : Bool := decide (zs.length ≤ 1000) && zs.all (fun z => decide (0 ≤ z))
theorem numsB_no {zs : List Int} {k : Nat} {z : Int} (hk : zs[k]? = some z) (h : z < 0) : numsB zs = false := by
  have : zs.all (fun z => decide (0 ≤ z)) = false := by
    rw [List.all_eq_false]
    refine ⟨z, List.mem_of_getElem? hk, ?_⟩
    simp; omega
  simp [numsB, this]
theorem numsB_all {zs : List Int} (h : ∀ j z, j < zs.length → zs[j]? = some z → 0 ≤ z) : numsB zs = decide (zs.length ≤ 1000) := by
  have : zs.all (fun z => decide (0 ≤ z)) = true := by
    rw [List.all_eq_true]
    intro z hz
    obtain ⟨j, hj, rfl⟩ := List.getElem_of_mem hz
    have := h j _ hj (List.getElem?_eq_getElem hj)
    simp; omega
  simp [numsB, this]
theorem numsB_len {zs : List Int} (h : 1000 < zs.length) : numsB zs = false := by
  simp [numsB]; omega
def Firsts (zs : List Int) (k : Nat) : Prop := ∀ j z, j < k → zs[j]? = some z → 0 ≤ z
theorem Firsts.succ {zs : List Int} {k : Nat} {z : Int} (h : Firsts zs k) (hz : zs[k]? = some z) (h0 : 0 ≤ z) : Firsts zs (k + 1) := by
  intro j y hj hy
  by_cases e : j = k
  · subst e; rw [hz] at hy; cases hy; exact h0
  · exact h j y (by omega) hy

set_option maxHeartbeats 400000 in
theorem l01Numbers_any (a : Option Addr) (c : Nat) (zs : List Int) (w : World) (ha : IntsAt w a zs) (hl : zs.length ≤ 1048576) :
    Calls Try.prog 107 #[.slice a zs.length c] w fun e w' => e = .returned (.bool (numsB zs)) ∧ Below w.heap.size w w' := by
  go_enter Try.func107, Try.ntmps107
  go_wp2
  go_loopw [3] (fun i wr => ∃ k : Nat, k ≤ zs.length ∧ i = .int .i64 k ∧ Firsts zs k ∧ Below w.heap.size w wr) (fun i _ => zs.length - (intOf i).toNat)
  case atStart => exact ⟨0, Nat.zero_le _, rfl, fun j _ hj _ => by omega, Below.refl _ _⟩
  case round =>
    obtain ⟨k, hk, rfl, hF, hB⟩ := hrel
    by_cases hlt : k < zs.length
    · obtain ⟨b1, o1, z, rfl, h1, hz⟩ := (ha.keep hB).one hlt
      clear ha
      by_cases hn : z < 0
      · go_wp2
        go_ret
        exact ⟨ret_bool (numsB_no hz.out (by omega)).symm, hB⟩
      · go_wp2
        go_roundw
        case rel => exact ⟨k + 1, by omega, by go_num, hF.succ hz.out (by omega), hB⟩
        case measure => simp [intOf]; omega
    · have HF : Hid (numsB zs = decide (zs.length ≤ 1000)) := numsB_all (fun j z hj => hF j z (by omega))
      go_wp2
      go_ret
      exact ⟨ret_bool (by rw [HF.out]; simp <;> omega), hB⟩

set_option maxHeartbeats 400000 in
theorem areNumbers_any (a : Option Addr) (c : Nat) (zs : List Int) (w : World) (ha : IntsAt w a zs) (hl : zs.length ≤ 1048576) :
    Calls Try.prog 109 #[.slice a zs.length c] w fun e w' => e = .returned (.bool (numsB zs)) ∧ Below w.heap.size w w' := by
  by_cases hbig : 1000 < zs.length
  · go_enter Try.func109, Try.ntmps109
    go_wp2
    go_ret
    exact ⟨ret_bool (numsB_len hbig).symm, Below.refl _ _⟩
  · go_enter Try.func109, Try.ntmps109
    go_wp2
    go_loopw [10] (fun i wr => ∃ k : Nat, k ≤ zs.length ∧ i = .int .i64 k ∧ Firsts zs k ∧ Below w.heap.size w wr) (fun i _ => zs.length - (intOf i).toNat)
    case atStart => exact ⟨0, Nat.zero_le _, rfl, fun j _ hj _ => by omega, Below.refl _ _⟩
    case round =>
      obtain ⟨k, hk, rfl, hF, hB⟩ := hrel
      by_cases hlt : k < zs.length
      · obtain ⟨b1, o1, z, rfl, h1, hz⟩ := (ha.keep hB).one hlt
        clear ha
        by_cases hn : z < 0
        · go_wp2
          go_ret
          exact ⟨ret_bool (numsB_no hz.out (by omega)).symm, hB⟩
        · go_wp2
          go_roundw
          case rel => exact ⟨k + 1, by omega, by go_num, hF.succ hz.out (by omega), hB⟩
          case measure => simp [intOf]; omega
      · have HF : Hid (numsB zs = decide (zs.length ≤ 1000)) := numsB_all (fun j z hj => hF j z (by omega))
        go_wp2
        go_ret
        exact ⟨ret_bool (by rw [HF.out]; simp; omega), hB⟩

/-- the nim sum of the first k -/
def nimTo (zs : List Int) (k : Nat) : Int := (zs.take k).foldl (fun s z => bits BinOp.xor IntKind.i64 s z) 0
theorem nimTo_succ {zs : List Int} {k : Nat} {z : Int} (h : zs[k]? = some z) : nimTo zs (k + 1) = bits BinOp.xor IntKind.i64 (nimTo zs k) z := by
  have hk : k < zs.length := (List.getElem?_eq_some_iff.1 h).1
  unfold nimTo
  rw [List.take_add_one, h, List.foldl_append]; rfl
def nimR (zs : List Int) : Int × Int := if numsB zs then (nimTo zs zs.length, 0) else (0, 2)

set_option maxHeartbeats 400000 in
theorem specNim_any (a : Option Addr) (c : Nat) (zs : List Int) (w : World) (ha : IntsAt w a zs) (hl : zs.length ≤ 1048576) :
    Calls Try.prog 61 #[.slice a zs.length c] w fun e w' => e = .returned (.tuple #[.int .i64 (nimR zs).1, .int .i64 (nimR zs).2]) ∧ Below w.heap.size w w' := by
  unfold nimR
  cases hn : numsB zs
  · go_enter Try.func61, Try.ntmps61
    go_wp2_with (go_at_call 107; refine (l01Numbers_any _ _ zs _ ha hl).mono ?_; rintro e w1 ⟨rfl, hB⟩)
    go_ret2
    exact ⟨rfl, hB⟩
  · go_enter Try.func61, Try.ntmps61
    go_wp2_with (go_at_call 107; refine (l01Numbers_any _ _ zs _ ha hl).mono ?_; rintro e w1 ⟨rfl, hB⟩)
    go_loopw [4, 5] (fun s i wr => ∃ k : Nat, s = .int .i64 (nimTo zs k) ∧ k ≤ zs.length ∧ i = .int .i64 k ∧ Below w.heap.size w wr) (fun _ i _ => zs.length - (intOf i).toNat)
    case atStart => exact ⟨0, rfl, Nat.zero_le _, rfl, hB⟩
    case round =>
      obtain ⟨k, rfl, hk, rfl, hB⟩ := hrel
      by_cases hlt : k < zs.length
      · obtain ⟨b1, o1, z, rfl, h1, hz⟩ := (ha.keep hB).one hlt
        go_wp2
        go_roundw
        case rel => exact ⟨k + 1, by rw [nimTo_succ hz.out], by omega, by go_num, hB⟩
        case measure => simp [intOf]; omega
      · obtain rfl : k = zs.length := by omega
        go_wp2
        go_ret2
        exact ⟨rfl, hB⟩

set_option maxHeartbeats 400000 in
theorem implNim_any (a : Option Addr) (c : Nat) (zs : List Int) (w : World) (ha : IntsAt w a zs) (hl : zs.length ≤ 1048576) :
    Calls Try.prog 62 #[.slice a zs.length c] w fun e w' => e = .returned (.tuple #[.int .i64 (nimR zs).1, .int .i64 (nimR zs).2]) ∧ Below w.heap.size w w' := by
  unfold nimR
  cases hn : numsB zs
  · go_enter Try.func62, Try.ntmps62
    go_wp2_with (go_at_call 109; refine (areNumbers_any _ _ zs _ ha hl).mono ?_; rintro e w1 ⟨rfl, hB⟩)
    go_ret2
    exact ⟨rfl, hB⟩
  · go_enter Try.func62, Try.ntmps62
    go_wp2_with (go_at_call 109; refine (areNumbers_any _ _ zs _ ha hl).mono ?_; rintro e w1 ⟨rfl, hB⟩)
    go_loopw [4, 12] (fun s i wr => ∃ k : Nat, s = .int .i64 (nimTo zs k) ∧ k ≤ zs.length ∧ i = .int .i64 k ∧ Below w.heap.size w wr) (fun _ i _ => zs.length - (intOf i).toNat)
    case atStart => exact ⟨0, rfl, Nat.zero_le _, rfl, hB⟩
    case round =>
      obtain ⟨k, rfl, hk, rfl, hB⟩ := hrel
      by_cases hlt : k < zs.length
      · obtain ⟨b1, o1, z, rfl, h1, hz⟩ := (ha.keep hB).one hlt
        go_wp2
        go_roundw
        case rel => exact ⟨k + 1, by rw [nimTo_succ hz.out], by omega, by go_num, hB⟩
        case measure => simp [intOf]; omega
      · obtain rfl : k = zs.length := by omega
        go_wp2
        go_ret2
        exact ⟨rfl, hB⟩

end Go.Proofs.Ytailjbenichiaaa
