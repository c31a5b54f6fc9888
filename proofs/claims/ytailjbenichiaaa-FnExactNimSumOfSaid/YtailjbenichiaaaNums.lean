/-
  The contracts of the laws' helpers on []int64 and of the functions on lists of numbers.
-/
import Derived.Test.YtailjbenichiaaaGen
namespace Go.Proofs.Ytailjbenichiaaa
open Go.RowKit

set_option maxHeartbeats 400000 in
/-- eqInt64S at two slices that read as one list: true; it only reads. -/
theorem eqInt64S_quiet (a b : Option Addr) (c d : Nat) (zs : List Int) (w : World) (ha : IntsAt w a zs) (hb : IntsAt w b zs) (hl : zs.length ≤ 1048576) :
    Calls Try.prog 48 #[.slice a zs.length c, .slice b zs.length d] w fun e w' => e = .returned (.bool true) ∧ ∃ m, w' = w.drewN m := by
  go_enter Try.func48, Try.ntmps48
  go_wp2
  go_loopw [5] (fun i wr => ∃ k : Nat, k ≤ zs.length ∧ i = .int .i64 k ∧ Hid (∃ m, wr = w.drewN m)) (fun i _ => zs.length - (intOf i).toNat)
  case atStart => exact ⟨0, Nat.zero_le _, rfl, 0, rfl⟩
  case round =>
    obtain ⟨k, hk, rfl, m, rfl⟩ := hrel
    by_cases hlt : k < zs.length
    · obtain ⟨b1, o1, rfl, hc1⟩ := ha.get hlt
      obtain ⟨b2, o2, rfl, hc2⟩ := hb.get hlt
      have h1 := hc1 k hlt
      have h2 := hc2 k hlt
      clear hc1 hc2 ha hb
      go_wp2
      go_quiet (fail)
      go_wp2
      go_roundw
      case rel => exact ⟨k + 1, by omega, by go_num, _, rfl⟩
      case measure => simp [intOf]; omega
    · go_wp2
      go_ret
      exact ⟨rfl, m, rfl⟩
theorem eqInt64S_same (a b : Option Addr) (c d : Nat) (zs : List Int) (w : World) (ha : IntsAt w a zs) (hb : IntsAt w b zs) (hl : zs.length ≤ 1048576) :
    Calls Try.prog 48 #[.slice a zs.length c, .slice b zs.length d] w fun e w' => e = .returned (.bool true) ∧ Below w.heap.size w w' :=
  (eqInt64S_quiet a b c d zs w ha hb hl).mono fun _ _ h => ⟨h.1, quiet_below h.2⟩

theorem ret_int {k : IntKind} {a b : Int} (h : a = b) : Ending.returned (.int k a) = .returned (.int k b) := by rw [h]
theorem ret_bool {a b : Bool} (h : a = b) : Ending.returned (.bool a) = .returned (.bool b) := by rw [h]

/-- at most 1000 numbers of at least 0 -/
def numsB (zs : List Int) : Bool := decide (zs.length ≤ 1000) && zs.all (fun z => decide (0 ≤ z))
theorem numsB_no {zs : List Int} {k : Nat} {z : Int} (hk : zs[k]? = some z) (h : z < 0) : numsB zs = false := by
  have : zs.all (fun z => decide (0 ≤ z)) = false := by
    rw [List.all_eq_false]
    refine ⟨z, List.mem_of_getElem? hk, ?_⟩
    simp; omega
  simp [numsB, this]
theorem numsB_all {zs : List Int} (h : ∀ j z, j < zs.length → zs[j]? = some z → 0 ≤ z) : numsB zs = decide (zs.length ≤ 1000) := by
  have : zs.all (fun z => decide (0 ≤ z)) = true := by
    rw [List.all_eq_true]
    intro z hz
    obtain ⟨j, hj, rfl⟩ := List.getElem_of_mem hz
    have := h j _ hj (List.getElem?_eq_getElem hj)
    simp; omega
  simp [numsB, this]
theorem numsB_len {zs : List Int} (h : 1000 < zs.length) : numsB zs = false := by
  simp [numsB]; omega
def Firsts (zs : List Int) (k : Nat) : Prop := ∀ j z, j < k → zs[j]? = some z → 0 ≤ z
theorem Firsts.succ {zs : List Int} {k : Nat} {z : Int} (h : Firsts zs k) (hz : zs[k]? = some z) (h0 : 0 ≤ z) : Firsts zs (k + 1) := by
  intro j y hj hy
  by_cases e : j = k
  · subst e; rw [hz] at hy; cases hy; exact h0
  · exact h j y (by omega) hy

set_option maxHeartbeats 400000 in
theorem l01Numbers_any (a : Option Addr) (c : Nat) (zs : List Int) (w : World) (ha : IntsAt w a zs) (hl : zs.length ≤ 1048576) :
    Calls Try.prog 107 #[.slice a zs.length c] w fun e w' => e = .returned (.bool (numsB zs)) ∧ Below w.heap.size w w' := by
  go_enter Try.func107, Try.ntmps107
  go_wp2
  go_loopw [3] (fun i wr => ∃ k : Nat, k ≤ zs.length ∧ i = .int .i64 k ∧ Firsts zs k ∧ Below w.heap.size w wr) (fun i _ => zs.length - (intOf i).toNat)
  case atStart => exact ⟨0, Nat.zero_le _, rfl, fun j _ hj _ => by omega, Below.refl _ _⟩
  case round =>
    obtain ⟨k, hk, rfl, hF, hB⟩ := hrel
    by_cases hlt : k < zs.length
    · obtain ⟨b1, o1, z, rfl, h1, hz⟩ := (ha.keep hB).one hlt
      clear ha
      by_cases hn : z < 0
      · go_wp2
        go_ret
        exact ⟨ret_bool (numsB_no hz.out (by omega)).symm, hB⟩
      · go_wp2
        go_roundw
        case rel => exact ⟨k + 1, by omega, by go_num, hF.succ hz.out (by omega), hB⟩
        case measure => simp [intOf]; omega
    · have HF : Hid (numsB zs = decide (zs.length ≤ 1000)) := numsB_all (fun j z hj => hF j z (by omega))
      go_wp2
      go_ret
      exact ⟨ret_bool (by rw [HF.out]; simp <;> omega), hB⟩

set_option maxHeartbeats 400000 in
theorem areNumbers_any (a : Option Addr) (c : Nat) (zs : List Int) (w : World) (ha : IntsAt w a zs) (hl : zs.length ≤ 1048576) :
    Calls Try.prog 109 #[.slice a zs.length c] w fun e w' => e = .returned (.bool (numsB zs)) ∧ Below w.heap.size w w' := by
  by_cases hbig : 1000 < zs.length
  · go_enter Try.func109, Try.ntmps109
    go_wp2
    go_ret
    exact ⟨ret_bool (numsB_len hbig).symm, Below.refl _ _⟩
  · go_enter Try.func109, Try.ntmps109
    go_wp2
    go_loopw [10] (fun i wr => ∃ k : Nat, k ≤ zs.length ∧ i = .int .i64 k ∧ Firsts zs k ∧ Below w.heap.size w wr) (fun i _ => zs.length - (intOf i).toNat)
    case atStart => exact ⟨0, Nat.zero_le _, rfl, fun j _ hj _ => by omega, Below.refl _ _⟩
    case round =>
      obtain ⟨k, hk, rfl, hF, hB⟩ := hrel
      by_cases hlt : k < zs.length
      · obtain ⟨b1, o1, z, rfl, h1, hz⟩ := (ha.keep hB).one hlt
        clear ha
        by_cases hn : z < 0
        · go_wp2
          go_ret
          exact ⟨ret_bool (numsB_no hz.out (by omega)).symm, hB⟩
        · go_wp2
          go_roundw
          case rel => exact ⟨k + 1, by omega, by go_num, hF.succ hz.out (by omega), hB⟩
          case measure => simp [intOf]; omega
      · have HF : Hid (numsB zs = decide (zs.length ≤ 1000)) := numsB_all (fun j z hj => hF j z (by omega))
        go_wp2
        go_ret
        exact ⟨ret_bool (by rw [HF.out]; simp; omega), hB⟩

/-- the nim sum of the first k -/
def nimTo (zs : List Int) (k : Nat) : Int := (zs.take k).foldl (fun s z => bits BinOp.xor IntKind.i64 s z) 0
theorem nimTo_succ {zs : List Int} {k : Nat} {z : Int} (h : zs[k]? = some z) : nimTo zs (k + 1) = bits BinOp.xor IntKind.i64 (nimTo zs k) z := by
  have hk : k < zs.length := (List.getElem?_eq_some_iff.1 h).1
  unfold nimTo
  rw [List.take_add_one, h, List.foldl_append]; rfl
def nimR (zs : List Int) : Int × Int := if numsB zs then (nimTo zs zs.length, 0) else (0, 2)

set_option maxHeartbeats 400000 in
theorem specNim_any (a : Option Addr) (c : Nat) (zs : List Int) (w : World) (ha : IntsAt w a zs) (hl : zs.length ≤ 1048576) :
    Calls Try.prog 61 #[.slice a zs.length c] w fun e w' => e = .returned (.tuple #[.int .i64 (nimR zs).1, .int .i64 (nimR zs).2]) ∧ Below w.heap.size w w' := by
  unfold nimR
  cases hn : numsB zs
  · go_enter Try.func61, Try.ntmps61
    go_wp2_with (go_at_call 107; refine (l01Numbers_any _ _ zs _ ha hl).mono ?_; rintro e w1 ⟨rfl, hB⟩)
    go_ret2
    exact ⟨rfl, hB⟩
  · go_enter Try.func61, Try.ntmps61
    go_wp2_with (go_at_call 107; refine (l01Numbers_any _ _ zs _ ha hl).mono ?_; rintro e w1 ⟨rfl, hB⟩)
    go_loopw [4, 5] (fun s i wr => ∃ k : Nat, s = .int .i64 (nimTo zs k) ∧ k ≤ zs.length ∧ i = .int .i64 k ∧ Below w.heap.size w wr) (fun _ i _ => zs.length - (intOf i).toNat)
    case atStart => exact ⟨0, rfl, Nat.zero_le _, rfl, hB⟩
    case round =>
      obtain ⟨k, rfl, hk, rfl, hB⟩ := hrel
      by_cases hlt : k < zs.length
      · obtain ⟨b1, o1, z, rfl, h1, hz⟩ := (ha.keep hB).one hlt
        go_wp2
        go_roundw
        case rel => exact ⟨k + 1, by rw [nimTo_succ hz.out], by omega, by go_num, hB⟩
        case measure => simp [intOf]; omega
      · obtain rfl : k = zs.length := by omega
        go_wp2
        go_ret2
        exact ⟨rfl, hB⟩

set_option maxHeartbeats 400000 in
theorem implNim_any (a : Option Addr) (c : Nat) (zs : List Int) (w : World) (ha : IntsAt w a zs) (hl : zs.length ≤ 1048576) :
    Calls Try.prog 62 #[.slice a zs.length c] w fun e w' => e = .returned (.tuple #[.int .i64 (nimR zs).1, .int .i64 (nimR zs).2]) ∧ Below w.heap.size w w' := by
  unfold nimR
  cases hn : numsB zs
  · go_enter Try.func62, Try.ntmps62
    go_wp2_with (go_at_call 109; refine (areNumbers_any _ _ zs _ ha hl).mono ?_; rintro e w1 ⟨rfl, hB⟩)
    go_ret2
    exact ⟨rfl, hB⟩
  · go_enter Try.func62, Try.ntmps62
    go_wp2_with (go_at_call 109; refine (areNumbers_any _ _ zs _ ha hl).mono ?_; rintro e w1 ⟨rfl, hB⟩)
    go_loopw [4, 12] (fun s i wr => ∃ k : Nat, s = .int .i64 (nimTo zs k) ∧ k ≤ zs.length ∧ i = .int .i64 k ∧ Below w.heap.size w wr) (fun _ i _ => zs.length - (intOf i).toNat)
    case atStart => exact ⟨0, rfl, Nat.zero_le _, rfl, hB⟩
    case round =>
      obtain ⟨k, rfl, hk, rfl, hB⟩ := hrel
      by_cases hlt : k < zs.length
      · obtain ⟨b1, o1, z, rfl, h1, hz⟩ := (ha.keep hB).one hlt
        go_wp2
        go_roundw
        case rel => exact ⟨k + 1, by rw [nimTo_succ hz.out], by omega, by go_num, hB⟩
        case measure => simp [intOf]; omega
      · obtain rfl : k = zs.length := by omega
        go_wp2
        go_ret2
        exact ⟨rfl, hB⟩

/-- The copy's row after k stores. -/
def copied (zs : List Int) (k : Nat) : Nat → Value := fun i => if i < k then .int .i64 (zs[i]?.getD 0) else .int .i64 0
theorem copied_set {w : World} {b : Nat} {t : TypeId} {zs : List Int} {k : Nat} {z : Int} (h : w.rowIs b t zs.length (copied zs k)) (hz : zs[k]? = some z) :
    (w.setCell ⟨b, k, none⟩ (.int .i64 z)).rowIs b t zs.length (copied zs (k + 1)) := by
  refine (h.set k (.int .i64 z)).congr ?_
  intro i _
  unfold copied
  by_cases e : i = k
  · subst e; simp [hz]
  · simp only [e, if_false]
    by_cases h1 : i < k
    · rw [if_pos h1, if_pos (by omega)]
    · rw [if_neg h1, if_neg (by omega)]

set_option maxHeartbeats 400000 in
theorem toInt64S_any (a : Option Addr) (c : Nat) (zs : List Int) (w : World) (ha : IntsAt w a zs) (hl : zs.length ≤ 1048576) :
    Calls Try.prog 59 #[.slice a zs.length c] w (NewInts zs w) := by
  have hmk := run_make_row' (P := Try.prog) 29 2 (.int .i64 0) 8 Try.underlying29 Try.info2 rfl .i64 .i64 zs.length (by omega) (by omega)
  have h0 := World.rowIs_made w (.int .i64 0) zs.length 2
  go_enter Try.func59, Try.ntmps59
  go_wp2
  go_loopw [4] (fun i wr => ∃ k : Nat, k ≤ zs.length ∧ i = .int .i64 k ∧ wr.rowIs w.heap.size 2 zs.length (copied zs k) ∧ Below w.heap.size w wr) (fun i _ => zs.length - (intOf i).toNat)
  case atStart => exact ⟨0, Nat.zero_le _, rfl, h0.congr (fun i _ => by simp [copied]), (Below.refl _ _).alloc (Nat.le_refl _) _⟩
  case round =>
    clear h0
    obtain ⟨k, hk, rfl, hr, hB⟩ := hrel
    by_cases hlt : k < zs.length
    · obtain ⟨b1, o1, z, rfl, h1, hz⟩ := (ha.keep hB).one hlt
      clear ha
      have hce := hr.cell hlt
      have hfr := hr.frozen k
      have hn := copied_set hr hz.out
      have hB' := hB.setCell (p := ⟨w.heap.size, k, none⟩) (Nat.le_refl _) (.int .i64 z)
      go_wp2
      go_roundw
      case rel => exact ⟨k + 1, by omega, by go_num, hn, hB'⟩
      case measure => simp [intOf]; omega
    · obtain rfl : k = zs.length := by omega
      have hfin : NewInts zs w (.returned (.slice (some ⟨w.heap.size, 0, none⟩) zs.length zs.length)) wr :=
        ⟨w.heap.size, zs.length, rfl, rowIs_owns hr (Nat.le_refl _) (by unfold maxLen; omega) (by simp) (fun i hi => by simp [copied, hi, intV]), hB⟩
      go_wp2
      go_ret
      exact hfin
end Go.Proofs.Ytailjbenichiaaa