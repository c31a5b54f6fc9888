/-
  The rules that count moves: slices.Min, slices.Max, movesBy and its function value.
-/
import Derived.Test.YtlgogpphlnogoaaSteps
import Derived.Test.YtlgogpphlnogoaaRuled
import Derived.Deep.RegionHeld3
namespace Go.Proofs.Ytlgogpphlnogoaa
open Go.RowKit Go.Shelf

set_option maxRecDepth 100000 in
set_option maxHeartbeats 1000000 in
theorem min_any (a : Option Addr) (c : Nat) (vs : List Int) (w : World) (ha : IntsAt w a vs) (hne : vs ≠ []) (hl : vs.length ≤ 40) :
    Calls Try.prog 55 #[.slice a vs.length c] w fun e w' => e = .returned (.int .i64 (minL vs)) ∧ Below w.heap.size w w' := by
  have hpos : 0 < vs.length := List.length_pos_iff.2 hne
  obtain ⟨b1, o1, z0, rfl, h1, hz0⟩ := ha.one hpos
  rw [Nat.add_zero] at h1
  have hE0 : Hid (z0 = minL (vs.take 1)) := by
    refine hide ?_
    have := hz0.out
    cases vs with
    | nil => exact absurd rfl hne
    | cons x r => simp at this; subst this; simp [minL]
  have HNE := hide hne
  clear hne hz0
  go_enter Try.func55, Try.ntmps55
  go_wp2
  go_loopw [3, 4] (fun s i wr => ∃ (k : Nat) (m : Int), 1 ≤ k ∧ k ≤ vs.length ∧ s = .int .i64 m ∧ i = .int .i64 k ∧ Hid (m = minL (vs.take k)) ∧ Below w.heap.size w wr) (fun _ i _ => vs.length - (intOf i).toNat)
  case atStart => exact ⟨1, z0, Nat.le_refl _, by omega, rfl, rfl, hE0, Below.refl _ _⟩
  case round =>
    obtain ⟨k, m, hk1, hk, rfl, rfl, hM, hB⟩ := hrel
    by_cases hlt : k < vs.length
    · obtain ⟨b2, o2, z, e2, h2, hz⟩ := (ha.keep hB).one hlt
      cases e2
      have hE : Hid (min m z = minL (vs.take (k + 1))) := by
        refine hide ?_
        rw [List.take_add_one, hz.out, hM.out]
        exact (minL_snoc (by intro e; have h := congrArg List.length e; rw [List.length_take, List.length_nil] at h; omega) z).symm
      clear ha h1 hM
      go_wp2
      all_goals
        go_roundw
        case rel => exact ⟨k + 1, _, by omega, by omega, rfl, by go_num, by first | exact hE | (have := hE.out; refine hide ?_; rw [← this]; omega), hB⟩
        case measure => simp [intOf]; omega
    · obtain rfl : k = vs.length := by omega
      have hfin : Hid (m = minL vs) := by
        refine hide ?_
        have := hM.out
        rw [List.take_length] at this
        exact this
      clear ha h1
      go_wp2
      go_ret
      exact ⟨ret_int hfin.out, hB⟩

set_option maxRecDepth 100000 in
set_option maxHeartbeats 1000000 in
theorem max_any (a : Option Addr) (c : Nat) (vs : List Int) (w : World) (ha : IntsAt w a vs) (hne : vs ≠ []) (hl : vs.length ≤ 40) :
    Calls Try.prog 58 #[.slice a vs.length c] w fun e w' => e = .returned (.int .i64 (maxL vs)) ∧ Below w.heap.size w w' := by
  have hpos : 0 < vs.length := List.length_pos_iff.2 hne
  obtain ⟨b1, o1, z0, rfl, h1, hz0⟩ := ha.one hpos
  rw [Nat.add_zero] at h1
  have hE0 : Hid (z0 = maxL (vs.take 1)) := by
    refine hide ?_
    have := hz0.out
    cases vs with
    | nil => exact absurd rfl hne
    | cons x r => simp at this; subst this; simp [maxL]
  have HNE := hide hne
  clear hne hz0
  go_enter Try.func58, Try.ntmps58
  go_wp2
  go_loopw [3, 4] (fun s i wr => ∃ (k : Nat) (m : Int), 1 ≤ k ∧ k ≤ vs.length ∧ s = .int .i64 m ∧ i = .int .i64 k ∧ Hid (m = maxL (vs.take k)) ∧ Below w.heap.size w wr) (fun _ i _ => vs.length - (intOf i).toNat)
  case atStart => exact ⟨1, z0, Nat.le_refl _, by omega, rfl, rfl, hE0, Below.refl _ _⟩
  case round =>
    obtain ⟨k, m, hk1, hk, rfl, rfl, hM, hB⟩ := hrel
    by_cases hlt : k < vs.length
    · obtain ⟨b2, o2, z, e2, h2, hz⟩ := (ha.keep hB).one hlt
      cases e2
      have hE : Hid (max m z = maxL (vs.take (k + 1))) := by
        refine hide ?_
        rw [List.take_add_one, hz.out, hM.out]
        exact (maxL_snoc (by intro e; have h := congrArg List.length e; rw [List.length_take, List.length_nil] at h; omega) z).symm
      clear ha h1 hM
      go_wp2
      all_goals
        go_roundw
        case rel => exact ⟨k + 1, _, by omega, by omega, rfl, by go_num, by first | exact hE | (have := hE.out; refine hide ?_; rw [← this]; omega), hB⟩
        case measure => simp [intOf]; omega
    · obtain rfl : k = vs.length := by omega
      have hfin : Hid (m = maxL vs) := by
        refine hide ?_
        have := hM.out
        rw [List.take_length] at this
        exact this
      clear ha h1
      go_wp2
      go_ret
      exact ⟨ret_int hfin.out, hB⟩

theorem movesBy_any (fk : Nat) (w : World) :
    Calls Try.prog 54 #[.func (.func fk) #[] #[]] w fun e w' => e = .returned (.func (.func 93) #[] #[.pointer (some ⟨w.heap.size, 0, none⟩)]) ∧ w.alloc (.cells #[.func (.func fk) #[] #[]] 63) = w' := by
  go_enter Try.func54, Try.ntmps54
  go_wp2
  go_ret
  exact ⟨rfl, rfl⟩

set_option maxRecDepth 100000 in
theorem fewRule_any (b : Nat) (a : Option Addr) (c : Nat) (vs : List Int) (w : World) (ha : IntsAt w a vs) (hl : vs.length ≤ 40) (hb : w.cell? ⟨b, 0, none⟩ = some (.func (.func 55) #[] #[])) :
    Calls Try.prog 93 #[.slice a vs.length c, .pointer (some ⟨b, 0, none⟩)] w fun e w' => e = .returned (.int .i64 (oneMoreW minL vs)) ∧ Below w.heap.size w w' := by
  by_cases h0 : vs = []
  · subst h0
    go_enter Try.func93, Try.ntmps93
    go_wp2
    go_ret
    exact ⟨rfl, Below.refl _ _⟩
  · have hv : oneMoreW minL vs = wrap64 (1 + minL vs) := by unfold oneMoreW; rw [if_neg h0]
    have hne : ((vs.length : Int) == 0) = false := by simp; exact h0
    have HNE := hide h0
    rw [hv]
    clear hv h0
    go_enter Try.func93, Try.ntmps93
    go_wp2_with fail
    refine (min_any _ _ vs _ ha HNE.out hl).mono ?_
    rintro e w1 ⟨rfl, hB1⟩
    go_wp2_with fail
    go_ret
    exact ⟨rfl, hB1⟩

set_option maxRecDepth 100000 in
theorem mostRule_any (b : Nat) (a : Option Addr) (c : Nat) (vs : List Int) (w : World) (ha : IntsAt w a vs) (hl : vs.length ≤ 40) (hb : w.cell? ⟨b, 0, none⟩ = some (.func (.func 58) #[] #[])) :
    Calls Try.prog 93 #[.slice a vs.length c, .pointer (some ⟨b, 0, none⟩)] w fun e w' => e = .returned (.int .i64 (oneMoreW maxL vs)) ∧ Below w.heap.size w w' := by
  by_cases h0 : vs = []
  · subst h0
    go_enter Try.func93, Try.ntmps93
    go_wp2
    go_ret
    exact ⟨rfl, Below.refl _ _⟩
  · have hv : oneMoreW maxL vs = wrap64 (1 + maxL vs) := by unfold oneMoreW; rw [if_neg h0]
    have hne : ((vs.length : Int) == 0) = false := by simp; exact h0
    have HNE := hide h0
    rw [hv]
    clear hv h0
    go_enter Try.func93, Try.ntmps93
    go_wp2_with fail
    refine (max_any _ _ vs _ ha HNE.out hl).mono ?_
    rintro e w1 ⟨rfl, hB1⟩
    go_wp2_with fail
    go_ret
    exact ⟨rfl, hB1⟩
end Go.Proofs.Ytlgogpphlnogoaa
