/-
  The laws' helpers on []bool: eqBoolS, markBoolS, heldBoolS.
-/
import Derived.Test.YtailjbenichiaaaMarks
import Derived.Test.YtailjbenichiaaaBools
namespace Go.Proofs.Ytailjbenichiaaa
open Go.RowKit

/-- What the k-th mark is. -/
def mb (k : Int) : Bool := k % 3 == 0

/-- There is room for n numbers at 'a'. -/
def BRoom (w : World) (a : Option Addr) (n : Nat) : Prop := n = 0 ∨ ∃ b off cur, a = some ⟨b, off, none⟩ ∧ w.heap[b]? = some (.cells cur 4 (0, 0)) ∧ off + n ≤ cur.size

def BInMarks (k : Int) (off : Nat) (cur cur' : Array Value) (j : Nat) : Prop :=
  cur'.size = cur.size ∧ (∀ i, i < j → cur'[off + i]? = some (.bool (mb (k + i)))) ∧ (∀ o, (o < off ∨ off + j ≤ o) → cur'[o]? = cur[o]?)
theorem BInMarks.succ {k : Int} {off : Nat} {cur cur' : Array Value} {j : Nat} (h : BInMarks k off cur cur' j) (hj : off + j < cur.size) : BInMarks k off cur (cur'.setIfInBounds (off + j) (.bool (mb (k + j)))) (j + 1) := by
  obtain ⟨h1, h2, h3⟩ := h
  refine ⟨by simpa using h1, fun i hi => ?_, fun o ho => ?_⟩
  · by_cases e : i = j
    · subst e
      simp [h1, hj]
    · rw [Array.getElem?_setIfInBounds_ne (by omega)]
      exact h2 i (by omega)
  · rw [Array.getElem?_setIfInBounds_ne (by omega)]
    exact h3 o (by omega)

def BMarkPost (a : Option Addr) (n : Nat) (k : Int) (w : World) (e : Ending) (w' : World) : Prop :=
  e = .returned (.int .i64 (k + n)) ∧ (n = 0 ∧ w' = w ∨ ∃ b off cur cur', 0 < n ∧ a = some ⟨b, off, none⟩ ∧ w.heap[b]? = some (.cells cur 4 (0, 0)) ∧ w'.heap[b]? = some (.cells cur' 4 (0, 0)) ∧ BInMarks k off cur cur' n ∧ Marked (· = b) w w')

set_option maxHeartbeats 400000 in
theorem markBoolS_any (a : Option Addr) (n c : Nat) (k : Int) (w : World) (hr : BRoom w a n) (hn : n ≤ 1048576) (hk0 : 0 ≤ k) (hk1 : k ≤ 4398046511104) :
    Calls Try.prog 54 #[.slice a n c, .int .i64 k] w (BMarkPost a n k w) := by
  by_cases h0 : n = 0
  · subst h0
    have hfin : BMarkPost a 0 k w (.returned (.int .i64 k)) w := ⟨by simp, .inl ⟨rfl, rfl⟩⟩
    go_enter Try.func54, Try.ntmps54
    go_wp2
    refine wp_loop_rounds 1 ?_
    rw [rounds_succ]
    go_wp2
    go_ret
    exact hfin
  · obtain ⟨b, off, cur, rfl, hb, hroom⟩ := hr.resolve_left h0
    go_enter Try.func54, Try.ntmps54
    go_wp2
    go_loopw [1, 5] (fun s i wr => ∃ (j : Nat) (cur' : Array Value), s = .int .i64 (k + j) ∧ j ≤ n ∧ i = .int .i64 j ∧ wr.heap[b]? = some (.cells cur' 4 (0, 0)) ∧ BInMarks k off cur cur' j ∧ Marked (· = b) w wr) (fun _ i _ => n - (intOf i).toNat)
    case atStart => exact ⟨0, cur, by simp, Nat.zero_le _, rfl, hb, ⟨rfl, fun _ h => by omega, fun _ _ => rfl⟩, Marked.refl _ _⟩
    case round =>
      obtain ⟨j, cur', rfl, hj, rfl, hb', hI, hM⟩ := hrel
      by_cases hlt : j < n
      · obtain ⟨v, hcell⟩ : ∃ v, wr.cell? ⟨b, off + j, none⟩ = some v := by
          rw [cell_of_row wr b (off + j) cur' _ (0, 0) hb']
          have := hI.1
          exact ⟨_, Array.getElem?_eq_getElem (by omega)⟩
        have hfr : wr.frozen? ⟨b, off + j, none⟩ = false := frozen_of_row wr b (off + j) cur' _ hb'
        have hb2 := heap_setCell_same wr b (off + j) cur' _ (.bool (mb (k + j))) hb'
        have hI2 := hI.succ (by omega)
        have hM2 : Marked (· = b) w (wr.setCell ⟨b, off + j, none⟩ (.bool (mb (k + j)))) := hM.trans (Marked.step (S := (· = b)) hb' rfl _)
        clear hb hb' hI hM hr
        go_wp2
        go_roundw
        case rel => exact ⟨j + 1, _, by go_num, by omega, by go_num, hb2, hI2, hM2⟩
        case measure => simp [intOf]; omega
      · obtain rfl : j = n := by omega
        have hfin : BMarkPost (some ⟨b, off, none⟩) j k w (.returned (.int .i64 (k + j))) wr := ⟨rfl, .inr ⟨b, off, cur, cur', by omega, rfl, hb, hb', hI, hM⟩⟩
        clear hb hb' hI hM
        go_wp2
        go_ret
        exact hfin

/-- What a mark leaves. -/
def bmarks (k : Int) (n : Nat) : List Bool := (List.range n).map fun i => mb (k + (i : Nat))
theorem bmarks_get {k : Int} {n i : Nat} (h : i < n) : (bmarks k n)[i]? = some (mb (k + i)) := by simp [bmarks, h]

set_option maxHeartbeats 400000 in
theorem heldBoolS_any (a : Option Addr) (n c : Nat) (k : Int) (w : World) (ha : BoolsAt w a (bmarks k n)) (hn : n ≤ 1048576) (hk0 : 0 ≤ k) (hk1 : k ≤ 4398046511104) :
    Calls Try.prog 55 #[.slice a n c, .int .i64 k] w fun e w' => e = .returned (.int .i64 (k + n)) ∧ Quiet w w' := by
  have hlen : (bmarks k n).length = n := by simp [bmarks]
  have HL := hide hlen
  clear hlen
  go_enter Try.func55, Try.ntmps55
  go_wp2
  go_loopw [1, 5] (fun s i wr => ∃ j : Nat, s = .int .i64 (k + j) ∧ j ≤ n ∧ i = .int .i64 j ∧ Quiet w wr) (fun _ i _ => n - (intOf i).toNat)
  case atStart => exact ⟨0, by simp, Nat.zero_le _, rfl, Quiet.refl _⟩
  case round =>
    obtain ⟨j, rfl, hj, rfl, hq⟩ := hrel
    by_cases hlt : j < n
    · obtain ⟨b, off, z, rfl, hcell, hz⟩ := (ha.keep hq.below).one (k := j) (by rw [HL.out]; exact hlt)
      obtain rfl : z = mb (k + j) := by have := hz.out; rw [bmarks_get hlt] at this; exact (Option.some.inj this).symm
      have hm : (mb (k + (j : Int)) == ((k + (j : Int)) % 3 == 0)) = true := beq_self_eq_true _
      clear ha hz
      go_wp2
      go_roundw
      case rel => exact ⟨j + 1, by go_num, by omega, by go_num, hq⟩
      case measure => simp [intOf]; omega
    · obtain rfl : j = n := by omega
      go_wp2
      go_ret
      exact ⟨rfl, hq⟩

/-- A mark of a list that is owned: what it then holds. -/
theorem bowned_room {w : World} {base : Nat} {a : Option Addr} {n c : Nat} {vs : List Value} (h : w.ownsRow base 4 1 (.slice a n c) n vs) : BRoom w a n := by
  rcases h.2 with ⟨_, h0⟩ | ⟨g, cap, cur, hv, _, hh, hcap, _, hs, _⟩
  · exact .inl h0
  · simp only [Value.slice.injEq, true_and] at hv
    exact .inr ⟨g, 0, cur, hv.1, hh, by omega⟩
theorem bmarked_owned {w w' : World} {base : Nat} {a : Option Addr} {n c : Nat} {k : Int} {vs : List Value} {e : Ending} (h : w.ownsRow base 4 1 (.slice a n c) n vs) (hp : BMarkPost a n k w e w') :
    w'.ownsRow base 4 1 (.slice a n c) n ((bmarks k n).map boolV) ∧ Marked (fun b => base ≤ b ∧ ∃ off, a = some ⟨b, off, none⟩) w w' := by
  obtain ⟨_, ⟨rfl, rfl⟩ | ⟨b, off, cur, cur', hpos, rfl, hb, hb', hI, hM⟩⟩ := hp
  · refine ⟨⟨by simp [bmarks], ?_⟩, Marked.refl _ _⟩
    rcases h.2 with h2 | ⟨g, cap, cur, hv, hg, hh, r1, r2, r3, r4⟩
    · exact .inl h2
    · exact .inr ⟨g, cap, cur, hv, hg, hh, r1, r2, r3, by simp [bmarks]⟩
  · rcases h.2 with ⟨_, h0⟩ | ⟨g, cap, cur2, hv, hg, hh, r1, r2, r3, r4⟩
    · omega
    · have hv' := hv
      simp only [Value.slice.injEq, Option.some.injEq, Addr.mk.injEq, and_true, true_and] at hv'
      obtain ⟨⟨rfl, rfl⟩, rfl⟩ := hv'
      rw [hb] at hh
      cases hh
      refine ⟨⟨by simp [bmarks], .inr ⟨b, c, cur', rfl, hg, hb', r1, r2, hI.1.trans r3, ?_⟩⟩, hM.weaken (fun k e => by cases e; exact ⟨hg, 0, rfl⟩)⟩
      apply List.ext_getElem?
      intro i
      have hs := hI.1
      by_cases hin : i < n
      · have h2 := hI.2.1 i hin
        rw [Nat.zero_add] at h2
        rw [List.getElem?_take, if_pos (by omega), Array.getElem?_toList, h2]
        simp [bmarks, hin, boolV]
      · rw [List.getElem?_eq_none (by simp; omega), List.getElem?_eq_none (by simp [bmarks]; omega)]
set_option maxHeartbeats 400000 in
/-- eqBoolS at two slices that read as one list: true; it only reads. -/
theorem eqBoolS_quiet (a b : Option Addr) (c d : Nat) (zs : List Bool) (w : World) (ha : BoolsAt w a zs) (hb : BoolsAt w b zs) (hl : zs.length ≤ 1048576) :
    Calls Try.prog 53 #[.slice a zs.length c, .slice b zs.length d] w fun e w' => e = .returned (.bool true) ∧ ∃ m, w' = w.drewN m := by
  go_enter Try.func53, Try.ntmps53
  go_wp2
  go_loopw [5] (fun i wr => ∃ k : Nat, k ≤ zs.length ∧ i = .int .i64 k ∧ Hid (∃ m, wr = w.drewN m)) (fun i _ => zs.length - (intOf i).toNat)
  case atStart => exact ⟨0, Nat.zero_le _, rfl, 0, rfl⟩
  case round =>
    obtain ⟨k, hk, rfl, m, rfl⟩ := hrel
    by_cases hlt : k < zs.length
    · obtain ⟨b1, o1, rfl, hc1⟩ := ha.get hlt
      obtain ⟨b2, o2, rfl, hc2⟩ := hb.get hlt
      have h1 := hc1 k hlt
      have h2 := hc2 k hlt
      clear hc1 hc2 ha hb
      go_wp2
      go_quiet (fail)
      go_wp2
      go_roundw
      case rel => exact ⟨k + 1, by omega, by go_num, _, rfl⟩
      case measure => simp [intOf]; omega
    · go_wp2
      go_ret
      exact ⟨rfl, m, rfl⟩
theorem eqBoolS_same (a b : Option Addr) (c d : Nat) (zs : List Bool) (w : World) (ha : BoolsAt w a zs) (hb : BoolsAt w b zs) (hl : zs.length ≤ 1048576) :
    Calls Try.prog 53 #[.slice a zs.length c, .slice b zs.length d] w fun e w' => e = .returned (.bool true) ∧ Below w.heap.size w w' :=
  (eqBoolS_quiet a b c d zs w ha hb hl).mono fun _ _ h => ⟨h.1, quiet_below h.2⟩

end Go.Proofs.Ytailjbenichiaaa
