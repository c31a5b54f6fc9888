/-
  The laws' marks: markInt64S, heldInt64S, markInt64SS, markGame, and what they turn.
-/
import Derived.Test.YtogfoahejgmfgaaCo
namespace Go.Proofs.Ytogfoahejgmfgaa
open Go.RowKit

/-- Blocks outside S are as they were; every row of cells has kept its type and its size; nothing new. -/
structure Marked (S : Nat → Prop) (w w' : World) : Prop where
  os : w'.os = w.os
  tape : w'.tape = w.tape
  output : w'.output = w.output
  size : w'.heap.size = w.heap.size
  block : ∀ k, ¬ S k → w'.heap[k]? = w.heap[k]?
  shape : ∀ (b : Nat) (cur : Array Value) (t : TypeId), w.heap[b]? = some (.cells cur t (0, 0)) → ∃ cur' : Array Value, w'.heap[b]? = some (.cells cur' t (0, 0)) ∧ cur'.size = cur.size

theorem Marked.refl (S : Nat → Prop) (w : World) : Marked S w w := ⟨rfl, rfl, rfl, rfl, fun _ _ => rfl, fun _ cur _ h => ⟨cur, h, rfl⟩⟩
theorem Marked.trans {S : Nat → Prop} {a b c : World} (h : Marked S a b) (k : Marked S b c) : Marked S a c :=
  ⟨k.os.trans h.os, k.tape.trans h.tape, k.output.trans h.output, k.size.trans h.size, fun i hi => (k.block i hi).trans (h.block i hi), fun i cur t hi => by
    obtain ⟨c1, h1, s1⟩ := h.shape i cur t hi
    obtain ⟨c2, h2, s2⟩ := k.shape i c1 t h1
    exact ⟨c2, h2, s2.trans s1⟩⟩
theorem Marked.weaken {S T : Nat → Prop} {w w' : World} (h : Marked S w w') (hST : ∀ k, S k → T k) : Marked T w w' :=
  ⟨h.os, h.tape, h.output, h.size, fun k hk => h.block k (fun hs => hk (hST k hs)), h.shape⟩
theorem Marked.below {S : Nat → Prop} {w w' : World} {B : Nat} (h : Marked S w w') (hS : ∀ k, S k → B ≤ k) : Below B w w' :=
  ⟨h.os, h.tape, h.output, by rw [h.size]; exact Nat.le_refl _, fun k hk => h.block k (fun hs => by have := hS k hs; omega)⟩
theorem Marked.step {S : Nat → Prop} {w : World} {b o : Nat} {cur : Array Value} {t : TypeId} (hb : w.heap[b]? = some (.cells cur t (0, 0))) (hS : S b) (u : Value) : Marked S w (w.setCell ⟨b, o, none⟩ u) := by
  refine ⟨rfl, rfl, rfl, by simp [World.setCell], fun k hk => Below.heap_setCell _ _ _ _ (fun e => by subst e; exact hk hS), fun b' cur' t' h => ?_⟩
  by_cases e : b' = b
  · subst e
    rw [hb] at h
    cases h
    exact ⟨_, heap_setCell_same w b' o cur t u hb, by simp⟩
  · exact ⟨cur', by rw [Below.heap_setCell _ _ _ _ e]; exact h, rfl⟩

/-- What is owned outside S stays owned. -/
theorem Marked.owns {S : Nat → Prop} {w w' : World} {base : Nat} {e : TypeId} {size : Nat} {a : Option Addr} {n c k : Nat} {xs : List Value} (h : Marked S w w') (ho : w.ownsRow base e size (.slice a n c) k xs) (hS : ∀ g, a = some ⟨g, 0, none⟩ → ¬ S g) :
    w'.ownsRow base e size (.slice a n c) k xs := by
  refine ⟨ho.1, ?_⟩
  rcases ho.2 with h2 | ⟨g, cap, cur, hv, hg, hh, r⟩
  · exact .inl h2
  · have hv' := hv
    simp only [Value.slice.injEq] at hv'
    exact .inr ⟨g, cap, cur, hv, hg, by rw [h.block g (hS g hv'.1)]; exact hh, r⟩
theorem Marked.cells {S : Nat → Prop} {w w' : World} {a : Option Addr} {vs : List Value} (h : Marked S w w') (hc : CellsAt w a vs) (hS : ∀ g off, a = some ⟨g, off, none⟩ → ¬ S g) : CellsAt w' a vs := by
  intro hne
  obtain ⟨b, off, rfl, hi⟩ := hc hne
  exact ⟨b, off, rfl, fun i hlt => by rw [← hi i hlt]; exact World.cell?_of_block (h.block b (hS b off rfl))⟩

/-- There is room for n numbers at 'a'. -/
def Room (w : World) (a : Option Addr) (n : Nat) : Prop := n = 0 ∨ ∃ b off cur, a = some ⟨b, off, none⟩ ∧ w.heap[b]? = some (.cells cur 2 (0, 0)) ∧ off + n ≤ cur.size

def InMarks (k : Int) (off : Nat) (cur cur' : Array Value) (j : Nat) : Prop :=
  cur'.size = cur.size ∧ (∀ i, i < j → cur'[off + i]? = some (.int .i64 (k + i))) ∧ (∀ o, (o < off ∨ off + j ≤ o) → cur'[o]? = cur[o]?)
theorem InMarks.succ {k : Int} {off : Nat} {cur cur' : Array Value} {j : Nat} (h : InMarks k off cur cur' j) (hj : off + j < cur.size) : InMarks k off cur (cur'.setIfInBounds (off + j) (.int .i64 (k + j))) (j + 1) := by
  obtain ⟨h1, h2, h3⟩ := h
  refine ⟨by simpa using h1, fun i hi => ?_, fun o ho => ?_⟩
  · by_cases e : i = j
    · subst e
      simp [h1, hj]
    · rw [Array.getElem?_setIfInBounds_ne (by omega)]
      exact h2 i (by omega)
  · rw [Array.getElem?_setIfInBounds_ne (by omega)]
    exact h3 o (by omega)

def MarkPost (a : Option Addr) (n : Nat) (k : Int) (w : World) (e : Ending) (w' : World) : Prop :=
  e = .returned (.int .i64 (k + n)) ∧ (n = 0 ∧ w' = w ∨ ∃ b off cur cur', 0 < n ∧ a = some ⟨b, off, none⟩ ∧ w.heap[b]? = some (.cells cur 2 (0, 0)) ∧ w'.heap[b]? = some (.cells cur' 2 (0, 0)) ∧ InMarks k off cur cur' n ∧ Marked (· = b) w w')

set_option maxHeartbeats 400000 in
theorem markInt64S_any (a : Option Addr) (n c : Nat) (k : Int) (w : World) (hr : Room w a n) (hn : n ≤ 1048576) (hk0 : 0 ≤ k) (hk1 : k ≤ 4398046511104) :
    Calls Try.prog 21 #[.slice a n c, .int .i64 k] w (MarkPost a n k w) := by
  by_cases h0 : n = 0
  · subst h0
    have hfin : MarkPost a 0 k w (.returned (.int .i64 k)) w := ⟨by simp, .inl ⟨rfl, rfl⟩⟩
    go_enter Try.func21, Try.ntmps21
    go_wp2
    refine wp_loop_rounds 1 ?_
    rw [rounds_succ]
    go_wp2
    go_ret
    exact hfin
  · obtain ⟨b, off, cur, rfl, hb, hroom⟩ := hr.resolve_left h0
    go_enter Try.func21, Try.ntmps21
    go_wp2
    go_loopw [1, 5] (fun s i wr => ∃ (j : Nat) (cur' : Array Value), s = .int .i64 (k + j) ∧ j ≤ n ∧ i = .int .i64 j ∧ wr.heap[b]? = some (.cells cur' 2 (0, 0)) ∧ InMarks k off cur cur' j ∧ Marked (· = b) w wr) (fun _ i _ => n - (intOf i).toNat)
    case atStart => exact ⟨0, cur, by simp, Nat.zero_le _, rfl, hb, ⟨rfl, fun _ h => by omega, fun _ _ => rfl⟩, Marked.refl _ _⟩
    case round =>
      obtain ⟨j, cur', rfl, hj, rfl, hb', hI, hM⟩ := hrel
      by_cases hlt : j < n
      · obtain ⟨v, hcell⟩ : ∃ v, wr.cell? ⟨b, off + j, none⟩ = some v := by
          rw [cell_of_row wr b (off + j) cur' _ (0, 0) hb']
          have := hI.1
          exact ⟨_, Array.getElem?_eq_getElem (by omega)⟩
        have hfr : wr.frozen? ⟨b, off + j, none⟩ = false := frozen_of_row wr b (off + j) cur' _ hb'
        have hb2 := heap_setCell_same wr b (off + j) cur' _ (.int .i64 (k + j)) hb'
        have hI2 := hI.succ (by omega)
        have hM2 : Marked (· = b) w (wr.setCell ⟨b, off + j, none⟩ (.int .i64 (k + j))) := hM.trans (Marked.step (S := (· = b)) hb' rfl _)
        clear hb hb' hI hM hr
        go_wp2
        go_roundw
        case rel => exact ⟨j + 1, _, by go_num, by omega, by go_num, hb2, hI2, hM2⟩
        case measure => simp [intOf]; omega
      · obtain rfl : j = n := by omega
        have hfin : MarkPost (some ⟨b, off, none⟩) j k w (.returned (.int .i64 (k + j))) wr := ⟨rfl, .inr ⟨b, off, cur, cur', by omega, rfl, hb, hb', hI, hM⟩⟩
        clear hb hb' hI hM
        go_wp2
        go_ret
        exact hfin

/-- The numbers that a mark leaves. -/
def marks (k : Int) (n : Nat) : List Int := (List.range n).map fun i => k + (i : Nat)
theorem marks_get {k : Int} {n i : Nat} (h : i < n) : (marks k n)[i]? = some (k + i) := by simp [marks, h]

set_option maxHeartbeats 400000 in
theorem heldInt64S_any (a : Option Addr) (n c : Nat) (k : Int) (w : World) (ha : IntsAt w a (marks k n)) (hn : n ≤ 1048576) (hk0 : 0 ≤ k) (hk1 : k ≤ 4398046511104) :
    Calls Try.prog 22 #[.slice a n c, .int .i64 k] w fun e w' => e = .returned (.int .i64 (k + n)) ∧ Quiet w w' := by
  have hlen : (marks k n).length = n := by simp [marks]
  have HL := hide hlen
  clear hlen
  go_enter Try.func22, Try.ntmps22
  go_wp2
  go_loopw [1, 5] (fun s i wr => ∃ j : Nat, s = .int .i64 (k + j) ∧ j ≤ n ∧ i = .int .i64 j ∧ Quiet w wr) (fun _ i _ => n - (intOf i).toNat)
  case atStart => exact ⟨0, by simp, Nat.zero_le _, rfl, Quiet.refl _⟩
  case round =>
    obtain ⟨j, rfl, hj, rfl, hq⟩ := hrel
    by_cases hlt : j < n
    · obtain ⟨b, off, z, rfl, hcell, hz⟩ := (ha.keep hq.below).one (k := j) (by rw [HL.out]; exact hlt)
      obtain rfl : z = k + j := by have := hz.out; rw [marks_get hlt] at this; exact (Option.some.inj this).symm
      clear ha hz
      go_wp2
      go_roundw
      case rel => exact ⟨j + 1, by go_num, by omega, by go_num, hq⟩
      case measure => simp [intOf]; omega
    · obtain rfl : j = n := by omega
      go_wp2
      go_ret
      exact ⟨rfl, hq⟩

/-- The rows of numbers among the blocks lo .. hi. -/
def NumRows (w : World) (lo hi : Nat) (b : Nat) : Prop := lo ≤ b ∧ b < hi ∧ ∃ cur, w.heap[b]? = some (.cells cur 2 (0, 0))

theorem owned_room {w : World} {base : Nat} {a : Option Addr} {n c : Nat} {vs : List Value} (h : w.ownsRow base 2 1 (.slice a n c) n vs) : Room w a n := by
  rcases h.2 with ⟨_, h0⟩ | ⟨g, cap, cur, hv, _, hh, hcap, _, hs, _⟩
  · exact .inl h0
  · simp only [Value.slice.injEq, true_and] at hv
    exact .inr ⟨g, 0, cur, hv.1, hh, by omega⟩
theorem marked_owned {w w' : World} {base : Nat} {a : Option Addr} {n c : Nat} {k : Int} {vs : List Value} {e : Ending} (h : w.ownsRow base 2 1 (.slice a n c) n vs) (hp : MarkPost a n k w e w') :
    w'.ownsRow base 2 1 (.slice a n c) n ((marks k n).map intV) ∧ Marked (fun b => base ≤ b ∧ ∃ off, a = some ⟨b, off, none⟩) w w' := by
  obtain ⟨_, ⟨rfl, rfl⟩ | ⟨b, off, cur, cur', hpos, rfl, hb, hb', hI, hM⟩⟩ := hp
  · refine ⟨⟨by simp [marks], ?_⟩, Marked.refl _ _⟩
    rcases h.2 with h2 | ⟨g, cap, cur, hv, hg, hh, r1, r2, r3, r4⟩
    · exact .inl h2
    · exact .inr ⟨g, cap, cur, hv, hg, hh, r1, r2, r3, by simp [marks]⟩
  · rcases h.2 with ⟨_, h0⟩ | ⟨g, cap, cur2, hv, hg, hh, r1, r2, r3, r4⟩
    · omega
    · have hv' := hv
      simp only [Value.slice.injEq, Option.some.injEq, Addr.mk.injEq, and_true, true_and] at hv'
      obtain ⟨⟨rfl, rfl⟩, rfl⟩ := hv'
      rw [hb] at hh
      cases hh
      refine ⟨⟨by simp [marks], .inr ⟨b, c, cur', rfl, hg, hb', r1, r2, hI.1.trans r3, ?_⟩⟩, hM.weaken (fun k e => by cases e; exact ⟨hg, 0, rfl⟩)⟩
      apply List.ext_getElem?
      intro i
      have hs := hI.1
      by_cases hin : i < n
      · have h2 := hI.2.1 i hin
        rw [Nat.zero_add] at h2
        rw [List.getElem?_take, if_pos (by omega), Array.getElem?_toList, h2]
        simp [marks, hin, intV]
      · rw [List.getElem?_eq_none (by simp; omega), List.getElem?_eq_none (by simp [marks]; omega)]
end Go.Proofs.Ytogfoahejgmfgaa
