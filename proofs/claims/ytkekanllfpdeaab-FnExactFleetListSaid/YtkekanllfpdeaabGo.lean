/-
  Games that a call hands back, told by leaves: what they are, what keeps them, the laws' marks on them.
-/
import Derived.Test.YtkekanllfpdeaabLf
namespace Go.Proofs.Ytkekanllfpdeaab
open Go.RowKit

/-- A game of the call's own: rows of numbers that may share a block, no two of them a cell. -/
structure GameLeaves (w : World) (lo : Nat) (a : Option Addr) (xss : List (List Int)) (ls : List Lf) : Prop where
  len : ls.length = xss.length
  row : LeafRow w a ls
  outer : ∀ b off, a = some ⟨b, off, none⟩ → lo ≤ b ∧ ∃ cur, w.heap[b]? = some (.cells cur 22 (0, 0))
  leaf : ∀ (i : Nat) (l : Lf), ls[i]? = some l → ∃ zs, xss[i]? = some zs ∧ l.n = zs.length ∧ IntsAt w l.a zs ∧ Room w l.a l.n ∧ (0 < l.n → ∃ b off, l.a = some ⟨b, off, none⟩ ∧ lo ≤ b)
  apart : ls.Pairwise Lf.apart
  tot : total ls ≤ 1048576


/-- Where the blocks from lo on are as they were, the game is. -/
theorem GameLeaves.agree {w w' : World} {lo : Nat} {a : Option Addr} {xss : List (List Int)} {ls : List Lf} (h : GameLeaves w lo a xss ls) (hag : ∀ b, lo ≤ b → b < w.heap.size → w'.heap[b]? = w.heap[b]?) : GameLeaves w' lo a xss ls := by
  refine ⟨h.len, fun hne => ?_, fun b off e => ?_, fun i l hi => ?_, h.apart, h.tot⟩
  · obtain ⟨b, off, rfl, hc⟩ := h.row hne
    obtain ⟨hlo, cur, hcur⟩ := h.outer b off rfl
    refine ⟨b, off, rfl, fun i l hi => ?_⟩
    obtain ⟨c, hcell⟩ := hc i l hi
    exact ⟨c, (World.cell?_of_block (hag b hlo (block_lt hcur))).trans hcell⟩
  · obtain ⟨hlo, cur, hcur⟩ := h.outer b off e
    exact ⟨hlo, cur, (hag b hlo (block_lt hcur)).trans hcur⟩
  · obtain ⟨zs, hz, hn, hints, hroom, hlo⟩ := h.leaf i l hi
    refine ⟨zs, hz, hn, fun hne => ?_, ?_, hlo⟩
    · obtain ⟨b, off, e, hc⟩ := hints hne
      have hpos : 0 < l.n := by
        rw [hn]
        have := List.length_pos_iff.2 hne
        simpa using this
      obtain ⟨b', off', e', hlo'⟩ := hlo hpos
      rw [e] at e'
      simp at e'
      obtain ⟨rfl, rfl⟩ := e'
      refine ⟨b, off, e, fun i hi => ?_⟩
      have hcell := hc i hi
      rw [List.getElem?_eq_getElem hi] at hcell
      have hlt : b < w.heap.size := World.block_lt_of_cell? w ⟨b, off + i, none⟩ hcell
      exact (World.cell?_of_block (hag b hlo' hlt)).trans (hc i hi)
    · rcases hroom with h0 | ⟨b, off, cur, e, hb, hs⟩
      · exact .inl h0
      · by_cases hpos : 0 < l.n
        · obtain ⟨b', off', e', hlo'⟩ := hlo hpos
          rw [e] at e'
          simp at e'
          obtain ⟨rfl, rfl⟩ := e'
          exact .inr ⟨b, off, cur, e, (hag b hlo' (block_lt hb)).trans hb, hs⟩
        · exact .inl (by omega)
theorem GameLeaves.keep {w w' : World} {lo : Nat} {a : Option Addr} {xss : List (List Int)} {ls : List Lf} (h : GameLeaves w lo a xss ls) (hb : Below w.heap.size w w') : GameLeaves w' lo a xss ls := h.agree (fun b _ hlt => hb.block b hlt)
theorem GameLeaves.mono {w : World} {lo lo' : Nat} {a : Option Addr} {xss : List (List Int)} {ls : List Lf} (h : GameLeaves w lo a xss ls) (hl : lo' ≤ lo) : GameLeaves w lo' a xss ls := by
  refine ⟨h.len, h.row, fun b off e => ?_, fun i l hi => ?_, h.apart, h.tot⟩
  · obtain ⟨h1, h2⟩ := h.outer b off e
    exact ⟨by omega, h2⟩
  · obtain ⟨zs, hz, hn, hints, hroom, hlo⟩ := h.leaf i l hi
    refine ⟨zs, hz, hn, hints, hroom, fun hp => ?_⟩
    obtain ⟨b, off, e, hlo'⟩ := hlo hp
    exact ⟨b, off, e, by omega⟩
theorem GameLeaves.reads {w : World} {lo : Nat} {a : Option Addr} {xss : List (List Int)} {ls : List Lf} (h : GameLeaves w lo a xss ls) : RowsAt w a xss := by
  intro hne
  have hne' : ls ≠ [] := by
    intro e
    have := h.len
    rw [e] at this
    exact hne (List.eq_nil_of_length_eq_zero this.symm)
  obtain ⟨b, off, rfl, hc⟩ := h.row hne'
  refine ⟨b, off, rfl, fun i zs hi => ?_⟩
  have hlt : i < ls.length := by rw [h.len]; exact (List.getElem?_eq_some_iff.1 hi).1
  obtain ⟨c, hcell⟩ := hc i ls[i] (List.getElem?_eq_getElem hlt)
  obtain ⟨zs', hz', hn, hints, _⟩ := h.leaf i ls[i] (List.getElem?_eq_getElem hlt)
  rw [hi] at hz'
  cases hz'
  exact ⟨_, c, by rw [hcell, hn], hints⟩
theorem GameLeaves.nil (w : World) (lo : Nat) : GameLeaves w lo none [] [] := ⟨rfl, (fun h => absurd rfl h), (fun _ _ h => by cases h), (fun i l h => by simp at h), List.Pairwise.nil, by simp [total]⟩
theorem GameLeaves.small {w : World} {lo : Nat} {a : Option Addr} {xss : List (List Int)} {ls : List Lf} (h : GameLeaves w lo a xss ls) : ∀ l ∈ ls, l.n ≤ 1048576 := fun _ hl => Nat.le_trans (total_mem hl) h.tot

/-- What is no row of numbers is as it was. -/
def KeepsOdd (w w' : World) : Prop := ∀ (b : Nat) (cs : Array Value) (T : TypeId), T ≠ 2 → w.heap[b]? = some (Obj.cells cs T (0, 0)) → w'.heap[b]? = some (Obj.cells cs T (0, 0))
/-- The rows of numbers from lo on. -/
def OwnNums (w : World) (lo : Nat) (b : Nat) : Prop := lo ≤ b ∧ ∃ cur, w.heap[b]? = some (.cells cur 2 (0, 0))
end Go.Proofs.Ytkekanllfpdeaab
