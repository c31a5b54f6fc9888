/-
  Games that a call hands back, told by leaves: what they are, what keeps them, the laws' marks on them.
-/
import Derived.Test.YtlgogpphlnogoaaLeaves
namespace Go.Proofs.Ytlgogpphlnogoaa
open Go.RowKit

/-- A game of the call's own: rows of numbers that may share a block, no two of them a cell. -/
structure GameLeaves (w : World) (lo : Nat) (a : Option Addr) (xss : List (List Int)) (ls : List Lf) : Prop where
  len : ls.length = xss.length
  row : LeafRow w a ls
  outer : ∀ b off, a = some ⟨b, off, none⟩ → lo ≤ b ∧ ∃ cur, w.heap[b]? = some (.cells cur 26 (0, 0))
  leaf : ∀ (i : Nat) (l : Lf), ls[i]? = some l → ∃ zs, xss[i]? = some zs ∧ l.n = zs.length ∧ IntsAt w l.a zs ∧ Room w l.a l.n ∧ (0 < l.n → ∃ b off, l.a = some ⟨b, off, none⟩ ∧ lo ≤ b)
  apart : ls.Pairwise Lf.apart
  tot : total ls ≤ 1048576

theorem block_lt {w : World} {b : Nat} {o : Obj} (h : w.heap[b]? = some o) : b < w.heap.size := (Array.getElem?_eq_some_iff.1 h).1

/-- Where the blocks from lo on are as they were, the game is. -/
theorem GameLeaves.agree {w w' : World} {lo : Nat} {a : Option Addr} {xss : List (List Int)} {ls : List Lf} (h : GameLeaves w lo a xss ls) (hag : ∀ b, lo ≤ b → b < w.heap.size → w'.heap[b]? = w.heap[b]?) : GameLeaves w' lo a xss ls := by
  refine ⟨h.len, fun hne => ?_, fun b off e => ?_, fun i l hi => ?_, h.apart, h.tot⟩
  · obtain ⟨b, off, rfl, hc⟩ := h.row hne
    obtain ⟨hlo, cur, hcur⟩ := h.outer b off rfl
    refine ⟨b, off, rfl, fun i l hi => ?_⟩
    obtain ⟨c, hcell⟩ := hc i l hi
    exact ⟨c, (World.cell?_of_block (hag b hlo (block_lt hcur))).trans hcell⟩
  · obtain ⟨hlo, cur, hcur⟩ := h.outer b off e
    exact ⟨hlo, cur, (hag b hlo (block_lt hcur)).trans hcur⟩
  · obtain ⟨zs, hz, hn, hints, hroom, hlo⟩ := h.leaf i l hi
    refine ⟨zs, hz, hn, fun hne => ?_, ?_, hlo⟩
    · obtain ⟨b, off, e, hc⟩ := hints hne
      have hpos : 0 < l.n := by
        rw [hn]
        have := List.length_pos_iff.2 hne
        simpa using this
      obtain ⟨b', off', e', hlo'⟩ := hlo hpos
      rw [e] at e'
      simp at e'
      obtain ⟨rfl, rfl⟩ := e'
      refine ⟨b, off, e, fun i hi => ?_⟩
      have hcell := hc i hi
      rw [List.getElem?_eq_getElem hi] at hcell
      have hlt : b < w.heap.size := World.block_lt_of_cell? w ⟨b, off + i, none⟩ hcell
      exact (World.cell?_of_block (hag b hlo' hlt)).trans (hc i hi)
    · rcases hroom with h0 | ⟨b, off, cur, e, hb, hs⟩
      · exact .inl h0
      · by_cases hpos : 0 < l.n
        · obtain ⟨b', off', e', hlo'⟩ := hlo hpos
          rw [e] at e'
          simp at e'
          obtain ⟨rfl, rfl⟩ := e'
          exact .inr ⟨b, off, cur, e, (hag b hlo' (block_lt hb)).trans hb, hs⟩
        · exact .inl (by omega)
theorem GameLeaves.keep {w w' : World} {lo : Nat} {a : Option Addr} {xss : List (List Int)} {ls : List Lf} (h : GameLeaves w lo a xss ls) (hb : Below w.heap.size w w') : GameLeaves w' lo a xss ls := h.agree (fun b _ hlt => hb.block b hlt)
theorem GameLeaves.mono {w : World} {lo lo' : Nat} {a : Option Addr} {xss : List (List Int)} {ls : List Lf} (h : GameLeaves w lo a xss ls) (hl : lo' ≤ lo) : GameLeaves w lo' a xss ls := by
  refine ⟨h.len, h.row, fun b off e => ?_, fun i l hi => ?_, h.apart, h.tot⟩
  · obtain ⟨h1, h2⟩ := h.outer b off e
    exact ⟨by omega, h2⟩
  · obtain ⟨zs, hz, hn, hints, hroom, hlo⟩ := h.leaf i l hi
    refine ⟨zs, hz, hn, hints, hroom, fun hp => ?_⟩
    obtain ⟨b, off, e, hlo'⟩ := hlo hp
    exact ⟨b, off, e, by omega⟩
theorem GameLeaves.reads {w : World} {lo : Nat} {a : Option Addr} {xss : List (List Int)} {ls : List Lf} (h : GameLeaves w lo a xss ls) : RowsAt w a xss := by
  intro hne
  have hne' : ls ≠ [] := by
    intro e
    have := h.len
    rw [e] at this
    exact hne (List.eq_nil_of_length_eq_zero this.symm)
  obtain ⟨b, off, rfl, hc⟩ := h.row hne'
  refine ⟨b, off, rfl, fun i zs hi => ?_⟩
  have hlt : i < ls.length := by rw [h.len]; exact (List.getElem?_eq_some_iff.1 hi).1
  obtain ⟨c, hcell⟩ := hc i ls[i] (List.getElem?_eq_getElem hlt)
  obtain ⟨zs', hz', hn, hints, _⟩ := h.leaf i ls[i] (List.getElem?_eq_getElem hlt)
  rw [hi] at hz'
  cases hz'
  exact ⟨_, c, by rw [hcell, hn], hints⟩
theorem GameLeaves.nil (w : World) (lo : Nat) : GameLeaves w lo none [] [] := ⟨rfl, (fun h => absurd rfl h), (fun _ _ h => by cases h), (fun i l h => by simp at h), List.Pairwise.nil, by simp [total]⟩
theorem GameLeaves.small {w : World} {lo : Nat} {a : Option Addr} {xss : List (List Int)} {ls : List Lf} (h : GameLeaves w lo a xss ls) : ∀ l ∈ ls, l.n ≤ 1048576 := fun _ hl => Nat.le_trans (total_mem hl) h.tot

/-- What is no row of numbers is as it was. -/
def KeepsOdd (w w' : World) : Prop := ∀ (b : Nat) (cs : Array Value) (T : TypeId), T ≠ 2 → w.heap[b]? = some (Obj.cells cs T (0, 0)) → w'.heap[b]? = some (Obj.cells cs T (0, 0))
/-- The rows of numbers from lo on. -/
def OwnNums (w : World) (lo : Nat) (b : Nat) : Prop := lo ≤ b ∧ ∃ cur, w.heap[b]? = some (.cells cur 2 (0, 0))

set_option maxHeartbeats 400000 in
theorem markGame_leaves (a : Option Addr) (c lo : Nat) (xss : List (List Int)) (ls : List Lf) (w : World) (h : GameLeaves w lo a xss ls) (hn : xss.length ≤ 1048576) (hlo : lo ≤ w.heap.size) :
    Calls Try.prog 16 #[.agg #[.slice a xss.length c], .int .i64 1] w fun e w' => e = .returned (.int .i64 (1 + total ls)) ∧ LeafMarks w' 1 ls ∧ LeafRow w' a ls ∧ Below lo w w' ∧ KeepsOdd w w' := by
  have hB : Below w.heap.size w (w.alloc (.cells #[.slice a xss.length c] 29)) := (Below.refl _ _).alloc (Nat.le_refl _) _
  have hk := h.keep hB
  have hlen := h.len
  have hfin : ∀ w1, LeafPost (OwnNums (w.alloc (.cells #[.slice a xss.length c] 29)) lo) ls 1 (w.alloc (.cells #[.slice a xss.length c] 29)) w1 → LeafMarks w1 1 ls ∧ LeafRow w1 a ls ∧ Below lo w w1 ∧ KeepsOdd w w1 := by
    rintro w1 ⟨h1, h2, h3⟩
    refine ⟨h1, fun hne => ?_, (hB.mono hlo).trans (h3.below (fun k hk => hk.1)), fun b cs T hT hb => ?_⟩
    rotate_left
    · have hb' := (hB.block b (block_lt hb)).trans hb
      rw [h3.block b (by rintro ⟨_, cur, hcur⟩; rw [hb'] at hcur; simp at hcur; exact hT hcur.2)]
      exact hb'
    obtain ⟨b, off, rfl, hc⟩ := hk.row hne
    obtain ⟨_, cur, hcur⟩ := hk.outer b off rfl
    refine ⟨b, off, rfl, fun i l hi => ?_⟩
    obtain ⟨c', hcell⟩ := hc i l hi
    refine ⟨c', (World.cell?_of_block (h3.block b ?_)).trans hcell⟩
    rintro ⟨_, cur2, hcur2⟩
    rw [hcur] at hcur2
    simp at hcur2
  have hcall := markInt64SS_leaves a c ls 1 (OwnNums (w.alloc (.cells #[.slice a xss.length c] 29)) lo) _ hk.row
    (fun l hl => by obtain ⟨i, hi⟩ := List.mem_iff_getElem?.1 hl; obtain ⟨_, _, _, _, hr, _⟩ := hk.leaf i l hi; exact hr)
    (fun l hl b off e hpos => by
      obtain ⟨i, hi⟩ := List.mem_iff_getElem?.1 hl
      obtain ⟨_, _, _, _, hr, hb⟩ := hk.leaf i l hi
      obtain ⟨b', off', e', hlo'⟩ := hb hpos
      rw [e] at e'
      simp at e'
      obtain ⟨rfl, rfl⟩ := e'
      refine ⟨hlo', ?_⟩
      rcases hr with h0 | ⟨b2, off2, cur, e2, hb2, _⟩
      · omega
      · rw [e] at e2
        simp at e2
        obtain ⟨rfl, rfl⟩ := e2
        exact ⟨cur, hb2⟩)
    (fun b off e => by
      obtain ⟨_, cur, hcur⟩ := hk.outer b off e
      rintro ⟨_, cur2, hcur2⟩
      rw [hcur] at hcur2
      simp at hcur2)
    hk.apart (by omega) hk.small (by decide) (by have := hk.tot; omega)
  rw [hlen] at hcall
  have HF := hide hfin
  have HC := hide hcall
  clear hfin hk hcall h hB hlen
  go_enter Try.func16, Try.ntmps16
  go_wp2_with fail
  refine HC.out.mono ?_
  rintro e w1 ⟨rfl, hp⟩
  have hf := hide (HF.out w1 hp)
  clear hp
  go_wp2_with fail
  go_ret
  exact ⟨rfl, hf.out⟩

set_option maxHeartbeats 400000 in
theorem heldGame_leaves (a : Option Addr) (c : Nat) (n : Nat) (ls : List Lf) (w : World) (hlen : ls.length = n) (hr : LeafRow w a ls) (hm : LeafMarks w 1 ls) (hn : n ≤ 1048576) (ht : total ls ≤ 1048576) :
    Calls Try.prog 25 #[.agg #[.slice a n c], .int .i64 1] w fun e w' => e = .returned (.int .i64 (1 + total ls)) ∧ Below w.heap.size w w' := by
  subst hlen
  have hB : Below w.heap.size w (w.alloc (.cells #[.slice a ls.length c] 29)) := (Below.refl _ _).alloc (Nat.le_refl _) _
  have hcall := heldInt64SS_leaves a c ls 1 _ (hr.keep hB) (hm.keep hB) hn (fun l hl => Nat.le_trans (total_mem hl) ht) (by decide) (by omega)
  have HC := hide hcall
  have hge : ¬ (1 : Int) + (total ls : Int) < 0 := by omega
  clear hcall hr hm
  go_enter Try.func25, Try.ntmps25
  go_wp2_with fail
  refine HC.out.mono ?_
  rintro e w1 ⟨rfl, hq⟩
  go_wp2_with fail
  go_ret
  exact ⟨rfl, Below.trans' hB hq.below⟩
end Go.Proofs.Ytlgogpphlnogoaa
