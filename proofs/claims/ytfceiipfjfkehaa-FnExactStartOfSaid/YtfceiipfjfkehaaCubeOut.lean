/-
  Positions that a call hands back, told by leaves: what they are, what keeps them, the laws' marks on them.
-/
import Derived.Test.YtfceiipfjfkehaaGameOut
import Derived.Test.YtfceiipfjfkehaaCube
namespace Go.Proofs.Ytfceiipfjfkehaa
open Go.RowKit

/-- Regions of the call's own. -/
structure CubeLeaves (w : World) (lo : Nat) (a : Option Addr) (X : List (List (List Int))) (lss : List (List Lf)) : Prop where
  len : lss.length = X.length
  outer : ∀ b off, a = some ⟨b, off, none⟩ → lo ≤ b ∧ ∃ cur, w.heap[b]? = some (.cells cur 42 (0, 0))
  row : X ≠ [] → ∃ b off, a = some ⟨b, off, none⟩ ∧ ∀ (i : Nat) (xss : List (List Int)), X[i]? = some xss → ∃ ai ci ls, lss[i]? = some ls ∧ w.cell? ⟨b, off + i, none⟩ = some (.slice ai xss.length ci) ∧ GameLeaves w lo ai xss ls
  apart : lss.flatten.Pairwise Lf.apart
  tot : total lss.flatten ≤ 1048576

theorem CubeLeaves.agree {w w' : World} {lo : Nat} {a : Option Addr} {X : List (List (List Int))} {lss : List (List Lf)} (h : CubeLeaves w lo a X lss) (hag : ∀ b, lo ≤ b → b < w.heap.size → w'.heap[b]? = w.heap[b]?) : CubeLeaves w' lo a X lss := by
  refine ⟨h.len, fun b off e => ?_, fun hne => ?_, h.apart, h.tot⟩
  · obtain ⟨hlo, cur, hcur⟩ := h.outer b off e
    exact ⟨hlo, cur, (hag b hlo (block_lt hcur)).trans hcur⟩
  · obtain ⟨b, off, e, hc⟩ := h.row hne
    obtain ⟨hlo, cur, hcur⟩ := h.outer b off e
    refine ⟨b, off, e, fun i xss hi => ?_⟩
    obtain ⟨ai, ci, ls, h1, h2, h3⟩ := hc i xss hi
    exact ⟨ai, ci, ls, h1, (World.cell?_of_block (hag b hlo (block_lt hcur))).trans h2, h3.agree hag⟩
theorem CubeLeaves.keep {w w' : World} {lo : Nat} {a : Option Addr} {X : List (List (List Int))} {lss : List (List Lf)} (h : CubeLeaves w lo a X lss) (hb : Below w.heap.size w w') : CubeLeaves w' lo a X lss := h.agree (fun b _ hlt => hb.block b hlt)
theorem CubeLeaves.mono {w : World} {lo lo' : Nat} {a : Option Addr} {X : List (List (List Int))} {lss : List (List Lf)} (h : CubeLeaves w lo a X lss) (hl : lo' ≤ lo) : CubeLeaves w lo' a X lss := by
  refine ⟨h.len, fun b off e => ?_, fun hne => ?_, h.apart, h.tot⟩
  · obtain ⟨h1, h2⟩ := h.outer b off e
    exact ⟨by omega, h2⟩
  · obtain ⟨b, off, e, hc⟩ := h.row hne
    refine ⟨b, off, e, fun i xss hi => ?_⟩
    obtain ⟨ai, ci, ls, h1, h2, h3⟩ := hc i xss hi
    exact ⟨ai, ci, ls, h1, h2, h3.mono hl⟩
theorem CubeLeaves.reads {w : World} {lo : Nat} {a : Option Addr} {X : List (List (List Int))} {lss : List (List Lf)} (h : CubeLeaves w lo a X lss) : CubeAt w a X := by
  intro hne
  obtain ⟨b, off, e, hc⟩ := h.row hne
  refine ⟨b, off, e, fun i xss hi => ?_⟩
  obtain ⟨ai, ci, ls, _, h2, h3⟩ := hc i xss hi
  exact ⟨ai, ci, h2, h3.reads⟩
theorem CubeLeaves.nil (w : World) (lo : Nat) : CubeLeaves w lo none [] [] := ⟨rfl, (fun _ _ h => by cases h), (fun h => absurd rfl h), by simp, by simp [total]⟩

/-- What the marks of a position need to know of its memory as it was before them. -/
theorem leafRow_marked {w w' : World} {lo : Nat} {a : Option Addr} {xss : List (List Int)} {ls : List Lf} (h : GameLeaves w lo a xss ls) (hM : Marked (OwnNums w lo) w w') : LeafRow w' a ls := by
  intro hne
  obtain ⟨b, off, rfl, hc⟩ := h.row hne
  obtain ⟨_, cur, hcur⟩ := h.outer b off rfl
  refine ⟨b, off, rfl, fun i l hi => ?_⟩
  obtain ⟨c, hcell⟩ := hc i l hi
  refine ⟨c, (World.cell?_of_block (hM.block b ?_)).trans hcell⟩
  rintro ⟨_, cur2, hcur2⟩
  rw [hcur] at hcur2
  simp at hcur2

theorem flat_take_succ {lss : List (List Lf)} {j : Nat} {ls : List Lf} (h : lss[j]? = some ls) : (lss.take (j + 1)).flatten = (lss.take j).flatten ++ ls := by
  rw [List.take_add_one, h]
  simp
theorem total_flat_le (lss : List (List Lf)) (j : Nat) : total (lss.take j).flatten ≤ total lss.flatten := by
  have : lss.flatten = (lss.take j).flatten ++ (lss.drop j).flatten := by rw [← List.flatten_append, List.take_append_drop]
  rw [this, total_append]
  omega
theorem flat_apart {lss : List (List Lf)} {j : Nat} {ls : List Lf} (hp : lss.flatten.Pairwise Lf.apart) (h : lss[j]? = some ls) : ∀ l ∈ (lss.take j).flatten, ∀ m ∈ ls, l.apart m := by
  have e : lss.flatten = (lss.take (j + 1)).flatten ++ (lss.drop (j + 1)).flatten := by rw [← List.flatten_append, List.take_append_drop]
  rw [e, flat_take_succ h, List.pairwise_append, List.pairwise_append] at hp
  exact hp.1.2.2

set_option maxHeartbeats 1000000 in
theorem markInt64SSS_leaves (a : Option Addr) (c lo : Nat) (X : List (List (List Int))) (lss : List (List Lf)) (w : World) (h : CubeLeaves w lo a X lss) (hn : X.length ≤ 1048576) (hx : ∀ xss ∈ X, xss.length ≤ 1048576) :
    Calls Try.prog 50 #[.slice a X.length c, .int .i64 1] w fun e w' => e = .returned (.int .i64 (1 + total lss.flatten)) ∧ LeafPost (OwnNums w lo) lss.flatten 1 w w' := by
  have hlen := h.len
  have htot := h.tot
  have HC := hide h
  have HX := hide hx
  clear h hx
  go_enter Try.func50, Try.ntmps50
  go_wp2_with fail
  go_loopw [1, 5] (fun s i wr => ∃ (j : Nat) (t : Int), s = .int .i64 t ∧ j ≤ X.length ∧ i = .int .i64 j ∧ Hid (t = 1 + total (lss.take j).flatten) ∧ Hid (LeafPost (OwnNums w lo) (lss.take j).flatten 1 w wr)) (fun _ i _ => X.length - (intOf i).toNat)
  case atStart => exact ⟨0, 1, rfl, Nat.zero_le _, rfl, hide (by simp [total]), ⟨trivial, CellsBut.refl _ _, Marked.refl _ _⟩⟩
  case round =>
    obtain ⟨j, t, rfl, hj, rfl, HT, HP⟩ := hrel
    by_cases hlt : j < X.length
    · obtain ⟨xss, hxs⟩ : ∃ xss, X[j]? = some xss := ⟨_, List.getElem?_eq_getElem hlt⟩
      obtain ⟨b, off, rfl, hc⟩ := HC.out.row (by intro e; subst e; simp at hlt)
      obtain ⟨_, cur, hcur⟩ := HC.out.outer b off rfl
      obtain ⟨ai, ci, ls, hls, hcell, hgl⟩ := hc j xss hxs
      have hcellr : wr.cell? ⟨b, off + j, none⟩ = some (.slice ai xss.length ci) := by
        refine (World.cell?_of_block (HP.out.2.2.block b ?_)).trans hcell
        rintro ⟨_, cur2, hcur2⟩
        rw [hcur] at hcur2
        simp at hcur2
      have hrow := leafRow_marked hgl HP.out.2.2
      have hts := flat_take_succ hls
      have htot2 : total (lss.take (j + 1)).flatten = total (lss.take j).flatten + total ls := by rw [hts, total_append]
      have htl := total_flat_le lss (j + 1)
      have ht := HT.out
      have ht0 : 0 ≤ t := by omega
      have ht1 : t + total ls ≤ 4398046511104 := by omega
      have hcall := markInt64SS_leaves ai ci ls t (OwnNums w lo) wr hrow
        (fun l hl => by obtain ⟨i, hi⟩ := List.mem_iff_getElem?.1 hl; obtain ⟨_, _, _, _, hr, _⟩ := hgl.leaf i l hi; exact room_marked hr HP.out.2.2)
        (fun l hl b2 off2 e hpos => by
          obtain ⟨i, hi⟩ := List.mem_iff_getElem?.1 hl
          obtain ⟨_, _, _, _, hr, hb⟩ := hgl.leaf i l hi
          obtain ⟨b', off', e', hlo'⟩ := hb hpos
          rw [e] at e'
          simp at e'
          obtain ⟨rfl, rfl⟩ := e'
          refine ⟨hlo', ?_⟩
          rcases hr with h0 | ⟨b3, off3, cur3, e3, hb3, _⟩
          · omega
          · rw [e] at e3
            simp at e3
            obtain ⟨rfl, rfl⟩ := e3
            exact ⟨cur3, hb3⟩)
        (fun b2 off2 e => by
          obtain ⟨_, cur3, hcur3⟩ := hgl.outer b2 off2 e
          rintro ⟨_, cur2, hcur2⟩
          rw [hcur3] at hcur2
          simp at hcur2)
        hgl.apart (by have := HX.out xss (mem_of_get hxs); have := hgl.len; omega) hgl.small ht0 ht1
      rw [hgl.len] at hcall
      have hnew : ∀ w1, LeafPost (OwnNums w lo) ls t wr w1 → LeafPost (OwnNums w lo) (lss.take (j + 1)).flatten 1 w w1 := by
        rintro w1 ⟨h1, h2, h3⟩
        obtain ⟨k1, k2, k3⟩ := HP.out
        rw [hts]
        exact ⟨leafMarks_append (leafMarks_frame k1 h2 (flat_apart HC.out.apart hls)) (by rw [← HT.out]; exact h1), k2.trans h2, k3.trans h3⟩
      have HCALL := hide hcall
      have HNEW := hide hnew
      have HTOT := hide htot2
      clear hcall hnew hrow hts ht htl htot2 hls hgl hcell hcur hxs hc
      go_wp2_with fail
      refine HCALL.out.mono ?_
      rintro e w1 ⟨rfl, hp⟩
      have hp2 := hide (HNEW.out w1 hp)
      clear hp
      go_wp2_with fail
      go_roundw
      case rel => exact ⟨j + 1, _, rfl, by omega, by go_num, hide (by have h1 := HTOT.out; have h2 := HT.out; show t + (total ls : Int) = 1 + (total (lss.take (j + 1)).flatten : Nat); rw [h1, h2]; push_cast; omega), hp2⟩
      case measure => simp [intOf]; omega
    · obtain rfl : j = X.length := by omega
      have hfin : t = 1 + total lss.flatten ∧ LeafPost (OwnNums w lo) lss.flatten 1 w wr := by
        have h1 := HT.out
        have h2 := HP.out
        rw [← hlen, List.take_length] at h1 h2
        exact ⟨h1, h2⟩
      have HF := hide hfin
      clear hfin
      go_wp2_with fail
      go_ret
      exact ⟨ret_int HF.out.1, HF.out.2⟩

/-- The regions' rows of rows, for reading the marks. -/
def CubeRow (w : World) (a : Option Addr) (lss : List (List Lf)) : Prop :=
  lss ≠ [] → ∃ b off, a = some ⟨b, off, none⟩ ∧ ∀ (i : Nat) (ls : List Lf), lss[i]? = some ls → ∃ ai ci, w.cell? ⟨b, off + i, none⟩ = some (.slice ai ls.length ci) ∧ LeafRow w ai ls
theorem CubeRow.keep {w w' : World} {a : Option Addr} {lss : List (List Lf)} (h : CubeRow w a lss) (hb : Below w.heap.size w w') : CubeRow w' a lss := by
  intro hne
  obtain ⟨b, off, e, hc⟩ := h hne
  refine ⟨b, off, e, fun i ls hi => ?_⟩
  obtain ⟨ai, ci, h1, h2⟩ := hc i ls hi
  exact ⟨ai, ci, cell_keep hb h1, h2.keep hb⟩
theorem cubeRow_marked {w w' : World} {lo : Nat} {a : Option Addr} {X : List (List (List Int))} {lss : List (List Lf)} (h : CubeLeaves w lo a X lss) (hM : Marked (OwnNums w lo) w w') : CubeRow w' a lss := by
  intro hne
  have hX : X ≠ [] := by
    intro e
    have := h.len
    rw [e] at this
    exact hne (List.eq_nil_of_length_eq_zero this)
  obtain ⟨b, off, rfl, hc⟩ := h.row hX
  obtain ⟨_, cur, hcur⟩ := h.outer b off rfl
  refine ⟨b, off, rfl, fun i ls hi => ?_⟩
  have hlt : i < X.length := by rw [← h.len]; exact (List.getElem?_eq_some_iff.1 hi).1
  obtain ⟨ai, ci, ls', h1, h2, h3⟩ := hc i X[i] (List.getElem?_eq_getElem hlt)
  rw [hi] at h1
  cases h1
  refine ⟨ai, ci, ?_, leafRow_marked h3 hM⟩
  rw [h3.len]
  refine (World.cell?_of_block (hM.block b ?_)).trans h2
  rintro ⟨_, cur2, hcur2⟩
  rw [hcur] at hcur2
  simp at hcur2

theorem leafMarks_split {w : World} : ∀ {k : Int} {ls ms : List Lf}, LeafMarks w k (ls ++ ms) → LeafMarks w (k + total ls) ms
  | k, [], ms, h => by simpa [total] using h
  | k, l :: r, ms, h => by
    have := leafMarks_split (ls := r) h.2
    rw [show (k + ((total (l :: r) : Nat) : Int)) = k + l.n + (total r : Nat) by simp [total]; omega]
    exact this
theorem leafMarks_left {w : World} : ∀ {k : Int} {ls ms : List Lf}, LeafMarks w k (ls ++ ms) → LeafMarks w k ls
  | _, [], _, _ => trivial
  | _, _ :: _, _, h => ⟨h.1, leafMarks_left h.2⟩

set_option maxHeartbeats 1000000 in
theorem heldInt64SSS_leaves (a : Option Addr) (c n : Nat) (lss : List (List Lf)) (w : World) (hlen : lss.length = n) (hr : CubeRow w a lss) (hm : LeafMarks w 1 lss.flatten) (hn : n ≤ 1048576) (hx : ∀ ls ∈ lss, ls.length ≤ 1048576) (ht : total lss.flatten ≤ 1048576) :
    Calls Try.prog 51 #[.slice a n c, .int .i64 1] w fun e w' => e = .returned (.int .i64 (1 + total lss.flatten)) ∧ Quiet w w' := by
  subst hlen
  have HR := hide hr
  have HM := hide hm
  have HX := hide hx
  clear hr hm hx
  go_enter Try.func51, Try.ntmps51
  go_wp2_with fail
  go_loopw [1, 5] (fun s i wr => ∃ (j : Nat) (t : Int), s = .int .i64 t ∧ j ≤ lss.length ∧ i = .int .i64 j ∧ Hid (t = 1 + total (lss.take j).flatten) ∧ Quiet w wr) (fun _ i _ => lss.length - (intOf i).toNat)
  case atStart => exact ⟨0, 1, rfl, Nat.zero_le _, rfl, hide (by simp [total]), Quiet.refl _⟩
  case round =>
    obtain ⟨j, t, rfl, hj, rfl, HT, hq⟩ := hrel
    by_cases hlt : j < lss.length
    · obtain ⟨ls, hls⟩ : ∃ ls, lss[j]? = some ls := ⟨_, List.getElem?_eq_getElem hlt⟩
      obtain ⟨b, off, rfl, hc⟩ := (HR.out.keep hq.below) (by intro e; subst e; simp at hlt)
      obtain ⟨ai, ci, hcell, hrow⟩ := hc j ls hls
      have hts := flat_take_succ hls
      have htot2 : total (lss.take (j + 1)).flatten = total (lss.take j).flatten + total ls := by rw [hts, total_append]
      have htl := total_flat_le lss (j + 1)
      have hte := HT.out
      have ht0 : 0 ≤ t := by omega
      have ht1 : t + total ls ≤ 4398046511104 := by omega
      have hml : LeafMarks wr t ls := by
        have e : lss.flatten = (lss.take j).flatten ++ (ls ++ (lss.drop (j + 1)).flatten) := by
          rw [← List.append_assoc, ← hts, ← List.flatten_append, List.take_append_drop]
        have h1 := HM.out
        rw [e] at h1
        have h2 := leafMarks_left (leafMarks_split h1)
        rw [HT.out]
        exact h2.keep hq.below
      have hge : ¬ t + (total ls : Int) < 0 := by omega
      have hcall := heldInt64SS_leaves ai ci ls t wr hrow hml (HX.out ls (mem_of_get hls)) (fun l hl => by
        have h1 := total_mem hl
        omega) ht0 ht1
      have HCALL := hide hcall
      have HTOT := hide htot2
      clear hcall hrow hml hts hte htl htot2 hls hc
      go_wp2_with fail
      refine HCALL.out.mono ?_
      rintro e w1 ⟨rfl, hq1⟩
      have hq2 := hq.trans hq1
      clear hq hq1 hcell
      go_wp2_with fail
      go_roundw
      case rel => exact ⟨j + 1, _, rfl, by omega, by go_num, hide (by have h1 := HTOT.out; have h2 := HT.out; show t + (total ls : Int) = 1 + (total (lss.take (j + 1)).flatten : Nat); rw [h1, h2]; push_cast; omega), hq2⟩
      case measure => simp [intOf]; omega
    · obtain rfl : j = lss.length := by omega
      have hfin : t = 1 + total lss.flatten := by
        have h1 := HT.out
        rw [List.take_length] at h1
        exact h1
      have HF := hide hfin
      clear hfin
      go_wp2_with fail
      go_ret
      exact ⟨ret_int HF.out, hq⟩

/-! ### positions -/
set_option maxHeartbeats 400000 in
theorem markSprouts_leaves (s : Int) (a : Option Addr) (c lo : Nat) (X : List (List (List Int))) (lss : List (List Lf)) (w : World) (h : CubeLeaves w lo a X lss) (hn : X.length ≤ 1048576) (hx : ∀ xss ∈ X, xss.length ≤ 1048576) (hlo : lo ≤ w.heap.size) :
    Calls Try.prog 17 #[.agg #[.int .i64 s, .slice a X.length c], .int .i64 1] w fun e w' => e = .returned (.int .i64 (1 + total lss.flatten)) ∧ LeafMarks w' 1 lss.flatten ∧ CubeRow w' a lss ∧ Below lo w w' ∧ KeepsOdd w w' := by
  have hB : Below w.heap.size w (w.alloc (.cells #[.int .i64 s, .slice a X.length c] 24)) := (Below.refl _ _).alloc (Nat.le_refl _) _
  have hk := h.keep hB
  have hfin : ∀ w1, LeafPost (OwnNums (w.alloc (.cells #[.int .i64 s, .slice a X.length c] 24)) lo) lss.flatten 1 (w.alloc (.cells #[.int .i64 s, .slice a X.length c] 24)) w1 → LeafMarks w1 1 lss.flatten ∧ CubeRow w1 a lss ∧ Below lo w w1 ∧ KeepsOdd w w1 := by
    rintro w1 ⟨h1, h2, h3⟩
    refine ⟨h1, cubeRow_marked hk h3, (hB.mono hlo).trans (h3.below (fun k hk => hk.1)), fun b cs T hT hb => ?_⟩
    have hb' := (hB.block b (block_lt hb)).trans hb
    rw [h3.block b (by rintro ⟨_, cur, hcur⟩; rw [hb'] at hcur; simp at hcur; exact hT hcur.2)]
    exact hb'
  have HC := hide (markInt64SSS_leaves a c lo X lss _ hk hn hx)
  have HF := hide hfin
  clear hfin hk h hB
  go_enter Try.func17, Try.ntmps17
  go_wp2_with fail
  refine HC.out.mono ?_
  rintro e w1 ⟨rfl, hp⟩
  have hf := hide (HF.out w1 hp)
  clear hp
  go_wp2_with fail
  go_ret
  exact ⟨rfl, hf.out⟩

set_option maxHeartbeats 400000 in
theorem heldSprouts_leaves (s : Int) (a : Option Addr) (c n : Nat) (lss : List (List Lf)) (w : World) (hlen : lss.length = n) (hr : CubeRow w a lss) (hm : LeafMarks w 1 lss.flatten) (hn : n ≤ 1048576) (hx : ∀ ls ∈ lss, ls.length ≤ 1048576) (ht : total lss.flatten ≤ 1048576) :
    Calls Try.prog 18 #[.agg #[.int .i64 s, .slice a n c], .int .i64 1] w fun e w' => e = .returned (.int .i64 (1 + total lss.flatten)) ∧ Below w.heap.size w w' := by
  have hB : Below w.heap.size w (w.alloc (.cells #[.int .i64 s, .slice a n c] 24)) := (Below.refl _ _).alloc (Nat.le_refl _) _
  have HC := hide (heldInt64SSS_leaves a c n lss _ hlen (hr.keep hB) (hm.keep hB) hn hx ht)
  have hge : ¬ (1 : Int) + (total lss.flatten : Int) < 0 := by omega
  clear hr hm hx
  go_enter Try.func18, Try.ntmps18
  go_wp2_with fail
  refine HC.out.mono ?_
  rintro e w1 ⟨rfl, hq⟩
  go_wp2_with fail
  go_ret
  exact ⟨rfl, Below.trans' hB hq.below⟩
end Go.Proofs.Ytfceiipfjfkehaa
