/-
  slices.Backward over a row of strands: the function value that it hands back, for every loop body that keeps what it reads.
-/
import Derived.RangeFuncNested
import Derived.RangeFuncBound
import Derived.RangeFuncCalls
import Derived.RangeFuncLeaves
import Derived.RangeFuncFrom
import Derived.RangeFuncBox
import Derived.Shelf.Abstract
import Derived.Shelf.RegionOpen
import Derived.OwnWalkIn
import Derived.TacticsInMore
import Derived.LoopNIn
import Derived.LoopIn
import Derived.Test.YtbfpbkbhikogiaaAns
namespace Go.Proofs.Ytbfpbkbhikogiaa
open Go.RowKit Go.Shelf
attribute [local go_sem] Oper.semAt_some

/-- The places of a row of n. -/
abbrev Pl (n : Nat) := { p : Nat // p < n }
/-- n - 1, n - 2, ..: the first k of them. -/
def downs (n : Nat) : (k : Nat) → k ≤ n → List (Pl n)
  | 0, _ => []
  | k + 1, h => downs n k (by omega) ++ [⟨n - 1 - k, by omega⟩]
theorem downs_length (n : Nat) : ∀ (k : Nat) (h : k ≤ n), (downs n k h).length = k
  | 0, _ => rfl
  | k + 1, h => by rw [downs, List.length_append, downs_length n k]; rfl

/-- What a round must leave alone: what lay below n₀, and the box Bs. -/
def KeepB (n₀ Bs : Nat) (W W' : World) : Prop := Below n₀ W W' ∧ W'.heap[Bs]? = W.heap[Bs]?
theorem KeepB.refl (n₀ Bs : Nat) (W : World) : KeepB n₀ Bs W W := ⟨Below.refl _ _, rfl⟩
theorem KeepB.trans {n₀ Bs : Nat} {A B C : World} (h : KeepB n₀ Bs A B) (k : KeepB n₀ Bs B C) : KeepB n₀ Bs A C := ⟨h.1.trans k.1, k.2.trans h.2⟩
theorem KeepB.of_below {n₀ Bs : Nat} {A B : World} (h : Below A.heap.size A B) (hn : n₀ ≤ A.heap.size) (hb : Bs < A.heap.size) : KeepB n₀ Bs A B := ⟨h.mono hn, h.block _ hb⟩
theorem keepB_b {n₀ Bs : Nat} {w : World} (hn : n₀ ≤ w.heap.size) (hb : Bs < w.heap.size) (W : World) (l : Nat) (o o' : Obj) (hl : w.heap.size ≤ l) (h : W.heap[l]? = some o) (h1 : o.isCells = false) (h2 : o.isWalk = false) : KeepB n₀ Bs W (W.putObj l o') :=
  ⟨belowK_b hn W l o o' hl h h1 h2, World.putObj_heap_other (by omega)⟩
/-- What speaks of blocks below the loop's own is the loop's to keep. -/
theorem ownFrom_of_below {β : Type} {B : Nat} {I : β → World → Prop} (hsz : ∀ s W, I s W → B ≤ W.heap.size) (h : ∀ s W W', I s W → Below B W W' → I s W') : OwnFrom B I := fun s W W' row hs hg hr =>
  h s W W' hs ⟨hg.os, hg.tape, hg.output, hg.size, fun k hk => hg.block k (by have := hsz s W hs; omega) (fun e => by have := (hr k e.symm).1; omega)⟩
theorem keepsOthers_below {W W' : World} (h : Below W.heap.size W W') : KeepsOthers W W' := ⟨h.size, fun k _ hk _ => (h.block k (Array.getElem?_eq_some_iff.1 hk).1).trans hk⟩

set_option maxRecDepth 100000 in
theorem backward_any (a : Option Addr) (n c : Nat) (w : World) :
    Calls Try.prog 64 #[.slice a n c] w fun e w' => e = .returned (.func (.func 95) #[] #[.pointer (some ⟨w.heap.size, 0, none⟩)]) ∧ w.alloc (.cells #[.slice a n c] 76) = w' := by
  go_enter Try.func64, Try.ntmps64
  go_wp2
  go_ret
  exact ⟨rfl, rfl⟩

set_option maxRecDepth 100000 in
set_option maxHeartbeats 2000000 in
theorem iter_in (n : Nat) (hn : 1 ≤ n) (l Bs n₀ b c len : Nat) (a : Option Addr) (K X : Nat → Int) (hlen : len ≤ 40) (hb : 0 < len → b < n₀) (ha : 0 < len → a = some ⟨b, 0, none⟩) (J Jx : List (Pl len) → World → Prop)
    (hY : ∀ pre x W, J pre W → pre.length < len → YieldAt Fence.wide (n - 1) Try.prog l #[.int .i64 (x.1 : Int), .agg #[.int .i64 (K x.1), .int .i64 (X x.1)]] W fun e W' =>
      (e = .returned (.bool true) ∧ J (pre ++ [x]) W' ∧ KeepB n₀ Bs W W') ∨ (e = .returned (.bool false) ∧ Jx (pre ++ [x]) W'))
    (W : World) (hBs : W.cell? ⟨Bs, 0, none⟩ = some (.slice a len c)) (hc : ∀ p, p < len → W.cell? ⟨b, p * 2, none⟩ = some (.int .i64 (K p)) ∧ W.cell? ⟨b, p * 2 + 1, none⟩ = some (.int .i64 (X p))) (h0 : J [] W) :
    CallsIn Fence.wide n Try.prog 95 #[.func (.yield l) #[] #[], .pointer (some ⟨Bs, 0, none⟩)] W fun e W' => (∃ v, e = .returned v) ∧
      ((∃ ys, ys = downs len len (Nat.le_refl _) ∧ J ys W') ∨ (∃ pre, True ∧ Jx pre W')) := by
  refine callsIn_of_wp Try.func95 rfl trivial ?_ rfl
  simp only [Try.ntmps95, List.size_toArray, List.length_cons, List.length_nil, Nat.reduceAdd, Nat.reduceSub, Array.replicate_succ, Array.replicate_zero, List.push_toArray, List.append_toArray, List.nil_append, List.cons_append]
  gi_wp2
  gi_loopw [3] (fun i wr => ∃ (k : Nat) (hk : k ≤ len), i = .int .i64 ((len : Int) - 1 - k) ∧ J (downs len k hk) wr ∧ KeepB n₀ Bs W wr)
    (fun i _ => (intOf i + 1).toNat)
  case atStart => exact ⟨0, Nat.zero_le _, by simp, h0, KeepB.refl _ _ _⟩
  case round =>
    obtain ⟨k, hk, rfl, hJs, hK⟩ := hrel
    have hbx : wr.cell? ⟨Bs, 0, none⟩ = some (.slice a len c) := (World.cell?_of_block (a := ⟨Bs, 0, none⟩) hK.2).trans hBs
    by_cases hlt : k < len
    · obtain rfl := ha (by omega)
      obtain ⟨fn, tmps, assign, body, hy, hR⟩ := hY _ ⟨len - 1 - k, by omega⟩ wr hJs (by rw [downs_length]; exact hlt)
      dsimp only at hy
      have hcx := (hK.1.cell (p := ⟨b, (len - 1 - k) * 2, none⟩) (hb (by omega))).trans (hc (len - 1 - k) (by omega)).1
      have hcy := (hK.1.cell (p := ⟨b, (len - 1 - k) * 2 + 1, none⟩) (hb (by omega))).trans (hc (len - 1 - k) (by omega)).2
      have ei : ((len : Int) - 1 - (k : Int)) = (((len - 1 - k : Nat)) : Int) := by omega
      rw [ei]
      have HJ := hide hJs
      obtain ⟨p, hp⟩ : ∃ p, p = len - 1 - k := ⟨_, rfl⟩
      rw [← hp] at hy hcx hcy ⊢
      have HP := hide hp
      have hpl : p < len := by omega
      clear hp ei hJs hc ha
      gi_wp2
      refine hR.mono ?_
      rintro e W3 (⟨rfl, hJ3, hk3⟩ | ⟨rfl, hJx3⟩)
      · gi_wp2
        go_roundw
        case rel => exact ⟨k + 1, by omega, by have := HP.out; congr 1; omega, hJ3, hK.trans hk3⟩
        case measure => simp [intOf]
      · gi_wp2
        refine bodyPost_ret (results_none rfl _ _ _) rfl ?_
        exact ⟨⟨_, rfl⟩, .inr ⟨_, trivial, hJx3⟩⟩
    · obtain rfl : k = len := by omega
      have ei : ((k : Int) - 1 - (k : Int)) = -1 := by omega
      rw [ei]
      clear ei hc
      gi_wp2
      go_end0
      exact ⟨⟨_, rfl⟩, .inl ⟨_, rfl, hJs⟩⟩

/-- The closure hands on the places from the last one to the first, with their strands as the cells hold them. -/
theorem iter_stops (n : Nat) (hn : 1 ≤ n) (Bs n₀ b c len : Nat) (a : Option Addr) (K X : Nat → Int) (hlen : len ≤ 40) (hb : 0 < len → b < n₀) (ha : 0 < len → a = some ⟨b, 0, none⟩) (w : World) (hBs : Bs < w.heap.size) (hn₀ : n₀ ≤ w.heap.size)
    (hbox : w.cell? ⟨Bs, 0, none⟩ = some (.slice a len c)) (hc : ∀ p, p < len → w.cell? ⟨b, p * 2, none⟩ = some (.int .i64 (K p)) ∧ w.cell? ⟨b, p * 2 + 1, none⟩ = some (.int .i64 (X p))) :
    SeqStopsK Fence.wide n Try.prog 95 #[.pointer (some ⟨Bs, 0, none⟩)] (fun x : Pl len => #[Value.int .i64 (x.1 : Int), .agg #[.int .i64 (K x.1), .int .i64 (X x.1)]]) (KeepB n₀ Bs)
      (fun ys => ys = downs len len (Nat.le_refl _)) (fun _ => True) len w := fun l J Jx W hW _ _ hY h0 => by
  exact iter_in n hn l Bs n₀ b c len a K X hlen hb ha J Jx hY W ((hW.cell (p := ⟨Bs, 0, none⟩) hBs).trans hbox) (fun p hp => ⟨(hW.cell (p := ⟨b, p * 2, none⟩) (by have := hb (by omega); show b < w.heap.size; omega)).trans (hc p hp).1, (hW.cell (p := ⟨b, p * 2 + 1, none⟩) (by have := hb (by omega); show b < w.heap.size; omega)).trans (hc p hp).2⟩) h0

/-! ### the sparing number from the last one on -/
def stepS (ss : List (Int × Int)) (i : Nat) (acc : Int) : Int := let s := ss[i]?.getD (0, 0); if spOpen s = true ∧ i + 1 < ss.length then s.2 - 2 * leftOf s.1 + acc else s.2 - acc
def spL (ss : List (Int × Int)) {n : Nat} (xs : List (Pl n)) : Int := xs.foldl (fun acc x => stepS ss x.1 acc) 0
theorem spL_snoc (ss : List (Int × Int)) {n : Nat} (xs : List (Pl n)) (x : Pl n) : spL ss (xs ++ [x]) = stepS ss x.1 (spL ss xs) := by simp [spL]
theorem stepS_bd {ss : List (Int × Int)} (h : ∀ s ∈ ss, 0 ≤ s.2 ∧ s.2 ≤ 30) (i : Nat) (acc B : Int) (hb : -B ≤ acc ∧ acc ≤ B) : -(B + 40) ≤ stepS ss i acc ∧ stepS ss i acc ≤ B + 40 := by
  have h2 : 0 ≤ (ss[i]?.getD (0, 0)).2 ∧ (ss[i]?.getD (0, 0)).2 ≤ 30 := by
    cases hz : ss[i]? with
    | none => simp
    | some s => exact h s (List.mem_of_getElem? hz)
  have h3 := leftOf_bd (ss[i]?.getD (0, 0)).1
  unfold stepS
  simp only
  split <;> omega
theorem rev_ind' {α : Type} {p : List α → Prop} (h0 : p []) (h1 : ∀ l x, p l → p (l ++ [x])) (l : List α) : p l := by
  suffices h : ∀ (n : Nat) (l : List α), l.length = n → p l from h _ l rfl
  intro n
  induction n with
  | zero => intro l hl; rw [List.eq_nil_of_length_eq_zero hl]; exact h0
  | succ n ih =>
    intro l hl
    have hne : l ≠ [] := by intro e; subst e; simp at hl
    rw [← List.dropLast_concat_getLast hne]
    exact h1 _ _ (ih _ (by simp; omega))
theorem spL_bd {ss : List (Int × Int)} (h : ∀ s ∈ ss, 0 ≤ s.2 ∧ s.2 ≤ 30) {n : Nat} (xs : List (Pl n)) : -(40 * (xs.length : Int)) ≤ spL ss xs ∧ spL ss xs ≤ 40 * (xs.length : Int) := by
  induction xs using rev_ind' with
  | h0 => simp [spL]
  | h1 l x ih =>
    rw [spL_snoc]
    have := stepS_bd h x.1 _ _ ih
    simp only [List.length_append, List.length_cons, List.length_nil]
    omega
theorem spL_downs (ss : List (Int × Int)) : ∀ (k : Nat) (h : k ≤ ss.length), spL ss (downs ss.length k h) = spar (ss.drop (ss.length - k))
  | 0, h => by rw [downs, Nat.sub_zero, List.drop_length]; rfl
  | k + 1, h => by
    rw [downs, spL_snoc, spL_downs ss k (by omega)]
    obtain ⟨s, hs⟩ : ∃ s, ss[ss.length - 1 - k]? = some s := ⟨_, List.getElem?_eq_getElem (by omega)⟩
    have e1 : ss.length - (k + 1) = ss.length - 1 - k := by omega
    have e2 : ss.length - k = ss.length - 1 - k + 1 := by omega
    rw [e1, e2]
    rw [List.drop_eq_getElem_cons (show ss.length - 1 - k < ss.length by omega)]
    have hg : ss[ss.length - 1 - k]'(by omega) = s := by
      rw [List.getElem?_eq_getElem (by omega)] at hs
      exact Option.some.inj hs
    rw [hg, spar]
    unfold stepS
    rw [hs]
    simp only [Option.getD_some]
    by_cases hl : ss.length - 1 - k + 1 < ss.length
    · have hne : ss.drop (ss.length - 1 - k + 1) ≠ [] := fun e => by have := congrArg List.length e; simp at this; omega
      by_cases ho : spOpen s = true
      · rw [if_pos ⟨ho, hl⟩, if_pos ⟨hne, ho⟩]
      · rw [if_neg (fun x => ho x.1), if_neg (fun x => ho x.2)]
    · have he : ss.drop (ss.length - 1 - k + 1) = [] := List.drop_eq_nil_of_le (by omega)
      rw [if_neg (fun x => hl x.2), if_neg (fun x => x.1 he)]
end Go.Proofs.Ytbfpbkbhikogiaa
