/-
  Col and snort: the lines of a field, one after the other: the function value that 'lines' hands back, for every loop body that keeps what it reads.
-/
import Derived.RangeFuncNested
import Derived.RangeFuncBound
import Derived.RangeFuncCalls
import Derived.RangeFuncLeaves
import Derived.RangeFuncFrom
import Derived.RangeFuncBox
import Derived.Shelf.Abstract
import Derived.Shelf.RegionOpen
import Derived.OwnWalkIn
import Derived.TacticsInMore
import Derived.LoopNIn
import Derived.LoopIn
import Derived.Test.YtdimmlpnfghndaaFj
namespace Go.Proofs.Ytdimmlpnfghndaa
open Go.RowKit Go.Shelf
attribute [local go_sem] Oper.semAt_some
set_option linter.unusedVariables false

/-- The lines of a field. -/
abbrev Ln (n L : Int) := { x : Nat × Nat // x.1 < x.2 ∧ (x.2 : Int) < n ∧ drawn L (lp x.1 x.2) = true }
def lnI (n L : Int) (j : Nat) (hj : (j : Int) < n) : (i : Nat) → i ≤ j → List (Ln n L)
  | 0, _ => []
  | i + 1, h => if hd : drawn L (lp i j) = true then lnI n L j hj i (by omega) ++ [⟨(i, j), by show i < j; omega, hj, hd⟩] else lnI n L j hj i (by omega)
def lnJ (n L : Int) : (j : Nat) → (j : Int) ≤ n → List (Ln n L)
  | 0, _ => []
  | j + 1, h => lnJ n L j (by omega) ++ lnI n L j (by omega) j (Nat.le_refl _)
theorem lnI_len (n L : Int) (j : Nat) (hj : (j : Int) < n) : ∀ (i : Nat) (h : i ≤ j), (lnI n L j hj i h).length ≤ i
  | 0, _ => by simp [lnI]
  | i + 1, h => by
    have ih := lnI_len n L j hj i (by omega)
    rw [lnI]
    split
    · rw [List.length_append]; simp; omega
    · omega
theorem lnJ_len (n L : Int) (hn : n ≤ 8) : ∀ (j : Nat) (h : (j : Int) ≤ n), (lnJ n L j h).length ≤ 7 * j
  | 0, _ => by simp [lnJ]
  | j + 1, h => by
    have ih := lnJ_len n L hn j (by omega)
    have h2 := lnI_len n L j (by omega) j (Nat.le_refl _)
    rw [lnJ, List.length_append]
    omega
def lns (n L : Int) (h : 0 ≤ n) : List (Ln n L) := lnJ n L n.toNat (by omega)

/-- What a round must leave alone: what lay below n₀, and the box Bs. -/
def KeepB (n₀ Bs : Nat) (W W' : World) : Prop := Below n₀ W W' ∧ W'.heap[Bs]? = W.heap[Bs]?
theorem KeepB.refl (n₀ Bs : Nat) (W : World) : KeepB n₀ Bs W W := ⟨Below.refl _ _, rfl⟩
theorem KeepB.trans {n₀ Bs : Nat} {A B C : World} (h : KeepB n₀ Bs A B) (k : KeepB n₀ Bs B C) : KeepB n₀ Bs A C := ⟨h.1.trans k.1, k.2.trans h.2⟩
theorem KeepB.of_below {n₀ Bs : Nat} {A B : World} (h : Below A.heap.size A B) (hn : n₀ ≤ A.heap.size) (hb : Bs < A.heap.size) : KeepB n₀ Bs A B := ⟨h.mono hn, h.block _ hb⟩
theorem keepB_b {n₀ Bs : Nat} {w : World} (hn : n₀ ≤ w.heap.size) (hb : Bs < w.heap.size) (W : World) (l : Nat) (o o' : Obj) (hl : w.heap.size ≤ l) (h : W.heap[l]? = some o) (h1 : o.isCells = false) (h2 : o.isWalk = false) : KeepB n₀ Bs W (W.putObj l o') :=
  ⟨belowK_b hn W l o o' hl h h1 h2, World.putObj_heap_other (by omega)⟩
/-- What speaks of blocks below the loop's own is the loop's to keep. -/
theorem ownFrom_of_below {β : Type} {B : Nat} {I : β → World → Prop} (hsz : ∀ s W, I s W → B ≤ W.heap.size) (h : ∀ s W W', I s W → Below B W W' → I s W') : OwnFrom B I := fun s W W' row hs hg hr =>
  h s W W' hs ⟨hg.os, hg.tape, hg.output, hg.size, fun k hk => hg.block k (by have := hsz s W hs; omega) (fun e => by have := (hr k e.symm).1; omega)⟩
theorem keepsOthers_below {W W' : World} (h : Below W.heap.size W W') : KeepsOthers W W' := ⟨h.size, fun k _ hk _ => (h.block k (Array.getElem?_eq_some_iff.1 hk).1).trans hk⟩

theorem leadAny {K : Prop} (o : Option FuncId) (h : K) : (∀ f : FuncId, o = some f → Fence.wide.fn f) ∧ K := ⟨fun _ _ => trivial, h⟩
theorem noLead {F : Fence} {K : Prop} (h : K) : (∀ f : FuncId, none = some f → F.fn f) ∧ K := ⟨fun _ h => (by cases h), h⟩

set_option maxRecDepth 100000 in
theorem lines_any (n L R B : Int) (w : World) :
    Calls Try.prog 74 #[.agg #[.int .i64 n, .int .i64 L, .int .i64 R, .int .i64 B]] w fun e w' => e = .returned (.func (.func 80) #[] #[.pointer (some ⟨w.heap.size, 0, none⟩)]) ∧ w.alloc (.cells #[.int .i64 n, .int .i64 L, .int .i64 R, .int .i64 B] 25) = w' := by
  go_enter Try.func74, Try.ntmps74
  go_wp2
  go_ret
  exact ⟨rfl, rfl⟩

set_option maxRecDepth 100000 in
set_option maxHeartbeats 2000000 in
theorem lines_in (m : Nat) (hm : 1 ≤ m) (l Bs n₀ : Nat) (n L R B : Int) (hn1 : 1 ≤ n) (hn8 : n ≤ 8) (hL0 : 0 ≤ L) (hL1 : L < 268435456) (J Jx : List (Ln n L) → World → Prop) (hJ : ∀ s A C, J s A → Below A.heap.size A C → J s C)
    (hY : ∀ pre x W, J pre W → pre.length < 64 → YieldAt Fence.wide (m - 1) Try.prog l #[.int .i64 (x.1.1 : Int), .int .i64 (x.1.2 : Int)] W fun e W' =>
      (e = .returned (.bool true) ∧ J (pre ++ [x]) W' ∧ KeepB n₀ Bs W W') ∨ (e = .returned (.bool false) ∧ Jx (pre ++ [x]) W'))
    (W : World) (hBs : W.heap[Bs]? = some (.cells #[.int .i64 n, .int .i64 L, .int .i64 R, .int .i64 B] 25 (0, 0))) (hn₀ : n₀ ≤ W.heap.size) (h0 : J [] W) :
    CallsIn Fence.wide m Try.prog 80 #[.func (.yield l) #[] #[], .pointer (some ⟨Bs, 0, none⟩)] W fun e W' => (∃ v, e = .returned v) ∧
      ((∃ ys, ys = lns n L (by omega) ∧ J ys W') ∨ (∃ pre, True ∧ Jx pre W')) := by
  obtain ⟨N, hN⟩ : ∃ N : Nat, n = N := ⟨n.toNat, by omega⟩
  have hBl : Bs < W.heap.size := (Array.getElem?_eq_some_iff.1 hBs).1
  have HBS := hide hBs
  have HY := hide hY
  have HJ := hide hJ
  subst hN
  obtain ⟨c0, c1, c2, c3, _⟩ := row4 hBs
  clear hBs hY hJ
  refine callsIn_of_wp Try.func80 rfl trivial ?_ rfl
  simp only [Try.ntmps80, List.size_toArray, List.length_cons, List.length_nil, Nat.reduceAdd, Nat.reduceSub, Array.replicate_succ, Array.replicate_zero, List.push_toArray, List.append_toArray, List.nil_append, List.cons_append]
  gi_wp2
  gi_loopw [7] (fun j wr => ∃ (k : Nat) (hk : (k : Int) ≤ (N : Int)), j = .int .i64 k ∧ J (lnJ N L k hk) wr ∧ KeepB n₀ Bs W wr ∧ Hid (W.heap.size ≤ wr.heap.size))
    (fun j _ => N - (intOf j).toNat)
  case atStart => exact ⟨0, by omega, rfl, h0, KeepB.refl _ _ _, hide (Nat.le_refl _)⟩
  case round =>
    obtain ⟨k, hk, rfl, hJs, hK, hS⟩ := hrel
    obtain ⟨wo, rfl⟩ : ∃ wo : World, wo = wr := ⟨_, rfl⟩
    by_cases hlt : k < N
    · clear c0 c1 c2 c3
      gi_wp2
      gi_loopw [11] (fun i wr => ∃ (q : Nat) (hq : q ≤ k), i = .int .i64 q ∧ J (lnJ N L k hk ++ lnI N L k (by omega) q hq) wr ∧ KeepB n₀ Bs W wr ∧ Hid (W.heap.size ≤ wr.heap.size))
        (fun i _ => k - (intOf i).toNat)
      case atStart => exact ⟨0, by omega, rfl, by rw [lnI, List.append_nil]; exact hJs, hK, hS⟩
      case round =>
        clear hJs hK hS
        obtain ⟨q, hq, rfl, hJq, hKq, hSq⟩ := hrel
        by_cases hql : q < k
        · have hrow : wr.heap[Bs]? = some (.cells #[.int .i64 N, .int .i64 L, .int .i64 R, .int .i64 B] 25 (0, 0)) := by rw [hKq.2]; exact HBS.out
          obtain ⟨c0, c1, c2, c3, _⟩ := row4 hrow
          have hBr : Hid (Bs < wr.heap.size) := hide (Array.getElem?_eq_some_iff.1 hrow).1
          have hJQ := hide hJq
          have hlenq : Hid ((lnJ N L k hk ++ lnI N L k (by omega) q hq).length < 64) := hide (by
            have h1 := lnJ_len N L hn8 k hk
            have h2 := lnI_len N L k (by omega) q hq
            rw [List.length_append]; omega)
          have hnr : Hid (n₀ ≤ wr.heap.size) := hide (by have := hSq.out; omega)
          clear hJq hrow
          cases hd : drawn L (lp q k)
          · have HD := hide hd
            clear hd
            have hnx : Hid (lnI N L k (by omega) (q + 1) (by omega) = lnI N L k (by omega) q hq) := hide (by rw [lnI, dif_neg (by rw [HD.out]; simp)])
            gi_wp2_with (first
              | (refine ⟨trivial, ?_⟩; gi_at_call 47; refine (callsIn_wide.2 (isJoined_lt N L R B q k hL0 hL1 (by omega) (by omega) (by omega) _)).mono ?_; rw [HD.out]; rintro e w2 ⟨rfl, hb2⟩; have hJ2 := hide (HJ.out _ _ _ hJQ.out hb2); have hK2 := hide (hKq.trans (KeepB.of_below hb2 hnr.out hBr.out)); have hS2 : Hid (W.heap.size ≤ w2.heap.size) := hide (Nat.le_trans hSq.out hb2.size); clear hb2)
              | (with_reducible refine noLead ?_))
            go_roundw
            case rel => exact ⟨q + 1, by omega, by go_num, by rw [hnx.out]; exact hJ2.out, hK2.out, hS2⟩
            case measure => simp [intOf]; omega
          · have HD := hide hd
            clear hd
            have hnx : Hid (lnI N L k (by omega) (q + 1) (by omega) = lnI N L k (by omega) q hq ++ [⟨(q, k), by show q < k; omega, by show (k : Int) < N; omega, HD.out⟩]) := hide (by rw [lnI, dif_pos HD.out])
            gi_wp2_with (refine ⟨trivial, ?_⟩; gi_at_call 47; refine (callsIn_wide.2 (isJoined_lt N L R B q k hL0 hL1 (by omega) (by omega) (by omega) _)).mono ?_; rw [HD.out]; rintro e w2 ⟨rfl, hb2⟩; have hJ2 := HJ.out _ _ _ hJQ.out hb2; have hK2 := hide (hKq.trans (KeepB.of_below hb2 hnr.out hBr.out)); have hS2 : Hid (W.heap.size ≤ w2.heap.size) := hide (Nat.le_trans hSq.out hb2.size); obtain ⟨fn, tmps, assign, body, hy, hR⟩ := HY.out _ ⟨(q, k), by show q < k; omega, by show (k : Int) < N; omega, HD.out⟩ w2 hJ2 hlenq.out; dsimp only at hy; clear hb2 hJ2)
            refine hR.mono ?_
            rintro e W3 (⟨rfl, hJ3, hk3⟩ | ⟨rfl, hJx3⟩)
            · have hK3 := hide (hK2.out.trans hk3)
              have hS3 : Hid (W.heap.size ≤ W3.heap.size) := hide (Nat.le_trans hS2.out hk3.1.size)
              have HJ3 := hide hJ3
              clear hJ3 hk3 hy
              gi_wp2
              go_roundw
              case rel => exact ⟨q + 1, by omega, by go_num, by rw [hnx.out, ← List.append_assoc]; exact HJ3.out, hK3.out, hS3⟩
              case measure => simp [intOf]; omega
            · gi_wp2
              refine bodyPost_ret (results_none rfl _ _ _) rfl ?_
              exact ⟨⟨_, rfl⟩, .inr ⟨_, trivial, hJx3⟩⟩
        · obtain rfl : q = k := by omega
          have HJQ := hide hJq
          clear hJq
          gi_wp2
          go_roundw
          case rel => exact ⟨q + 1, by omega, by go_num, by rw [lnJ]; exact HJQ.out, hKq, hSq⟩
          case measure => simp [intOf]; omega
    · obtain rfl : k = N := by omega
      gi_wp2
      go_end0
      refine ⟨⟨_, rfl⟩, .inl ⟨_, rfl, ?_⟩⟩
      exact hJs

theorem lines_stops (m : Nat) (hm : 1 ≤ m) (Bs n₀ : Nat) (n L R B : Int) (hn1 : 1 ≤ n) (hn8 : n ≤ 8) (hL0 : 0 ≤ L) (hL1 : L < 268435456) (w : World) (hBs : w.heap[Bs]? = some (.cells #[.int .i64 n, .int .i64 L, .int .i64 R, .int .i64 B] 25 (0, 0))) (hn₀ : n₀ ≤ w.heap.size) :
    SeqStopsK Fence.wide m Try.prog 80 #[.pointer (some ⟨Bs, 0, none⟩)] (fun x : Ln n L => #[Value.int .i64 (x.1.1 : Int), .int .i64 (x.1.2 : Int)]) (KeepB n₀ Bs)
      (fun ys => ys = lns n L (by omega)) (fun _ => True) 64 w := fun l J Jx W hW hJ _ hY h0 =>
  lines_in m hm l Bs n₀ n L R B hn1 hn8 hL0 hL1 J Jx (fun s A C hs hb => hJ s A C none hs (below_grownBy hb) (fun r e => by cases e)) hY W (box_keep hBs hW) (by have := hW.size; omega) h0
end Go.Proofs.Ytdimmlpnfghndaa
