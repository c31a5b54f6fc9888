/-
  Boards of hexagons: the neighbours of a cell, the program's text: the function value that hexNeighbours hands back, for every loop body that keeps what it reads.
-/
import Derived.RangeFuncNested
import Derived.RangeFuncBound
import Derived.RangeFuncCalls
import Derived.RangeFuncLeaves
import Derived.RangeFuncFrom
import Derived.RangeFuncBox
import Derived.Shelf.Abstract
import Derived.Shelf.RegionOpen
import Derived.OwnWalkIn
import Derived.TacticsInMore
import Derived.LoopNIn
import Derived.LoopIn
import Derived.Test.YtogfoahejgmfgaaQw
import Derived.Test.YtogfoahejgmfgaaHn
namespace Go.Proofs.Ytogfoahejgmfgaa
open Go.RowKit Go.Shelf
attribute [local go_sem] Oper.semAt_some
set_option linter.unusedVariables false

/-- The neighbours of a cell. -/
abbrev Nc (n a : Int) := { z : Int // z ∈ near n a }
/-- What a round must leave alone: what lay below n₀, and two boxes. -/
def KeepB (n₀ B1 B2 : Nat) (W W' : World) : Prop := Below n₀ W W' ∧ W'.heap[B1]? = W.heap[B1]? ∧ W'.heap[B2]? = W.heap[B2]?
theorem KeepB.refl (n₀ B1 B2 : Nat) (W : World) : KeepB n₀ B1 B2 W W := ⟨Below.refl _ _, rfl, rfl⟩
theorem KeepB.trans {n₀ B1 B2 : Nat} {A B C : World} (h : KeepB n₀ B1 B2 A B) (k : KeepB n₀ B1 B2 B C) : KeepB n₀ B1 B2 A C := ⟨h.1.trans k.1, k.2.1.trans h.2.1, k.2.2.trans h.2.2⟩
theorem KeepB.of_below {n₀ B1 B2 : Nat} {A B : World} (h : Below A.heap.size A B) (hn : n₀ ≤ A.heap.size) (hb : B1 < A.heap.size) (hb2 : B2 < A.heap.size) : KeepB n₀ B1 B2 A B := ⟨h.mono hn, h.block _ hb, h.block _ hb2⟩
theorem keepB_b {n₀ B1 B2 : Nat} {w : World} (hn : n₀ ≤ w.heap.size) (hb : B1 < w.heap.size) (hb2 : B2 < w.heap.size) (W : World) (l : Nat) (o o' : Obj) (hl : w.heap.size ≤ l) (h : W.heap[l]? = some o) (h1 : o.isCells = false) (h2 : o.isWalk = false) : KeepB n₀ B1 B2 W (W.putObj l o') :=
  ⟨belowK_b hn W l o o' hl h h1 h2, World.putObj_heap_other (by omega), World.putObj_heap_other (by omega)⟩
/-- What speaks of blocks below the loop's own is the loop's to keep. -/
theorem ownFrom_of_below {β : Type} {B : Nat} {I : β → World → Prop} (hsz : ∀ s W, I s W → B ≤ W.heap.size) (h : ∀ s W W', I s W → Below B W W' → I s W') : OwnFrom B I := fun s W W' row hs hg hr =>
  h s W W' hs ⟨hg.os, hg.tape, hg.output, hg.size, fun k hk => hg.block k (by have := hsz s W hs; omega) (fun e => by have := (hr k e.symm).1; omega)⟩
theorem keepsOthers_below {W W' : World} (h : Below W.heap.size W W') : KeepsOthers W W' := ⟨h.size, fun k _ hk _ => (h.block k (Array.getElem?_eq_some_iff.1 hk).1).trans hk⟩
theorem leadAny {K : Prop} (o : Option FuncId) (h : K) : (∀ f : FuncId, o = some f → Fence.wide.fn f) ∧ K := ⟨fun _ _ => trivial, h⟩
theorem noLead {F : Fence} {K : Prop} (h : K) : (∀ f : FuncId, none = some f → F.fn f) ∧ K := ⟨fun _ h => (by cases h), h⟩
theorem nearTo_sub {n r c : Int} : ∀ (d k : Nat) {z : Int}, z ∈ nearTo n r c k → z ∈ nearTo n r c (k + d)
  | 0, k, z, h => h
  | d + 1, k, z, h => by
    have h1 := nearTo_sub d k h
    rw [show k + (d + 1) = k + d + 1 by omega]
    cases hs : stepH[k + d]? with
    | none =>
      have : stepH.length ≤ k + d := by simpa using hs
      unfold nearTo at h1 ⊢
      rw [List.take_of_length_le (by omega)] at h1 ⊢
      exact h1
    | some s =>
      cases ho : onH n (r + s.1) (c + s.2)
      · rw [nearTo_no hs ho]; exact h1
      · rw [nearTo_yes hs ho]; exact List.mem_append_left _ h1
theorem mem_step {n a Y X : Int} {k : Nat} {s : Int × Int} (hk : k < 6) (hs : stepH[k]? = some s) (hY : Y = a / n + s.1) (hX : X = a % n + s.2) (h : onH n Y X = true) : n * Y + X ∈ near n a := by
  have h1 : n * Y + X ∈ nearTo n (a / n) (a % n) (k + 1) := by rw [nearTo_y hs hY hX h]; simp
  have h2 := nearTo_sub (6 - (k + 1)) (k + 1) h1
  rw [show k + 1 + (6 - (k + 1)) = 6 by omega] at h2
  exact h2

set_option maxRecDepth 100000 in
theorem hexN_any (n a : Int) (w : World) :
    Calls Try.prog 89 #[.int .i64 n, .int .i64 a] w fun e w' => e = .returned (.func (.func 111) #[] #[.pointer (some ⟨w.heap.size + 1, 0, none⟩), .pointer (some ⟨w.heap.size, 0, none⟩)]) ∧ (w.alloc (.cells #[.int .i64 n] 2)).alloc (.cells #[.int .i64 a] 2) = w' := by
  go_enter Try.func89, Try.ntmps89
  go_wp2
  go_ret
  exact ⟨rfl, rfl⟩
theorem row1 {w : World} {b : Nat} {x : Value} {t : TypeId} (h : w.heap[b]? = some (.cells #[x] t (0, 0))) : w.cell? ⟨b, 0, none⟩ = some x ∧ w.frozen? ⟨b, 0, none⟩ = false :=
  ⟨(cell_of_row _ _ 0 _ _ (0, 0) h).trans rfl, frozen_of_row _ _ 0 _ _ h⟩

set_option maxRecDepth 100000 in
set_option maxHeartbeats 8000000 in
theorem hexN_in (m : Nat) (hm : 1 ≤ m) (l Bn Bc n₀ : Nat) (n a : Int) (hn : 1 ≤ n) (hn8 : n ≤ 8) (h0 : 0 ≤ a) (h1 : a < n * n) (J Jx : List (Nc n a) → World → Prop) (hJ : ∀ s A C, J s A → Below A.heap.size A C → J s C)
    (hY : ∀ pre x W, J pre W → pre.length < 6 → YieldAt Fence.wide (m - 1) Try.prog l #[.int .i64 x.1] W fun e W' =>
      (e = .returned (.bool true) ∧ J (pre ++ [x]) W' ∧ KeepB n₀ Bn Bc W W') ∨ (e = .returned (.bool false) ∧ Jx (pre ++ [x]) W'))
    (W : World) (hBn : W.heap[Bn]? = some (.cells #[.int .i64 n] 2 (0, 0))) (hBc : W.heap[Bc]? = some (.cells #[.int .i64 a] 2 (0, 0))) (hn₀ : n₀ ≤ W.heap.size) (hJ0 : J [] W) :
    CallsIn Fence.wide m Try.prog 111 #[.func (.yield l) #[] #[], .pointer (some ⟨Bc, 0, none⟩), .pointer (some ⟨Bn, 0, none⟩)] W fun e W' => (∃ v, e = .returned v) ∧
      ((∃ ys : List (Nc n a), ys.map (·.1) = near n a ∧ J ys W') ∨ (∃ pre, True ∧ Jx pre W')) := by
  obtain ⟨k1, k2, k3, k4, q1, q2, q3, q4⟩ := cell_walk hn hn8 h0 h1
  have q5 := (sq_nums hn hn8).2.1
  have hne : (n == 0) = false := by simp; omega
  have hne' : ¬ n = 0 := by omega
  obtain ⟨r, hr⟩ : ∃ r, r = a / n := ⟨_, rfl⟩
  obtain ⟨c, hc⟩ : ∃ c, c = a % n := ⟨_, rfl⟩
  have HRC := hide (And.intro hr hc)
  have hN : Hid (near n a = nearTo n r c 6) := hide (by rw [hr, hc]; rfl)
  rw [← hr] at k1 k2 q1 q4
  rw [← hc] at k3 k4 q2 q3
  clear hr hc
  have ha : a ≤ 64 := by omega
  clear h1
  have HQ := hide (And.intro q1 (And.intro q2 (And.intro q3 q4)))
  have HY := hide hY
  have HJ := hide hJ
  have HBn := hide hBn
  have HBc := hide hBc
  have hBnl : Hid (Bn < W.heap.size) := hide (block_lt hBn)
  have hBcl : Hid (Bc < W.heap.size) := hide (block_lt hBc)
  clear q1 q2 q3 q4 hY hJ hBn hBc
  refine callsIn_of_wp Try.func111 rfl trivial ?_ rfl
  simp only [Try.ntmps111, List.size_toArray, List.length_cons, List.length_nil, Nat.reduceAdd, Nat.reduceSub, Array.replicate_succ, Array.replicate_zero, List.push_toArray, List.append_toArray, List.nil_append, List.cons_append]
  gi_wp2
  gi_loopw [15] (fun j wr => ∃ (k : Nat) (ys : List (Nc n a)), j = .int .i64 k ∧ k ≤ 6 ∧ Hid (ys.map (·.1) = nearTo n r c k) ∧ J ys wr ∧ KeepB n₀ Bn Bc W wr ∧ Hid (W.heap.size ≤ wr.heap.size))
    (fun j _ => 6 - (intOf j).toNat)
  case atStart => exact ⟨0, [], rfl, by omega, rfl, hJ0, KeepB.refl _ _ _ _, hide (Nat.le_refl _)⟩
  case round =>
    obtain ⟨k, ys, rfl, hk, hys, hJs, hK, hS⟩ := hrel
    by_cases hlt : k < 6
    · have hrn : wr.heap[Bn]? = some (.cells #[.int .i64 n] 2 (0, 0)) := by rw [hK.2.1]; exact HBn.out
      have hrc : wr.heap[Bc]? = some (.cells #[.int .i64 a] 2 (0, 0)) := by rw [hK.2.2]; exact HBc.out
      obtain ⟨cn, _⟩ := row1 hrn
      obtain ⟨cc, _⟩ := row1 hrc
      have hBnr : Hid (Bn < wr.heap.size) := hide (block_lt hrn)
      have hBcr : Hid (Bc < wr.heap.size) := hide (block_lt hrc)
      have hlen : Hid (ys.length < 6 ∨ 6 ≤ k) := hide (by
        have h1 := congrArg List.length hys.out
        have h2 := nearTo_len n r c k
        rw [List.length_map] at h1
        omega)
      have hnr : Hid (n₀ ≤ wr.heap.size) := hide (by have := hS.out; omega)
      have HJs := hide hJs
      clear hJs hrn hrc
      obtain ⟨q1, q2, q3, q4⟩ := HQ.out
      rcases (by omega : k = 0 ∨ k = 1 ∨ k = 2 ∨ k = 3 ∨ k = 4 ∨ k = 5) with rfl | rfl | rfl | rfl | rfl | rfl
      · -- step 0
        have hix : ∀ w0 : World, (Instr.index 131 (.agg #[.int .i64 (-1), .int .i64 0, .int .i64 (-1), .int .i64 1, .int .i64 0, .int .i64 (-1), .int .i64 0, .int .i64 1, .int .i64 1, .int .i64 (-1), .int .i64 1, .int .i64 0]) (.int .i64 0)).run Try.prog w0 = .ok (.agg #[.int .i64 (-1), .int .i64 0]) w0 := fun _ => by kernel_rfl
        gi_wp2
        obtain ⟨V, hV⟩ : ∃ V, V = wr.alloc (.cells #[.int .i64 (-1), .int .i64 0] 130) := ⟨_, rfl⟩
        rw [← hV]
        have hbV : Below wr.heap.size wr V := by rw [hV]; exact below_alloc _ _
        have hrV : V.heap[wr.heap.size]? = some (.cells #[.int .i64 (-1), .int .i64 0] 130 (0, 0)) := by rw [hV]; exact alloc_row _ _ _
        have cn1 : ∀ p : Past V, p.to.cell? ⟨Bn, 0, none⟩ = some (.int .i64 n) := fun p => p.cell (cell_keep hbV cn)
        have cc1 : ∀ p : Past V, p.to.cell? ⟨Bc, 0, none⟩ = some (.int .i64 a) := fun p => p.cell (cell_keep hbV cc)
        have e0 : ∀ p : Past V, p.to.cell? ⟨wr.heap.size, 0, none⟩ = some (.int .i64 (-1)) := fun p => p.cell (row2' hrV).1
        have e1 : ∀ p : Past V, p.to.cell? ⟨wr.heap.size, 1, none⟩ = some (.int .i64 0) := fun p => p.cell (row2' hrV).2.1
        clear hix hV hrV cn cc
        refine wpIn_region_pastW (by kernel_rfl) (by kernel_rfl) (by kernel_rfl) ?_
        repeat (first | go_big_quiet_step (fail) | quiet_step (fail))
        refine wpQuiet_nil ?_
        rintro _ ⟨pq, rfl⟩
        have cn := cn1 pq
        have hb1 : Below wr.heap.size wr pq.to := Below.trans' hbV pq.old
        have hJ2 := hide (HJ.out _ _ _ HJs.out hb1)
        have hK2 := hide (hK.trans (KeepB.of_below hb1 hnr.out hBnr.out hBcr.out))
        have hS2 : Hid (W.heap.size ≤ pq.to.heap.size) := hide (Nat.le_trans hS.out hb1.size)
        clear hbV hb1 cn1 cc1 e0 e1 q1 q2 q3 q4
        cases ho : onH n (r + -1) c
        · have hno := onH_no ho
          have HN := hide (nearTo_n (n := n) (r := r) (c := c) (k := 0) (Y := (r + -1)) (X := c) rfl (by simp; try omega) (by simp; try omega) ho)
          clear ho
          gi_wp2_with (with_reducible refine noLead ?_)
          all_goals
            go_roundw
            case rel => exact ⟨1, ys, by go_num, by omega, by rw [HN.out]; exact hys, hJ2.out, hK2.out, hS2⟩
            case measure => simp [intOf]
        · obtain ⟨a1, a2, a3, a4⟩ := onH_yes ho
          have HN := hide (nearTo_y (n := n) (r := r) (c := c) (k := 0) (Y := (r + -1)) (X := c) rfl (by simp; try omega) (by simp; try omega) ho)
          have hmem : n * (r + -1) + c ∈ near n a := mem_step (k := 0) (by omega) rfl (by have h := HRC.out.1; show (r + -1) = a / n + (-1); omega) (by have h := HRC.out.2; show c = a % n + 0; omega) ho
          obtain ⟨w1, w2, w3, w4⟩ := row_wraps hn hn8 (Y := (r + -1)) (X := c) ⟨a1, by omega⟩ ⟨a2, by omega⟩
          have hJ3 := hJ2.out
          obtain ⟨fn, tmps, assign, body, hy, hR⟩ := HY.out _ ⟨n * (r + -1) + c, hmem⟩ pq.to hJ3 (by have := hlen.out; omega)
          dsimp only at hy
          clear ho hJ3
          gi_wp2_with (with_reducible refine noLead ?_)
          all_goals
            refine hR.mono ?_
            rintro e W3 (⟨rfl, hJ3, hk3⟩ | ⟨rfl, hJx3⟩)
            · have hK3 := hide (hK2.out.trans hk3)
              have hS3 : Hid (W.heap.size ≤ W3.heap.size) := hide (Nat.le_trans hS2.out hk3.1.size)
              have HJ3 := hide hJ3
              clear hJ3 hk3 hy
              gi_wp2
              go_roundw
              case rel => exact ⟨1, ys ++ [⟨n * (r + -1) + c, hmem⟩], by go_num, by omega, by rw [HN.out, List.map_append, hys.out]; rfl, HJ3.out, hK3.out, hS3⟩
              case measure => simp [intOf]
            · gi_wp2
              refine bodyPost_ret (results_none rfl _ _ _) rfl ?_
              exact ⟨⟨_, rfl⟩, .inr ⟨_, trivial, hJx3⟩⟩
      · -- step 1
        have hix : ∀ w0 : World, (Instr.index 131 (.agg #[.int .i64 (-1), .int .i64 0, .int .i64 (-1), .int .i64 1, .int .i64 0, .int .i64 (-1), .int .i64 0, .int .i64 1, .int .i64 1, .int .i64 (-1), .int .i64 1, .int .i64 0]) (.int .i64 1)).run Try.prog w0 = .ok (.agg #[.int .i64 (-1), .int .i64 1]) w0 := fun _ => by kernel_rfl
        gi_wp2
        obtain ⟨V, hV⟩ : ∃ V, V = wr.alloc (.cells #[.int .i64 (-1), .int .i64 1] 130) := ⟨_, rfl⟩
        rw [← hV]
        have hbV : Below wr.heap.size wr V := by rw [hV]; exact below_alloc _ _
        have hrV : V.heap[wr.heap.size]? = some (.cells #[.int .i64 (-1), .int .i64 1] 130 (0, 0)) := by rw [hV]; exact alloc_row _ _ _
        have cn1 : ∀ p : Past V, p.to.cell? ⟨Bn, 0, none⟩ = some (.int .i64 n) := fun p => p.cell (cell_keep hbV cn)
        have cc1 : ∀ p : Past V, p.to.cell? ⟨Bc, 0, none⟩ = some (.int .i64 a) := fun p => p.cell (cell_keep hbV cc)
        have e0 : ∀ p : Past V, p.to.cell? ⟨wr.heap.size, 0, none⟩ = some (.int .i64 (-1)) := fun p => p.cell (row2' hrV).1
        have e1 : ∀ p : Past V, p.to.cell? ⟨wr.heap.size, 1, none⟩ = some (.int .i64 1) := fun p => p.cell (row2' hrV).2.1
        clear hix hV hrV cn cc
        refine wpIn_region_pastW (by kernel_rfl) (by kernel_rfl) (by kernel_rfl) ?_
        repeat (first | go_big_quiet_step (fail) | quiet_step (fail))
        refine wpQuiet_nil ?_
        rintro _ ⟨pq, rfl⟩
        have cn := cn1 pq
        have hb1 : Below wr.heap.size wr pq.to := Below.trans' hbV pq.old
        have hJ2 := hide (HJ.out _ _ _ HJs.out hb1)
        have hK2 := hide (hK.trans (KeepB.of_below hb1 hnr.out hBnr.out hBcr.out))
        have hS2 : Hid (W.heap.size ≤ pq.to.heap.size) := hide (Nat.le_trans hS.out hb1.size)
        clear hbV hb1 cn1 cc1 e0 e1 q1 q2 q3 q4
        cases ho : onH n (r + -1) (c + 1)
        · have hno := onH_no ho
          have HN := hide (nearTo_n (n := n) (r := r) (c := c) (k := 1) (Y := (r + -1)) (X := (c + 1)) rfl (by simp; try omega) (by simp; try omega) ho)
          clear ho
          gi_wp2_with (with_reducible refine noLead ?_)
          all_goals
            go_roundw
            case rel => exact ⟨2, ys, by go_num, by omega, by rw [HN.out]; exact hys, hJ2.out, hK2.out, hS2⟩
            case measure => simp [intOf]
        · obtain ⟨a1, a2, a3, a4⟩ := onH_yes ho
          have HN := hide (nearTo_y (n := n) (r := r) (c := c) (k := 1) (Y := (r + -1)) (X := (c + 1)) rfl (by simp; try omega) (by simp; try omega) ho)
          have hmem : n * (r + -1) + (c + 1) ∈ near n a := mem_step (k := 1) (by omega) rfl (by have h := HRC.out.1; show (r + -1) = a / n + (-1); omega) (by have h := HRC.out.2; show (c + 1) = a % n + 1; omega) ho
          obtain ⟨w1, w2, w3, w4⟩ := row_wraps hn hn8 (Y := (r + -1)) (X := (c + 1)) ⟨a1, by omega⟩ ⟨a2, by omega⟩
          have hJ3 := hJ2.out
          obtain ⟨fn, tmps, assign, body, hy, hR⟩ := HY.out _ ⟨n * (r + -1) + (c + 1), hmem⟩ pq.to hJ3 (by have := hlen.out; omega)
          dsimp only at hy
          clear ho hJ3
          gi_wp2_with (with_reducible refine noLead ?_)
          all_goals
            refine hR.mono ?_
            rintro e W3 (⟨rfl, hJ3, hk3⟩ | ⟨rfl, hJx3⟩)
            · have hK3 := hide (hK2.out.trans hk3)
              have hS3 : Hid (W.heap.size ≤ W3.heap.size) := hide (Nat.le_trans hS2.out hk3.1.size)
              have HJ3 := hide hJ3
              clear hJ3 hk3 hy
              gi_wp2
              go_roundw
              case rel => exact ⟨2, ys ++ [⟨n * (r + -1) + (c + 1), hmem⟩], by go_num, by omega, by rw [HN.out, List.map_append, hys.out]; rfl, HJ3.out, hK3.out, hS3⟩
              case measure => simp [intOf]
            · gi_wp2
              refine bodyPost_ret (results_none rfl _ _ _) rfl ?_
              exact ⟨⟨_, rfl⟩, .inr ⟨_, trivial, hJx3⟩⟩
      · -- step 2
        have hix : ∀ w0 : World, (Instr.index 131 (.agg #[.int .i64 (-1), .int .i64 0, .int .i64 (-1), .int .i64 1, .int .i64 0, .int .i64 (-1), .int .i64 0, .int .i64 1, .int .i64 1, .int .i64 (-1), .int .i64 1, .int .i64 0]) (.int .i64 2)).run Try.prog w0 = .ok (.agg #[.int .i64 0, .int .i64 (-1)]) w0 := fun _ => by kernel_rfl
        gi_wp2
        obtain ⟨V, hV⟩ : ∃ V, V = wr.alloc (.cells #[.int .i64 0, .int .i64 (-1)] 130) := ⟨_, rfl⟩
        rw [← hV]
        have hbV : Below wr.heap.size wr V := by rw [hV]; exact below_alloc _ _
        have hrV : V.heap[wr.heap.size]? = some (.cells #[.int .i64 0, .int .i64 (-1)] 130 (0, 0)) := by rw [hV]; exact alloc_row _ _ _
        have cn1 : ∀ p : Past V, p.to.cell? ⟨Bn, 0, none⟩ = some (.int .i64 n) := fun p => p.cell (cell_keep hbV cn)
        have cc1 : ∀ p : Past V, p.to.cell? ⟨Bc, 0, none⟩ = some (.int .i64 a) := fun p => p.cell (cell_keep hbV cc)
        have e0 : ∀ p : Past V, p.to.cell? ⟨wr.heap.size, 0, none⟩ = some (.int .i64 0) := fun p => p.cell (row2' hrV).1
        have e1 : ∀ p : Past V, p.to.cell? ⟨wr.heap.size, 1, none⟩ = some (.int .i64 (-1)) := fun p => p.cell (row2' hrV).2.1
        clear hix hV hrV cn cc
        refine wpIn_region_pastW (by kernel_rfl) (by kernel_rfl) (by kernel_rfl) ?_
        repeat (first | go_big_quiet_step (fail) | quiet_step (fail))
        refine wpQuiet_nil ?_
        rintro _ ⟨pq, rfl⟩
        have cn := cn1 pq
        have hb1 : Below wr.heap.size wr pq.to := Below.trans' hbV pq.old
        have hJ2 := hide (HJ.out _ _ _ HJs.out hb1)
        have hK2 := hide (hK.trans (KeepB.of_below hb1 hnr.out hBnr.out hBcr.out))
        have hS2 : Hid (W.heap.size ≤ pq.to.heap.size) := hide (Nat.le_trans hS.out hb1.size)
        clear hbV hb1 cn1 cc1 e0 e1 q1 q2 q3 q4
        cases ho : onH n r (c + -1)
        · have hno := onH_no ho
          have HN := hide (nearTo_n (n := n) (r := r) (c := c) (k := 2) (Y := r) (X := (c + -1)) rfl (by simp; try omega) (by simp; try omega) ho)
          clear ho
          gi_wp2_with (with_reducible refine noLead ?_)
          all_goals
            go_roundw
            case rel => exact ⟨3, ys, by go_num, by omega, by rw [HN.out]; exact hys, hJ2.out, hK2.out, hS2⟩
            case measure => simp [intOf]
        · obtain ⟨a1, a2, a3, a4⟩ := onH_yes ho
          have HN := hide (nearTo_y (n := n) (r := r) (c := c) (k := 2) (Y := r) (X := (c + -1)) rfl (by simp; try omega) (by simp; try omega) ho)
          have hmem : n * r + (c + -1) ∈ near n a := mem_step (k := 2) (by omega) rfl (by have h := HRC.out.1; show r = a / n + 0; omega) (by have h := HRC.out.2; show (c + -1) = a % n + (-1); omega) ho
          obtain ⟨w1, w2, w3, w4⟩ := row_wraps hn hn8 (Y := r) (X := (c + -1)) ⟨a1, by omega⟩ ⟨a2, by omega⟩
          have hJ3 := hJ2.out
          obtain ⟨fn, tmps, assign, body, hy, hR⟩ := HY.out _ ⟨n * r + (c + -1), hmem⟩ pq.to hJ3 (by have := hlen.out; omega)
          dsimp only at hy
          clear ho hJ3
          gi_wp2_with (with_reducible refine noLead ?_)
          all_goals
            refine hR.mono ?_
            rintro e W3 (⟨rfl, hJ3, hk3⟩ | ⟨rfl, hJx3⟩)
            · have hK3 := hide (hK2.out.trans hk3)
              have hS3 : Hid (W.heap.size ≤ W3.heap.size) := hide (Nat.le_trans hS2.out hk3.1.size)
              have HJ3 := hide hJ3
              clear hJ3 hk3 hy
              gi_wp2
              go_roundw
              case rel => exact ⟨3, ys ++ [⟨n * r + (c + -1), hmem⟩], by go_num, by omega, by rw [HN.out, List.map_append, hys.out]; rfl, HJ3.out, hK3.out, hS3⟩
              case measure => simp [intOf]
            · gi_wp2
              refine bodyPost_ret (results_none rfl _ _ _) rfl ?_
              exact ⟨⟨_, rfl⟩, .inr ⟨_, trivial, hJx3⟩⟩
      · -- step 3
        have hix : ∀ w0 : World, (Instr.index 131 (.agg #[.int .i64 (-1), .int .i64 0, .int .i64 (-1), .int .i64 1, .int .i64 0, .int .i64 (-1), .int .i64 0, .int .i64 1, .int .i64 1, .int .i64 (-1), .int .i64 1, .int .i64 0]) (.int .i64 3)).run Try.prog w0 = .ok (.agg #[.int .i64 0, .int .i64 1]) w0 := fun _ => by kernel_rfl
        gi_wp2
        obtain ⟨V, hV⟩ : ∃ V, V = wr.alloc (.cells #[.int .i64 0, .int .i64 1] 130) := ⟨_, rfl⟩
        rw [← hV]
        have hbV : Below wr.heap.size wr V := by rw [hV]; exact below_alloc _ _
        have hrV : V.heap[wr.heap.size]? = some (.cells #[.int .i64 0, .int .i64 1] 130 (0, 0)) := by rw [hV]; exact alloc_row _ _ _
        have cn1 : ∀ p : Past V, p.to.cell? ⟨Bn, 0, none⟩ = some (.int .i64 n) := fun p => p.cell (cell_keep hbV cn)
        have cc1 : ∀ p : Past V, p.to.cell? ⟨Bc, 0, none⟩ = some (.int .i64 a) := fun p => p.cell (cell_keep hbV cc)
        have e0 : ∀ p : Past V, p.to.cell? ⟨wr.heap.size, 0, none⟩ = some (.int .i64 0) := fun p => p.cell (row2' hrV).1
        have e1 : ∀ p : Past V, p.to.cell? ⟨wr.heap.size, 1, none⟩ = some (.int .i64 1) := fun p => p.cell (row2' hrV).2.1
        clear hix hV hrV cn cc
        refine wpIn_region_pastW (by kernel_rfl) (by kernel_rfl) (by kernel_rfl) ?_
        repeat (first | go_big_quiet_step (fail) | quiet_step (fail))
        refine wpQuiet_nil ?_
        rintro _ ⟨pq, rfl⟩
        have cn := cn1 pq
        have hb1 : Below wr.heap.size wr pq.to := Below.trans' hbV pq.old
        have hJ2 := hide (HJ.out _ _ _ HJs.out hb1)
        have hK2 := hide (hK.trans (KeepB.of_below hb1 hnr.out hBnr.out hBcr.out))
        have hS2 : Hid (W.heap.size ≤ pq.to.heap.size) := hide (Nat.le_trans hS.out hb1.size)
        clear hbV hb1 cn1 cc1 e0 e1 q1 q2 q3 q4
        cases ho : onH n r (c + 1)
        · have hno := onH_no ho
          have HN := hide (nearTo_n (n := n) (r := r) (c := c) (k := 3) (Y := r) (X := (c + 1)) rfl (by simp; try omega) (by simp; try omega) ho)
          clear ho
          gi_wp2_with (with_reducible refine noLead ?_)
          all_goals
            go_roundw
            case rel => exact ⟨4, ys, by go_num, by omega, by rw [HN.out]; exact hys, hJ2.out, hK2.out, hS2⟩
            case measure => simp [intOf]
        · obtain ⟨a1, a2, a3, a4⟩ := onH_yes ho
          have HN := hide (nearTo_y (n := n) (r := r) (c := c) (k := 3) (Y := r) (X := (c + 1)) rfl (by simp; try omega) (by simp; try omega) ho)
          have hmem : n * r + (c + 1) ∈ near n a := mem_step (k := 3) (by omega) rfl (by have h := HRC.out.1; show r = a / n + 0; omega) (by have h := HRC.out.2; show (c + 1) = a % n + 1; omega) ho
          obtain ⟨w1, w2, w3, w4⟩ := row_wraps hn hn8 (Y := r) (X := (c + 1)) ⟨a1, by omega⟩ ⟨a2, by omega⟩
          have hJ3 := hJ2.out
          obtain ⟨fn, tmps, assign, body, hy, hR⟩ := HY.out _ ⟨n * r + (c + 1), hmem⟩ pq.to hJ3 (by have := hlen.out; omega)
          dsimp only at hy
          clear ho hJ3
          gi_wp2_with (with_reducible refine noLead ?_)
          all_goals
            refine hR.mono ?_
            rintro e W3 (⟨rfl, hJ3, hk3⟩ | ⟨rfl, hJx3⟩)
            · have hK3 := hide (hK2.out.trans hk3)
              have hS3 : Hid (W.heap.size ≤ W3.heap.size) := hide (Nat.le_trans hS2.out hk3.1.size)
              have HJ3 := hide hJ3
              clear hJ3 hk3 hy
              gi_wp2
              go_roundw
              case rel => exact ⟨4, ys ++ [⟨n * r + (c + 1), hmem⟩], by go_num, by omega, by rw [HN.out, List.map_append, hys.out]; rfl, HJ3.out, hK3.out, hS3⟩
              case measure => simp [intOf]
            · gi_wp2
              refine bodyPost_ret (results_none rfl _ _ _) rfl ?_
              exact ⟨⟨_, rfl⟩, .inr ⟨_, trivial, hJx3⟩⟩
      · -- step 4
        have hix : ∀ w0 : World, (Instr.index 131 (.agg #[.int .i64 (-1), .int .i64 0, .int .i64 (-1), .int .i64 1, .int .i64 0, .int .i64 (-1), .int .i64 0, .int .i64 1, .int .i64 1, .int .i64 (-1), .int .i64 1, .int .i64 0]) (.int .i64 4)).run Try.prog w0 = .ok (.agg #[.int .i64 1, .int .i64 (-1)]) w0 := fun _ => by kernel_rfl
        gi_wp2
        obtain ⟨V, hV⟩ : ∃ V, V = wr.alloc (.cells #[.int .i64 1, .int .i64 (-1)] 130) := ⟨_, rfl⟩
        rw [← hV]
        have hbV : Below wr.heap.size wr V := by rw [hV]; exact below_alloc _ _
        have hrV : V.heap[wr.heap.size]? = some (.cells #[.int .i64 1, .int .i64 (-1)] 130 (0, 0)) := by rw [hV]; exact alloc_row _ _ _
        have cn1 : ∀ p : Past V, p.to.cell? ⟨Bn, 0, none⟩ = some (.int .i64 n) := fun p => p.cell (cell_keep hbV cn)
        have cc1 : ∀ p : Past V, p.to.cell? ⟨Bc, 0, none⟩ = some (.int .i64 a) := fun p => p.cell (cell_keep hbV cc)
        have e0 : ∀ p : Past V, p.to.cell? ⟨wr.heap.size, 0, none⟩ = some (.int .i64 1) := fun p => p.cell (row2' hrV).1
        have e1 : ∀ p : Past V, p.to.cell? ⟨wr.heap.size, 1, none⟩ = some (.int .i64 (-1)) := fun p => p.cell (row2' hrV).2.1
        clear hix hV hrV cn cc
        refine wpIn_region_pastW (by kernel_rfl) (by kernel_rfl) (by kernel_rfl) ?_
        repeat (first | go_big_quiet_step (fail) | quiet_step (fail))
        refine wpQuiet_nil ?_
        rintro _ ⟨pq, rfl⟩
        have cn := cn1 pq
        have hb1 : Below wr.heap.size wr pq.to := Below.trans' hbV pq.old
        have hJ2 := hide (HJ.out _ _ _ HJs.out hb1)
        have hK2 := hide (hK.trans (KeepB.of_below hb1 hnr.out hBnr.out hBcr.out))
        have hS2 : Hid (W.heap.size ≤ pq.to.heap.size) := hide (Nat.le_trans hS.out hb1.size)
        clear hbV hb1 cn1 cc1 e0 e1 q1 q2 q3 q4
        cases ho : onH n (r + 1) (c + -1)
        · have hno := onH_no ho
          have HN := hide (nearTo_n (n := n) (r := r) (c := c) (k := 4) (Y := (r + 1)) (X := (c + -1)) rfl (by simp; try omega) (by simp; try omega) ho)
          clear ho
          gi_wp2_with (with_reducible refine noLead ?_)
          all_goals
            go_roundw
            case rel => exact ⟨5, ys, by go_num, by omega, by rw [HN.out]; exact hys, hJ2.out, hK2.out, hS2⟩
            case measure => simp [intOf]
        · obtain ⟨a1, a2, a3, a4⟩ := onH_yes ho
          have HN := hide (nearTo_y (n := n) (r := r) (c := c) (k := 4) (Y := (r + 1)) (X := (c + -1)) rfl (by simp; try omega) (by simp; try omega) ho)
          have hmem : n * (r + 1) + (c + -1) ∈ near n a := mem_step (k := 4) (by omega) rfl (by have h := HRC.out.1; show (r + 1) = a / n + 1; omega) (by have h := HRC.out.2; show (c + -1) = a % n + (-1); omega) ho
          obtain ⟨w1, w2, w3, w4⟩ := row_wraps hn hn8 (Y := (r + 1)) (X := (c + -1)) ⟨a1, by omega⟩ ⟨a2, by omega⟩
          have hJ3 := hJ2.out
          obtain ⟨fn, tmps, assign, body, hy, hR⟩ := HY.out _ ⟨n * (r + 1) + (c + -1), hmem⟩ pq.to hJ3 (by have := hlen.out; omega)
          dsimp only at hy
          clear ho hJ3
          gi_wp2_with (with_reducible refine noLead ?_)
          all_goals
            refine hR.mono ?_
            rintro e W3 (⟨rfl, hJ3, hk3⟩ | ⟨rfl, hJx3⟩)
            · have hK3 := hide (hK2.out.trans hk3)
              have hS3 : Hid (W.heap.size ≤ W3.heap.size) := hide (Nat.le_trans hS2.out hk3.1.size)
              have HJ3 := hide hJ3
              clear hJ3 hk3 hy
              gi_wp2
              go_roundw
              case rel => exact ⟨5, ys ++ [⟨n * (r + 1) + (c + -1), hmem⟩], by go_num, by omega, by rw [HN.out, List.map_append, hys.out]; rfl, HJ3.out, hK3.out, hS3⟩
              case measure => simp [intOf]
            · gi_wp2
              refine bodyPost_ret (results_none rfl _ _ _) rfl ?_
              exact ⟨⟨_, rfl⟩, .inr ⟨_, trivial, hJx3⟩⟩
      · -- step 5
        have hix : ∀ w0 : World, (Instr.index 131 (.agg #[.int .i64 (-1), .int .i64 0, .int .i64 (-1), .int .i64 1, .int .i64 0, .int .i64 (-1), .int .i64 0, .int .i64 1, .int .i64 1, .int .i64 (-1), .int .i64 1, .int .i64 0]) (.int .i64 5)).run Try.prog w0 = .ok (.agg #[.int .i64 1, .int .i64 0]) w0 := fun _ => by kernel_rfl
        gi_wp2
        obtain ⟨V, hV⟩ : ∃ V, V = wr.alloc (.cells #[.int .i64 1, .int .i64 0] 130) := ⟨_, rfl⟩
        rw [← hV]
        have hbV : Below wr.heap.size wr V := by rw [hV]; exact below_alloc _ _
        have hrV : V.heap[wr.heap.size]? = some (.cells #[.int .i64 1, .int .i64 0] 130 (0, 0)) := by rw [hV]; exact alloc_row _ _ _
        have cn1 : ∀ p : Past V, p.to.cell? ⟨Bn, 0, none⟩ = some (.int .i64 n) := fun p => p.cell (cell_keep hbV cn)
        have cc1 : ∀ p : Past V, p.to.cell? ⟨Bc, 0, none⟩ = some (.int .i64 a) := fun p => p.cell (cell_keep hbV cc)
        have e0 : ∀ p : Past V, p.to.cell? ⟨wr.heap.size, 0, none⟩ = some (.int .i64 1) := fun p => p.cell (row2' hrV).1
        have e1 : ∀ p : Past V, p.to.cell? ⟨wr.heap.size, 1, none⟩ = some (.int .i64 0) := fun p => p.cell (row2' hrV).2.1
        clear hix hV hrV cn cc
        refine wpIn_region_pastW (by kernel_rfl) (by kernel_rfl) (by kernel_rfl) ?_
        repeat (first | go_big_quiet_step (fail) | quiet_step (fail))
        refine wpQuiet_nil ?_
        rintro _ ⟨pq, rfl⟩
        have cn := cn1 pq
        have hb1 : Below wr.heap.size wr pq.to := Below.trans' hbV pq.old
        have hJ2 := hide (HJ.out _ _ _ HJs.out hb1)
        have hK2 := hide (hK.trans (KeepB.of_below hb1 hnr.out hBnr.out hBcr.out))
        have hS2 : Hid (W.heap.size ≤ pq.to.heap.size) := hide (Nat.le_trans hS.out hb1.size)
        clear hbV hb1 cn1 cc1 e0 e1 q1 q2 q3 q4
        cases ho : onH n (r + 1) c
        · have hno := onH_no ho
          have HN := hide (nearTo_n (n := n) (r := r) (c := c) (k := 5) (Y := (r + 1)) (X := c) rfl (by simp; try omega) (by simp; try omega) ho)
          clear ho
          gi_wp2_with (with_reducible refine noLead ?_)
          all_goals
            go_roundw
            case rel => exact ⟨6, ys, by go_num, by omega, by rw [HN.out]; exact hys, hJ2.out, hK2.out, hS2⟩
            case measure => simp [intOf]
        · obtain ⟨a1, a2, a3, a4⟩ := onH_yes ho
          have HN := hide (nearTo_y (n := n) (r := r) (c := c) (k := 5) (Y := (r + 1)) (X := c) rfl (by simp; try omega) (by simp; try omega) ho)
          have hmem : n * (r + 1) + c ∈ near n a := mem_step (k := 5) (by omega) rfl (by have h := HRC.out.1; show (r + 1) = a / n + 1; omega) (by have h := HRC.out.2; show c = a % n + 0; omega) ho
          obtain ⟨w1, w2, w3, w4⟩ := row_wraps hn hn8 (Y := (r + 1)) (X := c) ⟨a1, by omega⟩ ⟨a2, by omega⟩
          have hJ3 := hJ2.out
          obtain ⟨fn, tmps, assign, body, hy, hR⟩ := HY.out _ ⟨n * (r + 1) + c, hmem⟩ pq.to hJ3 (by have := hlen.out; omega)
          dsimp only at hy
          clear ho hJ3
          gi_wp2_with (with_reducible refine noLead ?_)
          all_goals
            refine hR.mono ?_
            rintro e W3 (⟨rfl, hJ3, hk3⟩ | ⟨rfl, hJx3⟩)
            · have hK3 := hide (hK2.out.trans hk3)
              have hS3 : Hid (W.heap.size ≤ W3.heap.size) := hide (Nat.le_trans hS2.out hk3.1.size)
              have HJ3 := hide hJ3
              clear hJ3 hk3 hy
              gi_wp2
              go_roundw
              case rel => exact ⟨6, ys ++ [⟨n * (r + 1) + c, hmem⟩], by go_num, by omega, by rw [HN.out, List.map_append, hys.out]; rfl, HJ3.out, hK3.out, hS3⟩
              case measure => simp [intOf]
            · gi_wp2
              refine bodyPost_ret (results_none rfl _ _ _) rfl ?_
              exact ⟨⟨_, rfl⟩, .inr ⟨_, trivial, hJx3⟩⟩
    · obtain rfl : k = 6 := by omega
      have HJs := hide hJs
      clear hJs
      gi_wp2
      go_end0
      exact ⟨⟨_, rfl⟩, .inl ⟨ys, hys.out.trans hN.out.symm, HJs.out⟩⟩
end Go.Proofs.Ytogfoahejgmfgaa
