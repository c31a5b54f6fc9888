/-
  Sprouts positions: the boundaries of a position, one after the other: the function value that boundariesOf hands back, for every loop body that keeps what it reads.
-/
import Derived.RangeFuncNested
import Derived.RangeFuncBound
import Derived.RangeFuncCalls
import Derived.RangeFuncLeaves
import Derived.RangeFuncFrom
import Derived.RangeFuncBox
import Derived.Shelf.Abstract
import Derived.Shelf.RegionOpen
import Derived.OwnWalkIn
import Derived.TacticsInMore
import Derived.LoopNIn
import Derived.LoopIn
import Derived.Test.YtlllkmobhjlmoabSt
namespace Go.Proofs.Ytlllkmobhjlmoab
open Go.RowKit Go.Shelf
attribute [local go_sem] Oper.semAt_some
set_option linter.unusedVariables false

/-- The boundaries by their places: region i, boundary j. -/
abbrev Bi (X : List (List (List Int))) := { x : Nat × Nat // ∃ xss zs, X[x.1]? = some xss ∧ xss[x.2]? = some zs }
def zsOf {X : List (List (List Int))} (x : Bi X) : List Int := (X.getD x.1.1 []).getD x.1.2 []
/-- The value that is handed on for a boundary, read off a world. -/
def bdV (W : World) (a : Option Addr) (i j : Nat) : Value :=
  match a with
  | none => .int .i64 0
  | some p => match W.cell? ⟨p.block, p.off + i, none⟩ with
    | some (.slice (some q) _ _) => (W.cell? ⟨q.block, q.off + j, none⟩).getD (.int .i64 0)
    | _ => .int .i64 0
theorem bdV_of {W : World} {b o b2 o2 n c i j : Nat} {v : Value} (h1 : W.cell? ⟨b, o + i, none⟩ = some (.slice (some ⟨b2, o2, none⟩) n c)) (h2 : W.cell? ⟨b2, o2 + j, none⟩ = some v) : bdV W (some ⟨b, o, none⟩) i j = v := by
  unfold bdV
  simp only [h1, h2]
  rfl
theorem bdV_is {W : World} {a : Option Addr} {X : List (List (List Int))} (ha : CubeAt W a X) {i j : Nat} {xss : List (List Int)} {zs : List Int} (h1 : X[i]? = some xss) (h2 : xss[j]? = some zs) : ∃ a2 c2, bdV W a i j = .slice a2 zs.length c2 ∧ IntsAt W a2 zs := by
  have hi := (List.getElem?_eq_some_iff.1 h1).1
  have hj := (List.getElem?_eq_some_iff.1 h2).1
  obtain ⟨b, o, a1, c1, yss, rfl, k1, r1, g1⟩ := ha.one hi
  have e1 := g1.out.symm.trans h1
  simp only [Option.some.injEq] at e1
  subst e1
  obtain ⟨b2, o2, a2, c2, ys, rfl, k2, r2, g2⟩ := r1.one hj
  have e2 := g2.out.symm.trans h2
  simp only [Option.some.injEq] at e2
  subst e2
  exact ⟨a2, c2, bdV_of k1 k2, r2⟩
def bIn (X : List (List (List Int))) (i : Nat) (xss : List (List Int)) (h : X[i]? = some xss) : (j : Nat) → j ≤ xss.length → List (Bi X)
  | 0, _ => []
  | j + 1, hj => bIn X i xss h j (by omega) ++ [⟨(i, j), xss, xss[j], h, List.getElem?_eq_getElem (by omega)⟩]
def bOut (X : List (List (List Int))) : (i : Nat) → i ≤ X.length → List (Bi X)
  | 0, _ => []
  | i + 1, hi => bOut X i (by omega) ++ bIn X i X[i] (List.getElem?_eq_getElem (by omega)) X[i].length (Nat.le_refl _)
def bAll (X : List (List (List Int))) : List (Bi X) := bOut X X.length (Nat.le_refl _)
theorem bIn_zs (X : List (List (List Int))) (i : Nat) (xss : List (List Int)) (h : X[i]? = some xss) : ∀ (j : Nat) (hj : j ≤ xss.length), (bIn X i xss h j hj).map zsOf = xss.take j
  | 0, _ => by simp [bIn]
  | j + 1, hj => by
    have ih := bIn_zs X i xss h j (by omega)
    rw [bIn, List.map_append, ih, List.take_add_one, List.getElem?_eq_getElem (by omega)]
    simp only [List.map_cons, List.map_nil, zsOf, List.getD_eq_getElem?_getD, h, Option.getD_some, Option.toList_some]
    rw [List.getElem?_eq_getElem (by omega), Option.getD_some]
theorem bOut_zs (X : List (List (List Int))) : ∀ (i : Nat) (hi : i ≤ X.length), (bOut X i hi).map zsOf = (X.take i).flatten
  | 0, _ => by simp [bOut]
  | i + 1, hi => by
    have ih := bOut_zs X i (by omega)
    rw [bOut, List.map_append, ih, bIn_zs, List.take_length, List.take_add_one, List.getElem?_eq_getElem (by omega), List.flatten_append]
    simp
theorem bAll_zs (X : List (List (List Int))) : (bAll X).map zsOf = X.flatten := by
  unfold bAll
  rw [bOut_zs, List.take_length]
theorem bIn_len (X : List (List (List Int))) (i : Nat) (xss : List (List Int)) (h : X[i]? = some xss) : ∀ (j : Nat) (hj : j ≤ xss.length), (bIn X i xss h j hj).length = j
  | 0, _ => by simp [bIn]
  | j + 1, hj => by
    rw [bIn, List.length_append, bIn_len X i xss h j (by omega)]
    rfl
theorem bOut_len (X : List (List (List Int))) (hs : ∀ xss ∈ X, xss.length ≤ 1048576) : ∀ (i : Nat) (hi : i ≤ X.length), (bOut X i hi).length ≤ 1048576 * i
  | 0, _ => by simp [bOut]
  | i + 1, hi => by
    have ih := bOut_len X hs i (by omega)
    have h2 := hs X[i] (List.getElem_mem (by omega))
    rw [bOut, List.length_append, bIn_len]
    omega

/-- What a round must leave alone: what lay below n₀, and the box Bs. -/
def KeepB (n₀ Bs : Nat) (W W' : World) : Prop := Below n₀ W W' ∧ W'.heap[Bs]? = W.heap[Bs]?
theorem KeepB.refl (n₀ Bs : Nat) (W : World) : KeepB n₀ Bs W W := ⟨Below.refl _ _, rfl⟩
theorem KeepB.trans {n₀ Bs : Nat} {A B C : World} (h : KeepB n₀ Bs A B) (k : KeepB n₀ Bs B C) : KeepB n₀ Bs A C := ⟨h.1.trans k.1, k.2.trans h.2⟩
theorem KeepB.of_below {n₀ Bs : Nat} {A B : World} (h : Below A.heap.size A B) (hn : n₀ ≤ A.heap.size) (hb : Bs < A.heap.size) : KeepB n₀ Bs A B := ⟨h.mono hn, h.block _ hb⟩
theorem keepB_b {n₀ Bs : Nat} {w : World} (hn : n₀ ≤ w.heap.size) (hb : Bs < w.heap.size) (W : World) (l : Nat) (o o' : Obj) (hl : w.heap.size ≤ l) (h : W.heap[l]? = some o) (h1 : o.isCells = false) (h2 : o.isWalk = false) : KeepB n₀ Bs W (W.putObj l o') :=
  ⟨belowK_b hn W l o o' hl h h1 h2, World.putObj_heap_other (by omega)⟩
/-- What speaks of blocks below the loop's own is the loop's to keep. -/
theorem ownFrom_of_below {β : Type} {B : Nat} {I : β → World → Prop} (hsz : ∀ s W, I s W → B ≤ W.heap.size) (h : ∀ s W W', I s W → Below B W W' → I s W') : OwnFrom B I := fun s W W' row hs hg hr =>
  h s W W' hs ⟨hg.os, hg.tape, hg.output, hg.size, fun k hk => hg.block k (by have := hsz s W hs; omega) (fun e => by have := (hr k e.symm).1; omega)⟩
theorem keepsOthers_below {W W' : World} (h : Below W.heap.size W W') : KeepsOthers W W' := ⟨h.size, fun k _ hk _ => (h.block k (Array.getElem?_eq_some_iff.1 hk).1).trans hk⟩

theorem leadAny {K : Prop} (o : Option FuncId) (h : K) : (∀ f : FuncId, o = some f → Fence.wide.fn f) ∧ K := ⟨fun _ _ => trivial, h⟩
theorem noLead {F : Fence} {K : Prop} (h : K) : (∀ f : FuncId, none = some f → F.fn f) ∧ K := ⟨fun _ h => (by cases h), h⟩

set_option maxRecDepth 100000 in
theorem boundariesOf_any (a : Option Addr) (n c : Nat) (w : World) :
    Calls Try.prog 23 #[.slice a n c] w fun e w' => e = .returned (.func (.func 34) #[] #[.pointer (some ⟨w.heap.size, 0, none⟩)]) ∧ w.alloc (.cells #[.slice a n c] 22) = w' := by
  go_enter Try.func23, Try.ntmps23
  go_wp2
  go_ret
  exact ⟨rfl, rfl⟩

set_option maxRecDepth 100000 in
set_option maxHeartbeats 2000000 in
theorem bounds_in (m : Nat) (hm : 1 ≤ m) (l Bs n₀ : Nat) (a : Option Addr) (c : Nat) (X : List (List (List Int))) (hs : Small3 X) (W : World) (hn₀ : n₀ ≤ W.heap.size) (V0 : World) (hV0 : V0.heap.size ≤ n₀) (hVW : Below V0.heap.size V0 W) (ha : CubeAt V0 a X)
    (J Jx : List (Bi X) → World → Prop) (hJ : ∀ s A C, J s A → Below A.heap.size A C → J s C)
    (hY : ∀ pre x W, J pre W → pre.length < 1125899906842624 → YieldAt Fence.wide (m - 1) Try.prog l #[bdV V0 a x.1.1 x.1.2] W fun e W' =>
      (e = .returned (.bool true) ∧ J (pre ++ [x]) W' ∧ KeepB n₀ Bs W W') ∨ (e = .returned (.bool false) ∧ Jx (pre ++ [x]) W'))
    (hBs : W.heap[Bs]? = some (.cells #[.slice a X.length c] 22 (0, 0))) (h0 : J [] W) :
    CallsIn Fence.wide m Try.prog 34 #[.func (.yield l) #[] #[], .pointer (some ⟨Bs, 0, none⟩)] W fun e W' => (∃ v, e = .returned v) ∧
      ((∃ ys, ys = bAll X ∧ J ys W') ∨ (∃ pre, True ∧ Jx pre W')) := by
  have hBl : Bs < W.heap.size := (Array.getElem?_eq_some_iff.1 hBs).1
  have HBS := hide hBs
  have HY := hide hY
  have HJ := hide hJ
  have HA := hide ha
  have HSM := hide hs
  obtain ⟨n, hn⟩ : ∃ n, n = X.length := ⟨_, rfl⟩
  have HN := hide hn
  have hnB : n ≤ 1048576 := by rw [hn]; exact hs.1
  have c0 : W.cell? ⟨Bs, 0, none⟩ = some (.slice a X.length c) := (cell_of_row _ _ 0 _ _ (0, 0) hBs).trans rfl
  rw [← hn] at c0
  clear hBs hY hJ ha hs hn
  refine callsIn_of_wp Try.func34 rfl trivial ?_ rfl
  simp only [Try.ntmps34, List.size_toArray, List.length_cons, List.length_nil, Nat.reduceAdd, Nat.reduceSub, Array.replicate_succ, Array.replicate_zero, List.push_toArray, List.append_toArray, List.nil_append, List.cons_append]
  gi_wp2
  clear c0
  gi_loopw [9] (fun iv wr => ∃ (k : Nat) (hk : k ≤ X.length), iv = .int .i64 k ∧ J (bOut X k hk) wr ∧ KeepB n₀ Bs W wr ∧ Hid (W.heap.size ≤ wr.heap.size))
    (fun iv _ => n - (intOf iv).toNat)
  case atStart => exact ⟨0, by omega, rfl, h0, KeepB.refl _ _ _, hide (Nat.le_refl _)⟩
  case round =>
    obtain ⟨k, hk, rfl, hJs, hK, hS⟩ := hrel
    obtain ⟨wo, rfl⟩ : ∃ wo : World, wo = wr := ⟨_, rfl⟩
    by_cases hlt : k < n
    · have hkn : k < X.length := by rw [← HN.out]; exact hlt
      obtain ⟨b1, o1, a1, c1, xss, e0, hcell1, hz1, hg1⟩ := HA.out.one hkn
      have hVr := hVW.trans (hK.1.mono hV0)
      have d1 := cell_keep hVr hcell1
      obtain ⟨mm, hm1⟩ : ∃ mm, mm = xss.length := ⟨_, rfl⟩
      have HM := hide hm1
      have hmB : mm ≤ 1048576 := by rw [hm1]; exact (HSM.out.2.2 xss (mem_of_get hg1.out)).1
      have HC1 := hide hcell1
      have HZ1 := hide hz1
      rw [← hm1] at d1
      subst e0
      clear hcell1 hz1 hm1
      have hnx : Hid (bOut X (k + 1) (by omega) = bOut X k hk ++ bIn X k xss hg1.out xss.length (Nat.le_refl _)) := hide (by
        have e := (List.getElem?_eq_getElem hkn).symm.trans hg1.out
        simp only [Option.some.injEq] at e
        subst e
        rw [bOut])

      gi_wp2
      clear d1
      gi_loopw [15] (fun iv wr => ∃ (q : Nat) (hq : q ≤ xss.length), iv = .int .i64 q ∧ J (bOut X k hk ++ bIn X k xss hg1.out q hq) wr ∧ KeepB n₀ Bs W wr ∧ Hid (W.heap.size ≤ wr.heap.size))
        (fun iv _ => mm - (intOf iv).toNat)
      case atStart => exact ⟨0, by omega, rfl, by rw [bIn, List.append_nil]; exact hJs, hK, hS⟩
      case round =>
        clear hJs hK hS hVr
        obtain ⟨q, hq, rfl, hJq, hKq, hSq⟩ := hrel
        by_cases hql : q < mm
        · have hqx : q < xss.length := by rw [← HM.out]; exact hql
          obtain ⟨b2, o2, a2, c2, zs, e0, hcell2, hz2, hg2⟩ := HZ1.out.one hqx
          subst e0
          have hVr := hVW.trans (hKq.1.mono hV0)
          have d2 := cell_keep hVr hcell2
          have hbd : Hid (bdV V0 (some ⟨b1, o1, none⟩) k q = .slice a2 zs.length c2) := hide (bdV_of HC1.out hcell2)
          have hlen : (bOut X k hk ++ bIn X k xss hg1.out q hq).length < 1125899906842624 := by
            rw [List.length_append, bIn_len]
            have h1 := bOut_len X (fun x hx => (HSM.out.2.2 x hx).1) k hk
            omega
          obtain ⟨fn, tmps, assign, body, hy, hR⟩ := HY.out _ ⟨(k, q), xss, zs, hg1.out, hg2.out⟩ wr hJq hlen
          dsimp only at hy hR
          rw [hbd.out] at hy
          have hnq : Hid (bIn X k xss hg1.out (q + 1) (by omega) = bIn X k xss hg1.out q hq ++ [⟨(k, q), xss, zs, hg1.out, hg2.out⟩]) := hide (by
            have e := (List.getElem?_eq_getElem hqx).symm.trans hg2.out
            simp only [Option.some.injEq] at e
            subst e
            rw [bIn])
          clear hcell2 hz2 hVr hJq hlen
          gi_wp2
          refine hR.mono ?_
          rintro e W3 (⟨rfl, hJ3, hk3⟩ | ⟨rfl, hJx3⟩)
          · have hK3 := hide (hKq.trans hk3)
            have hS3 : Hid (W.heap.size ≤ W3.heap.size) := hide (Nat.le_trans hSq.out hk3.1.size)
            have HJ3 := hide hJ3
            clear hJ3 hk3 hy
            gi_wp2
            go_roundw
            case rel => exact ⟨q + 1, by omega, by go_num, by rw [hnq.out, ← List.append_assoc]; exact HJ3.out, hK3.out, hS3⟩
            case measure => simp [intOf]; omega
          · gi_wp2
            refine bodyPost_ret (results_none rfl _ _ _) rfl ?_
            exact ⟨⟨_, rfl⟩, .inr ⟨_, trivial, hJx3⟩⟩
        · obtain rfl : q = mm := by have := HM.out; omega
          have HJQ : Hid (J (bOut X (k + 1) (by have := HN.out; omega)) wr) := hide (by
            rw [hnx.out]
            have h := hJq
            have e := HM.out
            subst e
            exact h)
          clear hJq
          gi_wp2
          go_roundw
          case rel => exact ⟨k + 1, by have := HN.out; omega, by go_num, HJQ.out, hKq, hSq⟩
          case measure => simp [intOf]; omega
    · obtain rfl : k = n := by have := HN.out; omega
      have hfin : Hid (J (bAll X) wo) := hide (by
        unfold bAll
        have h := hJs
        have e := HN.out
        subst e
        exact h)
      gi_wp2
      go_end0
      exact ⟨⟨_, rfl⟩, .inl ⟨_, rfl, hfin.out⟩⟩
end Go.Proofs.Ytlllkmobhjlmoab
