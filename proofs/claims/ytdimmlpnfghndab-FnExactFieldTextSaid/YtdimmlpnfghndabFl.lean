/-
  Col and snort: the lines of a field, one after the other: the function value that 'lines' hands back, for every loop body that keeps what it reads.
-/
import Derived.RangeFuncNested
import Derived.RangeFuncBound
import Derived.RangeFuncCalls
import Derived.RangeFuncLeaves
import Derived.RangeFuncFrom
import Derived.RangeFuncBox
import Derived.Shelf.Abstract
import Derived.Shelf.RegionOpen
import Derived.OwnWalkIn
import Derived.TacticsInMore
import Derived.LoopNIn
import Derived.LoopIn
import Derived.Test.YtdimmlpnfghndabFj
namespace Go.Proofs.Ytdimmlpnfghndab
open Go.RowKit Go.Shelf
attribute [local go_sem] Oper.semAt_some
set_option linter.unusedVariables false

/-- The lines of a field. -/
abbrev Ln (n L : Int) := { x : Nat × Nat // x.1 < x.2 ∧ (x.2 : Int) < n ∧ drawn L (lp x.1 x.2) = true }
def lnI (n L : Int) (j : Nat) (hj : (j : Int) < n) : (i : Nat) → i ≤ j → List (Ln n L)
  | 0, _ => []
  | i + 1, h => if hd : drawn L (lp i j) = true then lnI n L j hj i (by omega) ++ [⟨(i, j), by show i < j; omega, hj, hd⟩] else lnI n L j hj i (by omega)
def lnJ (n L : Int) : (j : Nat) → (j : Int) ≤ n → List (Ln n L)
  | 0, _ => []
  | j + 1, h => lnJ n L j (by omega) ++ lnI n L j (by omega) j (Nat.le_refl _)
theorem lnI_len (n L : Int) (j : Nat) (hj : (j : Int) < n) : ∀ (i : Nat) (h : i ≤ j), (lnI n L j hj i h).length ≤ i
  | 0, _ => by simp [lnI]
  | i + 1, h => by
    have ih := lnI_len n L j hj i (by omega)
    rw [lnI]
    split
    · rw [List.length_append]; simp; omega
    · omega
theorem lnJ_len (n L : Int) (hn : n ≤ 8) : ∀ (j : Nat) (h : (j : Int) ≤ n), (lnJ n L j h).length ≤ 7 * j
  | 0, _ => by simp [lnJ]
  | j + 1, h => by
    have ih := lnJ_len n L hn j (by omega)
    have h2 := lnI_len n L j (by omega) j (Nat.le_refl _)
    rw [lnJ, List.length_append]
    omega
def lns (n L : Int) (h : 0 ≤ n) : List (Ln n L) := lnJ n L n.toNat (by omega)

/-- What a round must leave alone: what lay below n₀, and the box Bs. -/
def KeepB (n₀ Bs : Nat) (W W' : World) : Prop := Below n₀ W W' ∧ W'.heap[Bs]? = W.heap[Bs]?
theorem KeepB.refl (n₀ Bs : Nat) (W : World) : KeepB n₀ Bs W W := ⟨Below.refl _ _, rfl⟩
theorem KeepB.trans {n₀ Bs : Nat} {A B C : World} (h : KeepB n₀ Bs A B) (k : KeepB n₀ Bs B C) : KeepB n₀ Bs A C := ⟨h.1.trans k.1, k.2.trans h.2⟩
theorem KeepB.of_below {n₀ Bs : Nat} {A B : World} (h : Below A.heap.size A B) (hn : n₀ ≤ A.heap.size) (hb : Bs < A.heap.size) : KeepB n₀ Bs A B := ⟨h.mono hn, h.block _ hb⟩
theorem keepB_b {n₀ Bs : Nat} {w : World} (hn : n₀ ≤ w.heap.size) (hb : Bs < w.heap.size) (W : World) (l : Nat) (o o' : Obj) (hl : w.heap.size ≤ l) (h : W.heap[l]? = some o) (h1 : o.isCells = false) (h2 : o.isWalk = false) : KeepB n₀ Bs W (W.putObj l o') :=
  ⟨belowK_b hn W l o o' hl h h1 h2, World.putObj_heap_other (by omega)⟩
/-- What speaks of blocks below the loop's own is the loop's to keep. -/
theorem ownFrom_of_below {β : Type} {B : Nat} {I : β → World → Prop} (hsz : ∀ s W, I s W → B ≤ W.heap.size) (h : ∀ s W W', I s W → Below B W W' → I s W') : OwnFrom B I := fun s W W' row hs hg hr =>
  h s W W' hs ⟨hg.os, hg.tape, hg.output, hg.size, fun k hk => hg.block k (by have := hsz s W hs; omega) (fun e => by have := (hr k e.symm).1; omega)⟩
theorem keepsOthers_below {W W' : World} (h : Below W.heap.size W W') : KeepsOthers W W' := ⟨h.size, fun k _ hk _ => (h.block k (Array.getElem?_eq_some_iff.1 hk).1).trans hk⟩

theorem leadAny {K : Prop} (o : Option FuncId) (h : K) : (∀ f : FuncId, o = some f → Fence.wide.fn f) ∧ K := ⟨fun _ _ => trivial, h⟩
theorem noLead {F : Fence} {K : Prop} (h : K) : (∀ f : FuncId, none = some f → F.fn f) ∧ K := ⟨fun _ h => (by cases h), h⟩

end Go.Proofs.Ytdimmlpnfghndab
