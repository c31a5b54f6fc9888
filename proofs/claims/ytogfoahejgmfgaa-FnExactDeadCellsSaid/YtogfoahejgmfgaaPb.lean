/-
  A region that draws its order, whose callees lay blocks of their own and turn one block that is known: one walk in the order of the text; also with more operations at its end. Whole rows read on the way.
-/
import Derived.Test.YtogfoahejgmfgaaBut
import Derived.Test.YtogfoahejgmfgaaPast
namespace Go.Proofs.Ytogfoahejgmfgaa
open Go.RowKit
set_option linter.unusedVariables false

/-- A world that has come of w: all that was there is as it was, but for block n; what is known of it is still known. -/
structure PB (n : Nat) (I : World → Prop) (w : World) where
  to : World
  old : But n w to
  inv : I w → I to
def PB.start (n : Nat) (I : World → Prop) (w : World) : PB n I w := ⟨w, But.refl _ _, id⟩
instance (n : Nat) (I : World → Prop) (w : World) : Inhabited (PB n I w) := ⟨PB.start n I w⟩
theorem PB.cell {n : Nat} {I : World → Prop} {w : World} (p : PB n I w) {a : Addr} {v : Value} (h : w.cell? a = some v) (hn : a.block ≠ n) : p.to.cell? a = some v := p.old.cell h hn
theorem PB.row {n : Nat} {I : World → Prop} {w : World} (p : PB n I w) {k : Nat} {o : Obj} (h : w.heap[k]? = some o) (hn : k ≠ n) : p.to.heap[k]? = some o := p.old.row h hn

/-- A value handed back; all that was there is as it was, but for block n; what was known is still known. -/
def RetK (n : Nat) (I : World → Prop) (v : Value) (W : World) (e : Ending) (W' : World) : Prop := e = .returned v ∧ But n W W' ∧ I W'
theorem retK_pb {P : Program} {f : FuncId} {args : Array Value} {n : Nat} {I : World → Prop} {w : World} {p : PB n I w} {v : Value} (h : Calls P f args p.to (RetK n I v p.to)) :
    Calls P f args p.to fun e w'' => e = .returned v ∧ ∃ q : PB n I w, w'' = q.to :=
  h.mono fun e w' hr => ⟨hr.1, ⟨w', p.old.trans hr.2.1, fun _ => hr.2.2⟩, rfl⟩
theorem retB_pb {P : Program} {f : FuncId} {args : Array Value} {n : Nat} {I : World → Prop} (hI : ∀ a b : World, I a → Below a.heap.size a b → I b) {w : World} {p : PB n I w} {v : Value} (h : Calls P f args p.to fun e w' => e = .returned v ∧ Below p.to.heap.size p.to w') :
    Calls P f args p.to fun e w'' => e = .returned v ∧ ∃ q : PB n I w, w'' = q.to :=
  h.mono fun e w' hr => ⟨hr.1, ⟨w', p.old.below hr.2, fun hi => hI _ _ (p.inv hi) hr.2⟩, rfl⟩

theorem wp_region_pb {P : Program} {id : Nat} {Q : Exit → Act → World → Prop} {a : Act} {w : World} {l : List Oper} (n : Nat) (I : World → Prop) (hI : ∀ a b : World, I a → Below a.heap.size a b → I b) (hm : P.follows .mixedOrders = true) (hB : Region.lexB .any l.toArray = true)
    (h : wpQuiet P l.toArray (fun w' => ∃ p : PB n I w, w' = p.to) (fun a' => ∀ w', (∃ p : PB n I w, w' = p.to) → Q .normal a' w') l a) : (Code.region id l.toArray true).wp P Q a w :=
  wp_region_quiet (C := fun w' => ∃ p : PB n I w, w' = p.to) hm hB ⟨⟨_, But.drew (But.refl _ _), fun hi => hI _ _ hi (Below.drew (Below.refl _ _))⟩, rfl⟩ (by simpa using h)

/-- The first n operations read or call, the rest stand in a row behind them: whatever class of worlds. -/
theorem wp_region_class_tail {P : Program} {id : Nat} {Q : Exit → Act → World → Prop} {a : Act} {w : World} {l : List Oper} {C : World → Prop} (n : Nat) (hm : P.follows .mixedOrders = true) (hB : Region.lexTailB .any l.toArray n = true) (hC : C { w with drawn := w.drawn + 1 })
    (h : wpQuiet P l.toArray C (fun a' => ∀ w', C w' → wpList P l.toArray Q (l.drop n) a' w') (l.take n) a) : (Code.region id l.toArray true).wp P Q a w := by
  simp only [Region.lexTailB, Bool.and_eq_true, decide_eq_true_eq] at hB
  obtain ⟨⟨⟨⟨hsel, hn⟩, hs⟩, hc⟩, hlex⟩ := hB
  have hn' : n < l.length := by simpa using hn
  have htl : (l.take n).length = n := by simp; omega
  have hdl : (l.drop n).length = l.toArray.size - n := by simp
  have inv0 : HeadInv .any l.toArray n (Array.replicate l.toArray.size false) :=
    ⟨by simp, fun j oj _ hl => (by rw [getD_replicate_false] at hl; cases hl), fun t _ ht => getD_in (by simpa using ht) (getD_replicate_false _ _)⟩
  have H := headQ_lex (md := .any) (g := l.toArray.size - n) hsel hs hc hn (l.take n) 0 _ a (fun j hj => by
    have hj' : j < n := by rw [htl] at hj; exact hj
    simp [hj']) (by simpa using htl) inv0 (by rw [htl]; exact hlex) h
  refine wp_region_any hm ?_
  have := any_of_headQ (C := C) (Q' := Q) (g := l.toArray.size - n) (fun listed a' w' hC hL => by
    have := wpAny_of_seq (md := .any) (Q' := Q) (l.drop n) n listed a' w' (fun j => by simp [List.getElem?_drop]) (by rw [hdl]; exact hL.1) (hL.2 w' hC)
    rwa [hdl] at this) _ _ _ { w with drawn := w.drawn + 1 } hC H
  rw [htl, show n + (l.toArray.size - n) = l.toArray.size by omega] at this
  exact this
theorem wp_region_pb_tail {P : Program} {id : Nat} {Q : Exit → Act → World → Prop} {a : Act} {w : World} {l : List Oper} (n : Nat) (I : World → Prop) (hI : ∀ a b : World, I a → Below a.heap.size a b → I b) (m : Nat) (hm : P.follows .mixedOrders = true) (hB : Region.lexTailB .any l.toArray m = true)
    (h : wpQuiet P l.toArray (fun w' => ∃ p : PB n I w, w' = p.to) (fun a' => ∀ w', (∃ p : PB n I w, w' = p.to) → wpList P l.toArray Q (l.drop m) a' w') (l.take m) a) : (Code.region id l.toArray true).wp P Q a w :=
  wp_region_class_tail (C := fun w' => ∃ p : PB n I w, w' = p.to) m hm hB ⟨⟨_, But.drew (But.refl _ _), fun hi => hI _ _ hi (Below.drew (Below.refl _ _))⟩, rfl⟩ h

/-- A load whose run is known in every world of the class. -/
theorem quiet_load {P : Program} {C : World → Prop} {a : Act} {K : Act → Prop} {o : Oper} (T : TypeId) (x : Operand) (hop : o.op = .load T x) (q v : Value) (hq : a.eval x = q) (hv : ∀ w, C w → (Instr.loadAt T q).run P w = .ok v w) (h : K (a.put o.dst v)) : o.quiet P a C K := by
  refine ⟨v, fun w hw => ?_, h⟩
  unfold Oper.quietAt Oper.quietUpon execOp
  simp [hop, hq, hv w hw]
end Go.Proofs.Ytogfoahejgmfgaa
