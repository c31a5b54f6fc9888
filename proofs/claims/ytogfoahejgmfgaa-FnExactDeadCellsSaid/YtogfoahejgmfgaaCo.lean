/-
  What most contracts of this chapter say: a value handed back, all that was there as it was.
-/
import Derived.Test.YtogfoahejgmfgaaNums
import Derived.Test.YtogfoahejgmfgaaPast
namespace Go.Proofs.Ytogfoahejgmfgaa
open Go.RowKit
set_option linter.unusedVariables false

def RetB (v : Value) (W : World) (e : Ending) (W' : World) : Prop := e = .returned v ∧ Below W.heap.size W W'
theorem ret_past {P : Program} {f : FuncId} {args : Array Value} {w : World} {p : Past w} {v : Value} (h : Calls P f args p.to (RetB v p.to)) : Calls P f args p.to fun e w'' => e = .returned v ∧ ∃ q : Past w, w'' = q.to := calls_past h (fun _ _ h => h)
theorem below_alloc (W : World) (o : Obj) : Below W.heap.size W (W.alloc o) := (Below.refl _ _).alloc (Nat.le_refl _) _
theorem mem_of_get {α : Type} {l : List α} {k : Nat} {x : α} (h : l[k]? = some x) : x ∈ l := List.mem_of_getElem? h
theorem block_lt {w : World} {b : Nat} {o : Obj} (h : w.heap[b]? = some o) : b < w.heap.size := (Array.getElem?_eq_some_iff.1 h).1
theorem drop_of_get {α : Type} {l : List α} {k : Nat} {x : α} (h : l[k]? = some x) : l.drop k = x :: l.drop (k + 1) := by
  obtain ⟨hk, rfl⟩ := List.getElem?_eq_some_iff.1 h
  exact List.drop_eq_getElem_cons hk
theorem box_keep {w w' : World} {b : Nat} {o : Obj} (h : w.heap[b]? = some o) (hB : Below w.heap.size w w') : w'.heap[b]? = some o := (hB.block b (block_lt h)).trans h

/-- The box of an ending: its two lists. -/
def EndIn (W : World) (b : Nat) (a : Option Addr) (n c : Nat) (a' : Option Addr) (n' c' : Nat) : Prop :=
  W.cell? ⟨b, 0, none⟩ = some (.slice a n c) ∧ W.cell? ⟨b, 1, none⟩ = some (.slice a' n' c')
theorem endIn_new (W : World) (a : Option Addr) (n c : Nat) (a' : Option Addr) (n' c' : Nat) (t : TypeId) : EndIn (W.alloc (.cells #[.slice a n c, .slice a' n' c'] t)) W.heap.size a n c a' n' c' := by
  refine ⟨?_, ?_⟩ <;> simp [go_sem]
theorem EndIn.keep {W W' : World} {b : Nat} {a : Option Addr} {n c : Nat} {a' : Option Addr} {n' c' : Nat} (hx : EndIn W b a n c a' n' c') (hb : Below W.heap.size W W') : EndIn W' b a n c a' n' c' := ⟨cell_keep hb hx.1, cell_keep hb hx.2⟩
theorem EndIn.past {W : World} {b : Nat} {a : Option Addr} {n c : Nat} {a' : Option Addr} {n' c' : Nat} (hx : EndIn W b a n c a' n' c') :
    (∀ p : Past W, p.to.cell? ⟨b, 0, none⟩ = some (.slice a n c)) ∧ (∀ p : Past W, p.to.cell? ⟨b, 1, none⟩ = some (.slice a' n' c')) := ⟨fun p => p.cell hx.1, fun p => p.cell hx.2⟩
end Go.Proofs.Ytogfoahejgmfgaa
