/-
  All that was there is as it was, but for one block.
-/
import Derived.Test.YtogfoahejgmfgaaEnds0
namespace Go.Proofs.Ytogfoahejgmfgaa
open Go.RowKit

/-- All that was there is as it was, but for block n. -/
structure But (n : Nat) (w w' : World) : Prop where
  os : w'.os = w.os
  tape : w'.tape = w.tape
  output : w'.output = w.output
  size : w.heap.size ≤ w'.heap.size
  block : ∀ k, k < w.heap.size → k ≠ n → w'.heap[k]? = w.heap[k]?
theorem But.refl (n : Nat) (w : World) : But n w w := ⟨rfl, rfl, rfl, Nat.le_refl _, fun _ _ _ => rfl⟩
theorem But.below {n : Nat} {a b c : World} (h : But n a b) (k : Below b.heap.size b c) : But n a c :=
  ⟨k.os.trans h.os, k.tape.trans h.tape, k.output.trans h.output, Nat.le_trans h.size k.size, fun i hi hn => (k.block i (Nat.lt_of_lt_of_le hi h.size)).trans (h.block i hi hn)⟩
theorem But.set {n : Nat} {a b : World} (h : But n a b) (o : Nat) (u : Value) : But n a (b.setCell ⟨n, o, none⟩ u) :=
  ⟨h.os, h.tape, h.output, by simpa [World.setCell] using h.size, fun i hi hn => (Below.heap_setCell _ _ _ _ hn).trans (h.block i hi hn)⟩
theorem But.cell {n : Nat} {a b : World} (h : But n a b) {p : Addr} {v : Value} (hc : a.cell? p = some v) (hn : p.block ≠ n) : b.cell? p = some v :=
  (World.cell?_of_block (h.block _ (World.block_lt_of_cell? a p hc) hn)).trans hc
theorem But.ints {n : Nat} {w w' : World} {a : Option Addr} {zs : List Int} (h : But n w w') (hz : IntsAt w a zs) (hn : ∀ g off, a = some ⟨g, off, none⟩ → g ≠ n) : IntsAt w' a zs := by
  intro hne
  obtain ⟨b, off, rfl, hc⟩ := hz hne
  refine ⟨b, off, rfl, fun i hi => ?_⟩
  have h1 := hc i hi
  rw [List.getElem?_eq_getElem hi] at h1 ⊢
  exact h.cell h1 (hn b off rfl)
theorem But.old {n : Nat} {w w' : World} (h : But n w w') (hn : n ≤ w.heap.size) : Below n w w' := ⟨h.os, h.tape, h.output, h.size, fun k hk => h.block k (by omega) (by omega)⟩
theorem But.trans {n : Nat} {a b c : World} (h : But n a b) (k : But n b c) : But n a c :=
  ⟨k.os.trans h.os, k.tape.trans h.tape, k.output.trans h.output, Nat.le_trans h.size k.size, fun i hi hn => (k.block i (Nat.lt_of_lt_of_le hi h.size) hn).trans (h.block i hi hn)⟩
theorem own_far {w : World} {B n c : Nat} {a : Option Addr} {k : Nat} {vs : List Value} {e : TypeId} (h : w.ownsRow B e 1 (.slice a k c) k vs) (hn : n < B) : ∀ g off, a = some ⟨g, off, none⟩ → g ≠ n := by
  intro g off ha
  rcases h.2 with ⟨hv, _⟩ | ⟨g', cap, cur, hv, hg, _⟩
  · simp at hv
    rw [hv.1] at ha
    cases ha
  · simp only [Value.slice.injEq] at hv
    rw [hv.1] at ha
    simp at ha
    omega
theorem But.of_below {n : Nat} {w w' : World} (h : Below w.heap.size w w') : But n w w' := ⟨h.os, h.tape, h.output, h.size, fun k hk _ => h.block k hk⟩
theorem But.of_grown {n : Nat} {w w' : World} (h : w.grownBy w' (some n)) : But n w w' := ⟨h.os, h.tape, h.output, h.size, fun k hk hn => h.block k hk (fun e => hn (Option.some.inj e))⟩
theorem But.row {n : Nat} {a b : World} {k : Nat} {o : Obj} (h : But n a b) (hc : a.heap[k]? = some o) (hn : k ≠ n) : b.heap[k]? = some o := (h.block k (Array.getElem?_eq_some_iff.1 hc).1 hn).trans hc
theorem But.alloc {n : Nat} {a b : World} (h : But n a b) (o : Obj) : But n a (b.alloc o) := h.below ((Below.refl _ _).alloc (Nat.le_refl _) _)
theorem But.drew {n : Nat} {a b : World} (h : But n a b) : But n a b.drew := h.below (Below.drew (Below.refl _ _))
/-- A store into a block that was not there. -/
theorem But.setNew {n k : Nat} {a b : World} (h : But n a b) (hk : a.heap.size ≤ k) (o : Nat) (u : Value) : But n a (b.setCell ⟨k, o, none⟩ u) :=
  ⟨h.os, h.tape, h.output, by simpa [World.setCell] using h.size, fun i hi hn => (Below.heap_setCell _ _ _ _ (by show i ≠ k; omega)).trans (h.block i hi hn)⟩
/-- What a call does that began behind some blocks of one's own. -/
theorem But.later {n : Nat} {w a b : World} (h : Below w.heap.size w a) (k : But n a b) : But n w b := (But.of_below h).trans k
end Go.Proofs.Ytogfoahejgmfgaa
