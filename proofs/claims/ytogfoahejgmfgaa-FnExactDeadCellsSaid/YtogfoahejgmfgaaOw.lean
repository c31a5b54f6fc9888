/-
  A row of the call's own beside one block that turns.
-/
import Derived.Test.YtogfoahejgmfgaaBut
import Derived.Test.YtogfoahejgmfgaaPast
import Derived.Test.YtogfoahejgmfgaaNums
namespace Go.Proofs.Ytogfoahejgmfgaa
open Go.RowKit
set_option linter.unusedVariables false

/-- All below B is as it was, but for block n. -/
structure ButB (B n : Nat) (w w' : World) : Prop where
  os : w'.os = w.os
  tape : w'.tape = w.tape
  output : w'.output = w.output
  size : w.heap.size ≤ w'.heap.size
  block : ∀ k, k < B → k ≠ n → w'.heap[k]? = w.heap[k]?
theorem ButB.refl (B n : Nat) (w : World) : ButB B n w w := ⟨rfl, rfl, rfl, Nat.le_refl _, fun _ _ _ => rfl⟩
theorem ButB.trans {B n : Nat} {a b c : World} (h : ButB B n a b) (k : ButB B n b c) : ButB B n a c :=
  ⟨k.os.trans h.os, k.tape.trans h.tape, k.output.trans h.output, Nat.le_trans h.size k.size, fun i hi hn => (k.block i hi hn).trans (h.block i hi hn)⟩
theorem ButB.mono {B B' n : Nat} {a b : World} (h : ButB B n a b) (hB : B' ≤ B) : ButB B' n a b := ⟨h.os, h.tape, h.output, h.size, fun k hk hn => h.block k (by omega) hn⟩
theorem But.butB {n : Nat} {a b : World} (h : But n a b) {B : Nat} (hB : B ≤ a.heap.size) : ButB B n a b := ⟨h.os, h.tape, h.output, h.size, fun k hk hn => h.block k (by omega) hn⟩
theorem ButB.but {n : Nat} {a b : World} (h : ButB a.heap.size n a b) : But n a b := ⟨h.os, h.tape, h.output, h.size, h.block⟩
theorem ButB.of_below {B n : Nat} {a b : World} (h : Below B a b) : ButB B n a b := ⟨h.os, h.tape, h.output, h.size, fun k hk _ => h.block k hk⟩
theorem ButB.alloc {B n : Nat} {a b : World} (h : ButB B n a b) (hs : B ≤ b.heap.size) (o : Obj) : ButB B n a (b.alloc o) :=
  h.trans (ButB.of_below (((Below.refl b.heap.size b).alloc (Nat.le_refl _) o).mono hs))
theorem ButB.grown {B n : Nat} {a b c : World} {row : Option Nat} (h : ButB B n a b) (g : b.grownBy c row) (hs : B ≤ b.heap.size) (hr : ∀ j, row = some j → B ≤ j) : ButB B n a c :=
  h.trans ⟨g.os, g.tape, g.output, g.size, fun k hk _ => g.block k (by omega) (fun e => by have := hr k e.symm; omega)⟩
theorem ButB.row {B n : Nat} {a b : World} {k : Nat} {o : Obj} (h : ButB B n a b) (hc : a.heap[k]? = some o) (hk : k < B) (hn : k ≠ n) : b.heap[k]? = some o := (h.block k hk hn).trans hc
theorem ButB.ints {B n : Nat} {w w' : World} {a : Option Addr} {zs : List Int} (h : ButB B n w w') (hz : IntsAt w a zs) (hn : ∀ g off, a = some ⟨g, off, none⟩ → g < B ∧ g ≠ n) : IntsAt w' a zs := by
  intro hne
  obtain ⟨b, off, rfl, hc⟩ := hz hne
  refine ⟨b, off, rfl, fun i hi => ?_⟩
  have h1 := hc i hi
  obtain ⟨g1, g2⟩ := hn b off rfl
  rw [List.getElem?_eq_getElem hi] at h1 ⊢
  exact (World.cell?_of_block (h.block b g1 g2)).trans h1
theorem ButB.old {B n : Nat} {a b : World} (h : ButB B n a b) (hB : B ≤ n) : Below B a b := ⟨h.os, h.tape, h.output, h.size, fun k hk => h.block k hk (by omega)⟩

/-- A row of int64 of the call's own, from block B on; below B all but block n is as it was. -/
structure OwnB (B n : Nat) (W0 w : World) (v : Value) (zs : List Int) : Prop where
  own : w.ownsRow B 2 1 v zs.length (zs.map intV)
  old : ButB B n W0 w
  size : B ≤ w.heap.size
theorem OwnB.keep {B n : Nat} {W0 w w' : World} {v : Value} {zs : List Int} (h : OwnB B n W0 w v zs) (hn : n < B) (hb : But n w w') : OwnB B n W0 w' v zs := by
  refine ⟨?_, h.old.trans (hb.butB h.size), Nat.le_trans h.size hb.size⟩
  refine h.own.kept (row := some n) ⟨hb.os, hb.tape, hb.output, hb.size, fun k hk hne => hb.block k hk (fun e => hne (by rw [e]))⟩ ?_
  rcases h.own.2 with ⟨hv, _⟩ | ⟨g', cap, cur, hv, hg, _⟩
  · rw [hv]; simp [Value.ownBlock]
  · rw [hv]; simp [Value.ownBlock]; omega
theorem OwnB.snoc {B n : Nat} {W0 w2 w3 : World} {v v' : Value} {zs : List Int} {z : Int} (h : OwnB B n W0 w2 v zs) (hown : w3.ownsRow B 2 1 v' (zs.length + 1) (zs.map intV ++ [.int .i64 z]))
    (hg : (w2.alloc (.cells #[.int .i64 z] 2)).grownBy w3 v.ownBlock) : OwnB B n W0 w3 v' (zs ++ [z]) := by
  refine ⟨by simpa [intV] using hown, (h.old.alloc h.size _).grown hg (by have := h.size; simp; omega) (fun j hj => by
    rcases h.own.2 with ⟨hv, _⟩ | ⟨g', cap, cur, hv, hg, _⟩
    · rw [hv] at hj; simp [Value.ownBlock] at hj
    · rw [hv] at hj; simp [Value.ownBlock] at hj; omega), ?_⟩
  have := hg.size
  have := h.size
  simp at *
  omega
theorem OwnB.nil {B n : Nat} {W0 w : World} (h : ButB B n W0 w) (hs : B ≤ w.heap.size) : OwnB B n W0 w (.slice none 0 0) [] := ⟨World.ownsRow_nil _ _ _ _, h, hs⟩
/-- A row of int64 of the call's own that is handed back, where block n may have turned. -/
def NewLB (n : Nat) (zs : List Int) (w : World) (e : Ending) (w' : World) : Prop :=
  ∃ a c, e = .returned (.slice a zs.length c) ∧ w'.ownsRow w.heap.size 2 1 (.slice a zs.length c) zs.length (zs.map intV) ∧ But n w w'
theorem OwnB.list {B n : Nat} {W W0 w : World} {v : Value} {zs : List Int} (h : OwnB B n W0 w v zs) (h0 : But n W W0) (hB : W.heap.size ≤ B) : NewLB n zs W (.returned v) w := by
  obtain ⟨a, c, rfl⟩ := own_form h.own
  exact ⟨a, c, rfl, ownsRow_base h.own hB, (((h0.butB (Nat.le_refl _)).trans (h.old.mono hB))).but⟩


/-- Behind an append the block that turns is as it was. -/
theorem OwnB.blockOf {B n : Nat} {W0 w w' : World} {v : Value} {zs : List Int} {o : Obj} (h : OwnB B n W0 w v zs) (hn : n < B) (hl : n < w.heap.size) (hg : (w.alloc o).grownBy w' v.ownBlock) : w'.heap[n]? = w.heap[n]? := by
  refine (hg.block n (by simp; omega) (fun hbe => ?_)).trans (Below.heap_alloc _ _ _ hl)
  rcases h.own.2 with ⟨hv, _⟩ | ⟨g', cap, cur, hv, hgg, _⟩
  · rw [hv] at hbe; simp [Value.ownBlock] at hbe
  · rw [hv] at hbe; simp [Value.ownBlock] at hbe; omega
end Go.Proofs.Ytogfoahejgmfgaa
