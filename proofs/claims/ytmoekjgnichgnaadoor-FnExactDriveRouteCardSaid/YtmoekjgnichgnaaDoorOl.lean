/-
  Lists of the call's own: what a mark leaves; rows that grow.
-/
import Derived.Test.YtmoekjgnichgnaaDoorSm
import Derived.Test.YtmoekjgnichgnaaDoorMk
import Derived.Test.YtmoekjgnichgnaaDoorBut
import Derived.Test.YtmoekjgnichgnaaDoorNums
namespace Go.Proofs.YtmoekjgnichgnaaDoor
open Go.RowKit
set_option linter.unusedVariables false

/-- All that was there is as it was, but for the block of a row. -/
structure Mk1 (v : Value) (w w' : World) : Prop where
  os : w'.os = w.os
  tape : w'.tape = w.tape
  output : w'.output = w.output
  size : w.heap.size ≤ w'.heap.size
  block : ∀ k, k < w.heap.size → v.ownBlock ≠ some k → w'.heap[k]? = w.heap[k]?
theorem Mk1.row {v : Value} {w w' : World} {k : Nat} {o : Obj} (h : Mk1 v w w') (hc : w.heap[k]? = some o) (h1 : v.ownBlock ≠ some k) : w'.heap[k]? = some o := (h.block k (block_lt hc) h1).trans hc
theorem Mk1.ints {v : Value} {w w' : World} {a : Option Addr} {zs : List Int} (h : Mk1 v w w') (hz : IntsAt w a zs) (hn : ∀ g off, a = some ⟨g, off, none⟩ → v.ownBlock ≠ some g) : IntsAt w' a zs := by
  intro hne
  obtain ⟨b, off, rfl, hc⟩ := hz hne
  refine ⟨b, off, rfl, fun i hi => ?_⟩
  have h1 := hc i hi
  have g1 := hn b off rfl
  rw [List.getElem?_eq_getElem hi] at h1 ⊢
  exact (World.cell?_of_block (h.block b (World.block_lt_of_cell? w _ h1) g1)).trans h1
theorem Mk1.old {v : Value} {w w' : World} {B : Nat} (h : Mk1 v w w') (hB : B ≤ w.heap.size) (h1 : ∀ g, v.ownBlock = some g → B ≤ g) : Below B w w' :=
  ⟨h.os, h.tape, h.output, h.size, fun k hk => h.block k (by omega) (fun e => by have := h1 k e; omega)⟩
theorem Mk1.owns {v : Value} {w w' : World} {base n : Nat} {e : TypeId} {size : Nat} {u : Value} {xs : List Value} (h : Mk1 v w w') (ho : w.ownsRow base e size u n xs) (h1 : ∀ g, u.ownBlock = some g → v.ownBlock ≠ some g) : w'.ownsRow base e size u n xs := by
  refine ⟨ho.1, ?_⟩
  rcases ho.2 with h2 | ⟨g, cap, cur, hv, hg, hh, r⟩
  · exact .inl h2
  · exact .inr ⟨g, cap, cur, hv, hg, h.row hh (h1 g (by rw [hv]; rfl)), r⟩
theorem own_ge {w : World} {base n : Nat} {e : TypeId} {size : Nat} {v : Value} {xs : List Value} (h : w.ownsRow base e size v n xs) : ∀ g, v.ownBlock = some g → base ≤ g := fun g hg => (h.lt g hg).1
theorem own_lt' {w : World} {base n : Nat} {e : TypeId} {size : Nat} {v : Value} {xs : List Value} (h : w.ownsRow base e size v n xs) : ∀ g, v.ownBlock = some g → g < w.heap.size := fun g hg => (h.lt g hg).2
theorem slice_block {a : Option Addr} {n c g off : Nat} (h : a = some ⟨g, off, none⟩) : (Value.slice a n c).ownBlock = some g := by rw [h]; rfl
/-- A row of the call's own stands in a block of its own. -/
theorem ints_far {w : World} {base n c : Nat} {e : TypeId} {size : Nat} {a : Option Addr} {xs : List Value} (h : w.ownsRow base e size (.slice a n c) n xs) {v : Value} {B : Nat} (hv : ∀ g, v.ownBlock = some g → g < B) (hB : B ≤ base) : ∀ g off, a = some ⟨g, off, none⟩ → v.ownBlock ≠ some g := by
  intro g off e he
  have h1 := own_ge h g (slice_block e)
  have h2 := hv g he
  omega

theorem mk1_of_marked {w w' : World} {base : Nat} {a : Option Addr} {n c : Nat} {k : Int} {vs : List Value} {e : Ending} (h : w.ownsRow base 2 1 (.slice a n c) n vs) (hp : MarkPost a n k w e w') :
    e = .returned (.int .i64 (k + n)) ∧ w'.ownsRow base 2 1 (.slice a n c) n ((marks k n).map intV) ∧ Mk1 (.slice a n c) w w' := by
  obtain ⟨h1, M⟩ := marked_owned h hp
  refine ⟨hp.1, h1, ⟨M.os, M.tape, M.output, by rw [M.size]; exact Nat.le_refl _, fun j hj hne => M.block j (fun hs => ?_)⟩⟩
  obtain ⟨_, off, he⟩ := hs
  exact hne (slice_block he)

/-- What a call hands back that has made a list of its own. -/
def NewL (zs : List Int) (w : World) (e : Ending) (w' : World) : Prop :=
  ∃ a c, e = .returned (.slice a zs.length c) ∧ w'.ownsRow w.heap.size 2 1 (.slice a zs.length c) zs.length (zs.map intV) ∧ Below w.heap.size w w'
/-- A row of the call's own, in a world that has kept all below B. -/
structure Owns (B : Nat) (W0 w : World) (v : Value) (zs : List Int) : Prop where
  own : w.ownsRow B 2 1 v zs.length (zs.map intV)
  old : Below B W0 w
  size : B ≤ w.heap.size
theorem Owns.keep {B : Nat} {W0 w w' : World} {v : Value} {zs : List Int} (h : Owns B W0 w v zs) (hb : Below w.heap.size w w') : Owns B W0 w' v zs :=
  ⟨ownsRow_keep h.own hb, h.old.trans (hb.mono h.size), Nat.le_trans h.size hb.size⟩
theorem Owns.snoc {B : Nat} {W0 w2 w3 : World} {v v' : Value} {zs : List Int} {z : Int} (h : Owns B W0 w2 v zs) (hown : w3.ownsRow B 2 1 v' (zs.length + 1) (zs.map intV ++ [.int .i64 z]))
    (hg : (w2.alloc (.cells #[.int .i64 z] 2)).grownBy w3 v.ownBlock) : Owns B W0 w3 v' (zs ++ [z]) := by
  refine ⟨by simpa [intV] using hown, (h.old.alloc h.size _).grown hg (by have := h.size; simp; omega) (fun j hj => by have := (h.own.alloc (.cells #[Value.int .i64 z] 2)).lt j hj; omega), ?_⟩
  have := hg.size
  have := h.size
  simp at *
  omega
theorem Owns.nil {B : Nat} {W0 w : World} (h : Below B W0 w) (hs : B ≤ w.heap.size) : Owns B W0 w (.slice none 0 0) [] := ⟨World.ownsRow_nil _ _ _ _, h, hs⟩
theorem Owns.list {B : Nat} {W W0 w : World} {v : Value} {zs : List Int} (h : Owns B W0 w v zs) (h0 : Below W.heap.size W W0) (hB : W.heap.size ≤ B) : NewL zs W (.returned v) w := by
  obtain ⟨a, c, rfl⟩ := own_form h.own
  exact ⟨a, c, rfl, ownsRow_base h.own hB, h0.trans (h.old.mono hB)⟩
theorem Owns.listC {B : Nat} {W W0 w : World} {v : Value} {zs : List Int} (h : Owns B W0 w v zs) (h0 : Below W.heap.size W W0) (hB : W.heap.size ≤ B) (k : Int) : NewList (zs, k) W (.returned (.tuple #[v, .int .i64 k])) w := by
  obtain ⟨a, c, rfl⟩ := own_form h.own
  exact ⟨a, c, rfl, ownsRow_base h.own hB, h0.trans (h.old.mono hB)⟩
theorem own_capAny {w : World} {base n c : Nat} {e : TypeId} {a : Option Addr} {xs : List Value} (h : w.ownsRow base e 1 (.slice a n c) n xs) : n ≤ c := by
  rcases h.2 with ⟨h2, h3⟩ | ⟨g, cap, cur, hv, _, _, r, _⟩
  · omega
  · simp only [Value.slice.injEq] at hv
    omega
theorem newList_nil (W W' : World) (k : Int) (h : Below W.heap.size W W') : NewList ([], k) W (.returned (.tuple #[.slice none 0 0, .int .i64 k])) W' := ⟨none, 0, rfl, World.ownsRow_nil _ _ _ _, h⟩
theorem newList_of {zs : List Int} {k : Int} {W w1 w2 : World} {a : Option Addr} {c : Nat} (h1 : Below W.heap.size W w1) (h2 : w2.ownsRow w1.heap.size 2 1 (.slice a zs.length c) zs.length (zs.map intV)) (h3 : Below w1.heap.size w1 w2) :
    NewList (zs, k) W (.returned (.tuple #[.slice a zs.length c, .int .i64 k])) w2 := ⟨a, c, rfl, ownsRow_base h2 h1.size, Below.trans' h1 h3⟩
theorem Mk1.of_but {g : Nat} {a : Option Addr} {k c : Nat} {w w' : World} (h : But g w w') (ha : a = some ⟨g, 0, none⟩) : Mk1 (.slice a k c) w w' := ⟨h.os, h.tape, h.output, h.size, fun j hj hne => h.block j hj (fun e => hne (by rw [ha, e]; rfl))⟩
theorem own_row {w : World} {base n c g : Nat} {e : TypeId} {xs : List Value} (h : w.ownsRow base e 1 (.slice (some ⟨g, 0, none⟩) n c) n xs) : base ≤ g ∧ g < w.heap.size ∧ ∃ cur, w.heap[g]? = some (.cells cur e (0, 0)) ∧ n ≤ cur.size := by
  rcases h.2 with ⟨h0, _⟩ | ⟨g', cap, cur, hv, hg, hh, r1, r2, r3, _⟩
  · cases h0
  · simp only [Value.slice.injEq, Option.some.injEq, Addr.mk.injEq] at hv
    obtain ⟨⟨rfl, _, _⟩, _, rfl⟩ := hv
    exact ⟨hg, (Array.getElem?_eq_some_iff.1 hh).1, cur, hh, by omega⟩
end Go.Proofs.YtmoekjgnichgnaaDoor
