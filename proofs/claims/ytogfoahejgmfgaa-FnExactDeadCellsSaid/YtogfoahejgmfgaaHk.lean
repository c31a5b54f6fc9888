/-
  Boards of hexagons: the laws' marks on boards.
-/
import Derived.Test.YtogfoahejgmfgaaHj
namespace Go.Proofs.Ytogfoahejgmfgaa
open Go.RowKit
set_option linter.unusedVariables false

/-- All that was there is as it was, but for the block of a row. -/
structure Mk1 (v : Value) (w w' : World) : Prop where
  os : w'.os = w.os
  tape : w'.tape = w.tape
  output : w'.output = w.output
  size : w.heap.size ≤ w'.heap.size
  block : ∀ k, k < w.heap.size → v.ownBlock ≠ some k → w'.heap[k]? = w.heap[k]?
theorem Mk1.row {v : Value} {w w' : World} {k : Nat} {o : Obj} (h : Mk1 v w w') (hc : w.heap[k]? = some o) (h1 : v.ownBlock ≠ some k) : w'.heap[k]? = some o := (h.block k (block_lt hc) h1).trans hc
theorem Mk1.ints {v : Value} {w w' : World} {a : Option Addr} {zs : List Int} (h : Mk1 v w w') (hz : IntsAt w a zs) (hn : ∀ g off, a = some ⟨g, off, none⟩ → v.ownBlock ≠ some g) : IntsAt w' a zs := by
  intro hne
  obtain ⟨b, off, rfl, hc⟩ := hz hne
  refine ⟨b, off, rfl, fun i hi => ?_⟩
  have h1 := hc i hi
  have g1 := hn b off rfl
  rw [List.getElem?_eq_getElem hi] at h1 ⊢
  exact (World.cell?_of_block (h.block b (World.block_lt_of_cell? w _ h1) g1)).trans h1
theorem Mk1.old {v : Value} {w w' : World} {B : Nat} (h : Mk1 v w w') (hB : B ≤ w.heap.size) (h1 : ∀ g, v.ownBlock = some g → B ≤ g) : Below B w w' :=
  ⟨h.os, h.tape, h.output, h.size, fun k hk => h.block k (by omega) (fun e => by have := h1 k e; omega)⟩
theorem Mk1.owns {v : Value} {w w' : World} {base n : Nat} {e : TypeId} {size : Nat} {u : Value} {xs : List Value} (h : Mk1 v w w') (ho : w.ownsRow base e size u n xs) (h1 : ∀ g, u.ownBlock = some g → v.ownBlock ≠ some g) : w'.ownsRow base e size u n xs := by
  refine ⟨ho.1, ?_⟩
  rcases ho.2 with h2 | ⟨g, cap, cur, hv, hg, hh, r⟩
  · exact .inl h2
  · exact .inr ⟨g, cap, cur, hv, hg, h.row hh (h1 g (by rw [hv]; rfl)), r⟩
theorem HexIn.mk1 {v : Value} {W W' : World} {b : Nat} {n : Int} {a : Option Addr} {k c : Nat} (hx : HexIn W b n a k c) (h : Mk1 v W W') (h1 : v.ownBlock ≠ some b) : HexIn W' b n a k c :=
  ⟨(World.cell?_of_block (h.block b (World.block_lt_of_cell? W _ hx.1) h1)).trans hx.1, (World.cell?_of_block (h.block b (World.block_lt_of_cell? W _ hx.1) h1)).trans hx.2⟩
theorem own_ge {w : World} {base n : Nat} {e : TypeId} {size : Nat} {v : Value} {xs : List Value} (h : w.ownsRow base e size v n xs) : ∀ g, v.ownBlock = some g → base ≤ g := fun g hg => (h.lt g hg).1
theorem own_lt' {w : World} {base n : Nat} {e : TypeId} {size : Nat} {v : Value} {xs : List Value} (h : w.ownsRow base e size v n xs) : ∀ g, v.ownBlock = some g → g < w.heap.size := fun g hg => (h.lt g hg).2
theorem slice_block {a : Option Addr} {n c g off : Nat} (h : a = some ⟨g, off, none⟩) : (Value.slice a n c).ownBlock = some g := by rw [h]; rfl
/-- A row of the call's own stands in a block of its own. -/
theorem ints_far {w : World} {base n c : Nat} {e : TypeId} {size : Nat} {a : Option Addr} {xs : List Value} (h : w.ownsRow base e size (.slice a n c) n xs) {v : Value} {B : Nat} (hv : ∀ g, v.ownBlock = some g → g < B) (hB : B ≤ base) : ∀ g off, a = some ⟨g, off, none⟩ → v.ownBlock ≠ some g := by
  intro g off e he
  have h1 := own_ge h g (slice_block e)
  have h2 := hv g he
  omega

theorem mk1_of_marked {w w' : World} {base : Nat} {a : Option Addr} {n c : Nat} {k : Int} {vs : List Value} {e : Ending} (h : w.ownsRow base 2 1 (.slice a n c) n vs) (hp : MarkPost a n k w e w') :
    e = .returned (.int .i64 (k + n)) ∧ w'.ownsRow base 2 1 (.slice a n c) n ((marks k n).map intV) ∧ Mk1 (.slice a n c) w w' := by
  obtain ⟨h1, M⟩ := marked_owned h hp
  refine ⟨hp.1, h1, ⟨M.os, M.tape, M.output, by rw [M.size]; exact Nat.le_refl _, fun j hj hne => M.block j (fun hs => ?_)⟩⟩
  obtain ⟨_, off, he⟩ := hs
  exact hne (slice_block he)

set_option maxRecDepth 100000 in
set_option maxHeartbeats 2000000 in
theorem markHex_any (base : Nat) (n : Int) (a : Option Addr) (k c : Nat) (vs : List Value) (W : World) (h1 : W.ownsRow base 2 1 (.slice a k c) k vs) (hn : k ≤ 1048576) :
    Calls Try.prog 20 #[.agg #[.int .i64 n, .slice a k c], .int .i64 1] W (fun e W' => e = .returned (.int .i64 (1 + k)) ∧ W'.ownsRow base 2 1 (.slice a k c) k ((marks 1 k).map intV) ∧ Mk1 (.slice a k c) W W') := by
  obtain ⟨W0, hW0⟩ : ∃ W0, W0 = W.alloc (.cells #[.int .i64 n, .slice a k c] 28) := ⟨_, rfl⟩
  have hb0 : Below W.heap.size W W0 := by rw [hW0]; exact below_alloc _ _
  have hX0 : HexIn W0 W.heap.size n a k c := by rw [hW0]; exact hexIn_new _ _ _ _ _ _
  have HO1 := hide (ownsRow_keep h1 hb0)
  have HB0 := hide hb0
  obtain ⟨c0, c1⟩ := hX0
  clear h1 hb0
  go_enter Try.func20, Try.ntmps20
  go_wp2_with fail
  rw [← hW0]
  clear hW0
  (try go_wp2_with fail)
  refine (markInt64S_any a k c 1 _ (owned_room HO1.out) hn (by omega) (by omega)).mono ?_
  intro e w2 hp
  obtain ⟨he, m1, M1⟩ := mk1_of_marked HO1.out hp
  subst he
  have hfin : Hid (w2.ownsRow base 2 1 (.slice a k c) k ((marks 1 k).map intV) ∧ Mk1 (.slice a k c) W w2) := hide ⟨m1, ⟨M1.os.trans HB0.out.os, M1.tape.trans HB0.out.tape, M1.output.trans HB0.out.output, by have h1 := M1.size; have h3 := HB0.out.size; omega,
    fun j hj h1 => (M1.block j (by have := HB0.out.size; omega) h1).trans (HB0.out.block j hj)⟩⟩
  clear m1 M1 hp c0 c1
  go_wp2_with fail
  go_ret
  exact ⟨rfl, hfin.out⟩

set_option maxRecDepth 100000 in
set_option maxHeartbeats 2000000 in
theorem heldHex_any (n : Int) (a : Option Addr) (k c : Nat) (W : World) (h1 : IntsAt W a (marks 1 k)) (hn : k ≤ 1048576) :
    Calls Try.prog 73 #[.agg #[.int .i64 n, .slice a k c], .int .i64 1] W (RetB (.int .i64 (1 + k)) W) := by
  obtain ⟨W0, hW0⟩ : ∃ W0, W0 = W.alloc (.cells #[.int .i64 n, .slice a k c] 28) := ⟨_, rfl⟩
  have hb0 : Below W.heap.size W W0 := by rw [hW0]; exact below_alloc _ _
  have hX0 : HexIn W0 W.heap.size n a k c := by rw [hW0]; exact hexIn_new _ _ _ _ _ _
  have HA := hide (h1.keep hb0)
  have HB0 := hide hb0
  obtain ⟨c0, c1⟩ := hX0
  clear h1 hb0
  go_enter Try.func73, Try.ntmps73
  go_wp2_with fail
  rw [← hW0]
  clear hW0
  (try go_wp2_with fail)
  refine (heldInt64S_any a k c 1 _ HA.out hn (by omega) (by omega)).mono ?_
  rintro e w2 ⟨rfl, hq⟩
  have hb2 : Below W0.heap.size W0 w2 := hq.below
  have hB2 := hide (Below.trans' HB0.out hb2)
  clear hq hb2 c0 c1
  go_wp2_with fail
  go_ret
  exact ⟨rfl, hB2.out⟩
end Go.Proofs.Ytogfoahejgmfgaa
