/-
  Ends of dots and boxes: the laws' marks on endings.
-/
import Derived.Test.YtbfpbkbhikogiaaAf
namespace Go.Proofs.Ytbfpbkbhikogiaa
open Go.RowKit
set_option linter.unusedVariables false

/-- All that was there is as it was, but for the blocks of two rows. -/
structure Mk2 (v v' : Value) (w w' : World) : Prop where
  os : w'.os = w.os
  tape : w'.tape = w.tape
  output : w'.output = w.output
  size : w.heap.size ≤ w'.heap.size
  block : ∀ k, k < w.heap.size → v.ownBlock ≠ some k → v'.ownBlock ≠ some k → w'.heap[k]? = w.heap[k]?
theorem Mk2.row {v v' : Value} {w w' : World} {k : Nat} {o : Obj} (h : Mk2 v v' w w') (hc : w.heap[k]? = some o) (h1 : v.ownBlock ≠ some k) (h2 : v'.ownBlock ≠ some k) : w'.heap[k]? = some o := (h.block k (block_lt hc) h1 h2).trans hc
theorem Mk2.ints {v v' : Value} {w w' : World} {a : Option Addr} {zs : List Int} (h : Mk2 v v' w w') (hz : IntsAt w a zs) (hn : ∀ g off, a = some ⟨g, off, none⟩ → v.ownBlock ≠ some g ∧ v'.ownBlock ≠ some g) : IntsAt w' a zs := by
  intro hne
  obtain ⟨b, off, rfl, hc⟩ := hz hne
  refine ⟨b, off, rfl, fun i hi => ?_⟩
  have h1 := hc i hi
  obtain ⟨g1, g2⟩ := hn b off rfl
  rw [List.getElem?_eq_getElem hi] at h1 ⊢
  exact (World.cell?_of_block (h.block b (World.block_lt_of_cell? w _ h1) g1 g2)).trans h1
theorem Mk2.old {v v' : Value} {w w' : World} {B : Nat} (h : Mk2 v v' w w') (hB : B ≤ w.heap.size) (h1 : ∀ g, v.ownBlock = some g → B ≤ g) (h2 : ∀ g, v'.ownBlock = some g → B ≤ g) : Below B w w' :=
  ⟨h.os, h.tape, h.output, h.size, fun k hk => h.block k (by omega) (fun e => by have := h1 k e; omega) (fun e => by have := h2 k e; omega)⟩
theorem Mk2.owns {v v' : Value} {w w' : World} {base n : Nat} {e : TypeId} {size : Nat} {u : Value} {xs : List Value} (h : Mk2 v v' w w') (ho : w.ownsRow base e size u n xs) (h1 : ∀ g, u.ownBlock = some g → v.ownBlock ≠ some g ∧ v'.ownBlock ≠ some g) : w'.ownsRow base e size u n xs := by
  refine ⟨ho.1, ?_⟩
  rcases ho.2 with h2 | ⟨g, cap, cur, hv, hg, hh, r⟩
  · exact .inl h2
  · obtain ⟨k1, k2⟩ := h1 g (by rw [hv]; rfl)
    exact .inr ⟨g, cap, cur, hv, hg, h.row hh k1 k2, r⟩
theorem EndIn.below {B : Nat} {W W' : World} {b : Nat} {a : Option Addr} {n c : Nat} {a' : Option Addr} {n' c' : Nat} (hx : EndIn W b a n c a' n' c') (hb : Below B W W') (hB : b < B) : EndIn W' b a n c a' n' c' :=
  ⟨(hb.cell (p := ⟨b, 0, none⟩) hB).trans hx.1, (hb.cell (p := ⟨b, 1, none⟩) hB).trans hx.2⟩
theorem EndIn.mk2 {v v' : Value} {W W' : World} {b : Nat} {a : Option Addr} {n c : Nat} {a' : Option Addr} {n' c' : Nat} (hx : EndIn W b a n c a' n' c') (h : Mk2 v v' W W') (h1 : v.ownBlock ≠ some b) (h2 : v'.ownBlock ≠ some b) : EndIn W' b a n c a' n' c' :=
  ⟨(World.cell?_of_block (h.block b (World.block_lt_of_cell? W _ hx.1) h1 h2)).trans hx.1, (World.cell?_of_block (h.block b (World.block_lt_of_cell? W _ hx.1) h1 h2)).trans hx.2⟩
theorem own_ge {w : World} {base n : Nat} {e : TypeId} {size : Nat} {v : Value} {xs : List Value} (h : w.ownsRow base e size v n xs) : ∀ g, v.ownBlock = some g → base ≤ g := fun g hg => (h.lt g hg).1
theorem own_lt' {w : World} {base n : Nat} {e : TypeId} {size : Nat} {v : Value} {xs : List Value} (h : w.ownsRow base e size v n xs) : ∀ g, v.ownBlock = some g → g < w.heap.size := fun g hg => (h.lt g hg).2
theorem slice_block {a : Option Addr} {n c g off : Nat} (h : a = some ⟨g, off, none⟩) : (Value.slice a n c).ownBlock = some g := by rw [h]; rfl

set_option maxRecDepth 100000 in
set_option maxHeartbeats 2000000 in
theorem markEnding_any (base : Nat) (a : Option Addr) (n c : Nat) (a' : Option Addr) (n' c' : Nat) (vs vs' : List Value) (W : World) (h1 : W.ownsRow base 2 1 (.slice a n c) n vs) (h2 : W.ownsRow base 2 1 (.slice a' n' c') n' vs') (hap : Ap (.slice a n c) (.slice a' n' c')) (hn : n ≤ 1048576) (hn' : n' ≤ 1048576) :
    Calls Try.prog 43 #[.agg #[.slice a n c, .slice a' n' c'], .int .i64 1] W (fun e W' => e = .returned (.int .i64 (1 + n + n')) ∧ W'.ownsRow base 2 1 (.slice a n c) n ((marks 1 n).map intV) ∧ W'.ownsRow base 2 1 (.slice a' n' c') n' ((marks (1 + n) n').map intV) ∧ Mk2 (.slice a n c) (.slice a' n' c') W W') := by
  obtain ⟨W0, hW0⟩ : ∃ W0, W0 = W.alloc (.cells #[.slice a n c, .slice a' n' c'] 26) := ⟨_, rfl⟩
  have hb0 : Below W.heap.size W W0 := by rw [hW0]; exact below_alloc _ _
  have hX0 : W0.heap[W.heap.size]? = some (.cells #[.slice a n c, .slice a' n' c'] 26 (0, 0)) := by rw [hW0]; exact heap_alloc_new _ _
  have o1 := ownsRow_keep h1 hb0
  have o2 := ownsRow_keep h2 hb0
  have HB0 := hide hb0
  have HX0 := hide hX0
  have HO1 := hide o1
  have HO2 := hide o2
  have HAP := hide hap
  have hg1 := hide (own_lt' h1)
  have hg2 := hide (own_lt' h2)
  obtain ⟨c0, c1, _⟩ := row2' hX0
  clear h1 h2 o1 o2 hb0 hX0 hap
  go_enter Try.func43, Try.ntmps43
  go_wp2_with fail
  rw [← hW0]
  clear hW0
  (try go_wp2_with fail)
  refine (markInt64S_any a n c 1 _ (owned_room HO1.out) hn (by omega) (by omega)).mono ?_
  intro e w2 hp
  obtain ⟨m1, M1⟩ := marked_owned HO1.out hp
  obtain ⟨rfl, _⟩ := hp
  have hx2 := (M1.block W.heap.size (fun hs => by obtain ⟨_, off, he⟩ := hs; have := hg1.out _ (slice_block he); omega)).trans HX0.out
  have o2 := M1.owns HO2.out (fun g he hs => by obtain ⟨_, off, he2⟩ := hs; exact HAP.out g (slice_block he2) (slice_block he))
  have HM1 := hide m1
  have HMK1 := hide M1
  have HO22 := hide o2
  obtain ⟨d0, d1, _⟩ := row2' hx2
  clear m1 M1 o2 hx2 c0 c1
  go_wp2_with fail
  refine (markInt64S_any a' n' c' (1 + n) _ (owned_room HO22.out) hn' (by omega) (by omega)).mono ?_
  intro e w3 hp
  obtain ⟨m2, M2⟩ := marked_owned HO22.out hp
  obtain ⟨rfl, _⟩ := hp
  have m1 := M2.owns HM1.out (fun g he hs => by obtain ⟨_, off, he2⟩ := hs; exact HAP.out g (slice_block he) (slice_block he2))
  have hfin : Hid (w3.ownsRow base 2 1 (.slice a n c) n ((marks 1 n).map intV) ∧ w3.ownsRow base 2 1 (.slice a' n' c') n' ((marks (1 + n) n').map intV) ∧ Mk2 (.slice a n c) (.slice a' n' c') W w3) := hide ⟨m1, m2, ⟨M2.os.trans (HMK1.out.os.trans HB0.out.os), M2.tape.trans (HMK1.out.tape.trans HB0.out.tape), M2.output.trans (HMK1.out.output.trans HB0.out.output), by have h1 := M2.size; have h2 := HMK1.out.size; have h3 := HB0.out.size; omega,
    fun k hk h1 h2 => (M2.block k (fun hs => by obtain ⟨_, off, he⟩ := hs; exact h2 (slice_block he))).trans ((HMK1.out.block k (fun hs => by obtain ⟨_, off, he⟩ := hs; exact h1 (slice_block he))).trans (HB0.out.block k hk))⟩⟩
  clear m1 m2 M2 d0 d1
  go_wp2_with fail
  go_ret
  exact ⟨rfl, hfin.out⟩

set_option maxRecDepth 100000 in
set_option maxHeartbeats 2000000 in
theorem heldEnding_any (a : Option Addr) (n c : Nat) (a' : Option Addr) (n' c' : Nat) (W : World) (h1 : IntsAt W a (marks 1 n)) (h2 : IntsAt W a' (marks (1 + n) n')) (hn : n ≤ 1048576) (hn' : n' ≤ 1048576) :
    Calls Try.prog 44 #[.agg #[.slice a n c, .slice a' n' c'], .int .i64 1] W (RetB (.int .i64 (1 + n + n')) W) := by
  obtain ⟨W0, hW0⟩ : ∃ W0, W0 = W.alloc (.cells #[.slice a n c, .slice a' n' c'] 26) := ⟨_, rfl⟩
  have hb0 : Below W.heap.size W W0 := by rw [hW0]; exact below_alloc _ _
  have hX0 : W0.heap[W.heap.size]? = some (.cells #[.slice a n c, .slice a' n' c'] 26 (0, 0)) := by rw [hW0]; exact heap_alloc_new _ _
  have HA := hide (h1.keep hb0)
  have HA' := hide (h2.keep hb0)
  have HB0 := hide hb0
  have HX0 := hide hX0
  obtain ⟨c0, c1, _⟩ := row2' hX0
  clear h1 h2 hb0 hX0
  go_enter Try.func44, Try.ntmps44
  go_wp2_with fail
  rw [← hW0]
  clear hW0
  (try go_wp2_with fail)
  refine (heldInt64S_any a n c 1 _ HA.out hn (by omega) (by omega)).mono ?_
  rintro e w2 ⟨rfl, hq⟩
  have hb2 : Below W0.heap.size W0 w2 := hq.below
  have hA2' := hide (HA'.out.keep hb2)
  have hB2 := hide (Below.trans' HB0.out hb2)
  obtain ⟨d0, d1, _⟩ := row2' (box_keep HX0.out hb2)
  clear hq hb2 c0 c1
  go_wp2_with fail
  refine (heldInt64S_any a' n' c' (1 + n) _ hA2'.out hn' (by omega) (by omega)).mono ?_
  rintro e w3 ⟨rfl, hq⟩
  have hb3 : Below w2.heap.size w2 w3 := hq.below
  have hB3 := hide (Below.trans' hB2.out hb3)
  clear hq hb3 d0 d1
  go_wp2_with fail
  go_ret
  exact ⟨rfl, hB3.out⟩
end Go.Proofs.Ytbfpbkbhikogiaa
