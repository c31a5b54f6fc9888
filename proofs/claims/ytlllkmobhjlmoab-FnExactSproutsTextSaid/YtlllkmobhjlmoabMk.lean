/-
  Sprouts positions: the laws' marks on a position's copy; the box of a position; DegreesOf's list.
-/
import Derived.Test.YtlllkmobhjlmoabMarks3
import Derived.Test.YtlllkmobhjlmoabEnds0
import Derived.Test.YtlllkmobhjlmoabSd
namespace Go.Proofs.Ytlllkmobhjlmoab
open Go.RowKit
set_option linter.unusedVariables false

/-- All that was there is as it was, but for the blocks from lo on below hi. -/
structure MkR (lo hi : Nat) (w w' : World) : Prop where
  os : w'.os = w.os
  tape : w'.tape = w.tape
  output : w'.output = w.output
  size : w.heap.size ≤ w'.heap.size
  block : ∀ k, k < w.heap.size → ¬ (lo ≤ k ∧ k < hi) → w'.heap[k]? = w.heap[k]?
theorem MkR.row {lo hi : Nat} {w w' : World} {k : Nat} {o : Obj} (h : MkR lo hi w w') (hc : w.heap[k]? = some o) (h1 : ¬ (lo ≤ k ∧ k < hi)) : w'.heap[k]? = some o := (h.block k (block_lt hc) h1).trans hc
theorem MkR.old {lo hi : Nat} {w w' : World} {B : Nat} (h : MkR lo hi w w') (hB : B ≤ w.heap.size) (h1 : B ≤ lo) : Below B w w' :=
  ⟨h.os, h.tape, h.output, h.size, fun k hk => h.block k (by omega) (by omega)⟩
theorem MkR.owns {lo hi : Nat} {w w' : World} {base n : Nat} {e : TypeId} {size : Nat} {u : Value} {xs : List Value} (h : MkR lo hi w w') (ho : w.ownsRow base e size u n xs) (h1 : ∀ g, u.ownBlock = some g → ¬ (lo ≤ g ∧ g < hi)) : w'.ownsRow base e size u n xs := by
  refine ⟨ho.1, ?_⟩
  rcases ho.2 with h2 | ⟨g, cap, cur, hv, hg, hh, r⟩
  · exact .inl h2
  · exact .inr ⟨g, cap, cur, hv, hg, h.row hh (h1 g (by rw [hv]; rfl)), r⟩
theorem own_ge {w : World} {base n : Nat} {e : TypeId} {size : Nat} {v : Value} {xs : List Value} (h : w.ownsRow base e size v n xs) : ∀ g, v.ownBlock = some g → base ≤ g := fun g hg => (h.lt g hg).1
theorem own_lt' {w : World} {base n : Nat} {e : TypeId} {size : Nat} {v : Value} {xs : List Value} (h : w.ownsRow base e size v n xs) : ∀ g, v.ownBlock = some g → g < w.heap.size := fun g hg => (h.lt g hg).2
theorem slice_block {a : Option Addr} {n c g off : Nat} (h : a = some ⟨g, off, none⟩) : (Value.slice a n c).ownBlock = some g := by rw [h]; rfl
/-- All that was there is as it was, but for the block of a row. -/
structure Mk1 (v : Value) (w w' : World) : Prop where
  os : w'.os = w.os
  tape : w'.tape = w.tape
  output : w'.output = w.output
  size : w.heap.size ≤ w'.heap.size
  block : ∀ k, k < w.heap.size → v.ownBlock ≠ some k → w'.heap[k]? = w.heap[k]?
theorem Mk1.row {v : Value} {w w' : World} {k : Nat} {o : Obj} (h : Mk1 v w w') (hc : w.heap[k]? = some o) (h1 : v.ownBlock ≠ some k) : w'.heap[k]? = some o := (h.block k (block_lt hc) h1).trans hc
theorem Mk1.ints {v : Value} {w w' : World} {a : Option Addr} {zs : List Int} (h : Mk1 v w w') (hz : IntsAt w a zs) (hn : ∀ g off, a = some ⟨g, off, none⟩ → v.ownBlock ≠ some g) : IntsAt w' a zs := by
  intro hne
  obtain ⟨b, off, rfl, hc⟩ := hz hne
  refine ⟨b, off, rfl, fun i hi => ?_⟩
  have h1 := hc i hi
  have g1 := hn b off rfl
  rw [List.getElem?_eq_getElem hi] at h1 ⊢
  exact (World.cell?_of_block (h.block b (World.block_lt_of_cell? w _ h1) g1)).trans h1
theorem Mk1.old {v : Value} {w w' : World} {B : Nat} (h : Mk1 v w w') (hB : B ≤ w.heap.size) (h1 : ∀ g, v.ownBlock = some g → B ≤ g) : Below B w w' :=
  ⟨h.os, h.tape, h.output, h.size, fun k hk => h.block k (by omega) (fun e => by have := h1 k e; omega)⟩
theorem Mk1.owns {v : Value} {w w' : World} {base n : Nat} {e : TypeId} {size : Nat} {u : Value} {xs : List Value} (h : Mk1 v w w') (ho : w.ownsRow base e size u n xs) (h1 : ∀ g, u.ownBlock = some g → v.ownBlock ≠ some g) : w'.ownsRow base e size u n xs := by
  refine ⟨ho.1, ?_⟩
  rcases ho.2 with h2 | ⟨g, cap, cur, hv, hg, hh, r⟩
  · exact .inl h2
  · exact .inr ⟨g, cap, cur, hv, hg, h.row hh (h1 g (by rw [hv]; rfl)), r⟩
theorem mk1_of_marked {w w' : World} {base : Nat} {a : Option Addr} {n c : Nat} {k : Int} {vs : List Value} {e : Ending} (h : w.ownsRow base 2 1 (.slice a n c) n vs) (hp : MarkPost a n k w e w') :
    e = .returned (.int .i64 (k + n)) ∧ w'.ownsRow base 2 1 (.slice a n c) n ((marks k n).map intV) ∧ Mk1 (.slice a n c) w w' := by
  obtain ⟨h1, M⟩ := marked_owned h hp
  refine ⟨hp.1, h1, ⟨M.os, M.tape, M.output, by rw [M.size]; exact Nat.le_refl _, fun j hj hne => M.block j (fun hs => ?_)⟩⟩
  obtain ⟨_, off, he⟩ := hs
  exact hne (slice_block he)

/-- The box of a position. -/
def SprIn (W : World) (b : Nat) (s : Int) (a : Option Addr) (k c : Nat) : Prop := W.cell? ⟨b, 0, none⟩ = some (.int .i64 s) ∧ W.cell? ⟨b, 1, none⟩ = some (.slice a k c)
theorem SprIn.keep {W W' : World} {b : Nat} {s : Int} {a : Option Addr} {k c : Nat} (h : SprIn W b s a k c) (hb : Below W.heap.size W W') : SprIn W' b s a k c := ⟨cell_keep hb h.1, cell_keep hb h.2⟩
theorem SprIn.lt {W : World} {b : Nat} {s : Int} {a : Option Addr} {k c : Nat} (h : SprIn W b s a k c) : b < W.heap.size := World.block_lt_of_cell? W _ h.1
theorem sprIn_new (W : World) (s : Int) (a : Option Addr) (k c : Nat) (t : TypeId) : SprIn (W.alloc (.cells #[.int .i64 s, .slice a k c] t)) W.heap.size s a k c := ⟨by simp [go_sem], by simp [go_sem]⟩
theorem SprIn.mkr {lo hi : Nat} {W W' : World} {b : Nat} {s : Int} {a : Option Addr} {k c : Nat} (hx : SprIn W b s a k c) (h : MkR lo hi W W') (h1 : ¬ (lo ≤ b ∧ b < hi)) : SprIn W' b s a k c :=
  ⟨(World.cell?_of_block (h.block b hx.lt h1)).trans hx.1, (World.cell?_of_block (h.block b hx.lt h1)).trans hx.2⟩

theorem SprIn.mk1 {v : Value} {W W' : World} {b : Nat} {n : Int} {a : Option Addr} {k c : Nat} (hx : SprIn W b n a k c) (h : Mk1 v W W') (h1 : v.ownBlock ≠ some b) : SprIn W' b n a k c :=
  ⟨(World.cell?_of_block (h.block b hx.lt h1)).trans hx.1, (World.cell?_of_block (h.block b hx.lt h1)).trans hx.2⟩
set_option maxRecDepth 100000 in
set_option maxHeartbeats 2000000 in
theorem markSprouts_num (lo hi : Nat) (s : Int) (a : Option Addr) (c : Nat) (X : List (List (List Int))) (W : World) (h1 : CubeOwn W lo hi a c X) (hhi : hi ≤ W.heap.size) (hs : Small3 X) :
    Calls Try.prog 12 #[.agg #[.int .i64 s, .slice a X.length c], .int .i64 1] W (fun e W' => e = .returned (.int .i64 (1 + tot3 X)) ∧ MkR lo hi W W') := by
  obtain ⟨W0, hW0⟩ : ∃ W0, W0 = W.alloc (.cells #[.int .i64 s, .slice a X.length c] 29) := ⟨_, rfl⟩
  have hb0 : Below W.heap.size W W0 := by rw [hW0]; exact below_alloc _ _
  have hX0 : SprIn W0 W.heap.size s a X.length c := by rw [hW0]; exact sprIn_new _ _ _ _ _ _
  have HO1 := hide (h1.keep hb0)
  have HB0 := hide hb0
  obtain ⟨c0, c1⟩ := hX0
  clear h1 hb0
  go_enter Try.func12, Try.ntmps12
  go_wp2_with fail
  rw [← hW0]
  clear hW0
  (try go_wp2_with fail)
  refine (markInt64SSS_num a c X 1 lo hi _ HO1.out hs (by omega) (by omega)).mono ?_
  rintro e w2 ⟨rfl, hM⟩
  have hfin : Hid (MkR lo hi W w2) := hide ⟨hM.os.trans HB0.out.os, hM.tape.trans HB0.out.tape, hM.output.trans HB0.out.output, by have h1 := hM.size; have h3 := HB0.out.size; omega,
    fun j hj h1 => (hM.block j (fun hn => h1 ⟨hn.1, hn.2.1⟩)).trans (HB0.out.block j hj)⟩
  clear hM c0 c1
  go_wp2_with fail
  go_ret
  exact ⟨rfl, hfin.out⟩

/-- DegreesOf's answer. -/
def degL (s : Int) (X : List (List (List Int))) : List Int × Int := match sprC s X with
  | none => ([], 1)
  | some st => ((List.range s.toNat).map (degC st s.toNat), 0)
theorem sprC_le {s : Int} {X : List (List (List Int))} {st : Cts} (h : sprC s X = some st) : 1 ≤ s ∧ s ≤ 20 := by
  unfold sprC at h
  split at h
  · omega
  · cases h
theorem degL_le (s : Int) (X : List (List (List Int))) : (degL s X).1.length ≤ 1048576 := by
  unfold degL
  cases h : sprC s X with
  | none => simp
  | some st =>
    have := sprC_le h
    simp
    omega
theorem rowIs_ownsD {W : World} {B b n : Nat} {f : Nat → Int} (h : W.rowIs b 2 n (fun i => .int .i64 (f i))) (hB : B ≤ b) (hn : n ≤ 20) : W.ownsRow B 2 1 (.slice (some ⟨b, 0, none⟩) n n) n (((List.range n).map f).map intV) := by
  obtain ⟨cur, hc, hsz, hi⟩ := h
  refine ⟨by simp, .inr ⟨b, n, cur, rfl, hB, hc, Nat.le_refl _, by unfold maxLen; omega, by omega, ?_⟩⟩
  rw [Nat.mul_one, List.take_of_length_le (by simp; omega)]
  apply List.ext_getElem?
  intro i
  by_cases e : i < n
  · have h1 := hi i e
    have h2 : cur.toList[i]? = cur[i]? := by simp
    rw [h2, h1]
    simp [e, intV]
  · rw [List.getElem?_eq_none (by simp; omega), List.getElem?_eq_none (by simp; omega)]
theorem degR_new {s : Int} {X : List (List (List Int))} {W W' : World} {e : Ending} (h : DegR (sprC s X) s.toNat W e W') : NewList (degL s X) W e W' := by
  unfold degL
  obtain ⟨hb, h⟩ := h
  cases hr : sprC s X with
  | none =>
    rw [hr] at h
    exact ⟨none, 0, h, World.ownsRow_nil _ _ _ _, hb⟩
  | some st =>
    rw [hr] at h
    obtain ⟨b, hB, he, hrow⟩ := h
    have h20 := sprC_le hr
    have hlen : ((List.range s.toNat).map (degC st s.toNat)).length = s.toNat := by simp
    refine ⟨some ⟨b, 0, none⟩, s.toNat, ?_, ?_, hb⟩
    · dsimp only
      rw [hlen]
      exact he
    · dsimp only
      rw [hlen]
      exact rowIs_ownsD hrow hB (by omega)
end Go.Proofs.Ytlllkmobhjlmoab
