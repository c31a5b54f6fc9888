/-
  What stands between two moves of a race; PlayRace: plain; the program's text.
-/
import Derived.Test.YtkekanllfpdeaaaDoorNp
namespace Go.Proofs.YtkekanllfpdeaaaDoor
open Go.RowKit Go.Maps
set_option linter.unusedVariables false

/-- All below B is as it was, but for blocks n and m. -/
structure Two (B n m : Nat) (w w' : World) : Prop where
  os : w'.os = w.os
  tape : w'.tape = w.tape
  output : w'.output = w.output
  size : w.heap.size ≤ w'.heap.size
  block : ∀ k, k < B → k ≠ n → k ≠ m → w'.heap[k]? = w.heap[k]?
theorem Two.refl (B n m : Nat) (w : World) : Two B n m w w := ⟨rfl, rfl, rfl, Nat.le_refl _, fun _ _ _ _ => rfl⟩
theorem Two.trans {B n m : Nat} {a b c : World} (h : Two B n m a b) (k : Two B n m b c) : Two B n m a c :=
  ⟨k.os.trans h.os, k.tape.trans h.tape, k.output.trans h.output, Nat.le_trans h.size k.size, fun i hi hn hm => (k.block i hi hn hm).trans (h.block i hi hn hm)⟩
theorem Two.of_below {B n m : Nat} {a b : World} (h : Below B a b) : Two B n m a b := ⟨h.os, h.tape, h.output, h.size, fun k hk _ _ => h.block k hk⟩
theorem Two.of_but1 {B n m : Nat} {a b : World} (h : But n a b) (hB : B ≤ a.heap.size) : Two B n m a b := ⟨h.os, h.tape, h.output, h.size, fun k hk hn _ => h.block k (by omega) hn⟩
theorem Two.of_but2 {B n m : Nat} {a b : World} (h : But m a b) (hB : B ≤ a.heap.size) : Two B n m a b := ⟨h.os, h.tape, h.output, h.size, fun k hk _ hm => h.block k (by omega) hm⟩
theorem Two.old {B n m : Nat} {W a b : World} (h : Below W.heap.size W a) (k : Two B n m a b) (hB : W.heap.size ≤ B) (hn : W.heap.size ≤ n) (hm : W.heap.size ≤ m) : Below W.heap.size W b :=
  ⟨k.os.trans h.os, k.tape.trans h.tape, k.output.trans h.output, Nat.le_trans h.size k.size, fun i hi => (k.block i (by omega) (by omega) (by omega)).trans (h.block i hi)⟩
theorem Two.row {B n m : Nat} {a b : World} {k : Nat} {o : Obj} (h : Two B n m a b) (hc : a.heap[k]? = some o) (hk : k < B) (hn : k ≠ n) (hm : k ≠ m) : b.heap[k]? = some o := (h.block k hk hn hm).trans hc
theorem Two.cell {B n m : Nat} {a b : World} (h : Two B n m a b) {p : Addr} {v : Value} (hc : a.cell? p = some v) (hk : p.block < B) (hn : p.block ≠ n) (hm : p.block ≠ m) : b.cell? p = some v :=
  (World.cell?_of_block (h.block _ hk hn hm)).trans hc
theorem But.grows {n : Nat} {a b : World} (h : But n a b) : a.grownBy b (some n) := ⟨h.os, h.tape, h.output, h.size, fun k hk hne => h.block k hk (fun e => hne (by rw [e]))⟩
theorem own_not {w : World} {B : Nat} {v : Value} {n : Nat} {xs : List Value} (h : w.ownsRow B 2 1 v n xs) {k : Nat} (hk : k < B) : v.ownBlock ≠ some k := by
  rcases h.2 with ⟨hv, _⟩ | ⟨g', cap, cur, hv, hg, _⟩
  · rw [hv]; simp [Value.ownBlock]
  · rw [hv]; simp [Value.ownBlock]; omega

/-- What stands between two moves: the box that holds the state, the nodes taken, what is known. -/
structure TurnF (o : Obj) (I : World → Prop) (W3 : World) (bx bK B : Nat) (PL : List Int) (v : Value) (wr : World) : Prop where
  box : wr.heap[bx]? = some o
  own : wr.ownsRow B 2 1 v PL.length (PL.map intV)
  kn : I wr
  old : Two B bx bK W3 wr
  size : B ≤ wr.heap.size
variable {o : Obj} {I : World → Prop} {W3 : World} {bx bK B : Nat} {PL : List Int} {v : Value} {wr : World}
theorem TurnF.below (h : TurnF o I W3 bx bK B PL v wr) (hI : ∀ a b : World, I a → Below a.heap.size a b → I b) {w' : World} (hb : Below wr.heap.size wr w') : TurnF o I W3 bx bK B PL v w' :=
  ⟨box_keep h.box hb, ownsRow_keep h.own hb, hI _ _ h.kn hb, h.old.trans (Two.of_below (hb.mono h.size)), Nat.le_trans h.size hb.size⟩
theorem TurnF.but (h : TurnF o I W3 bx bK B PL v wr) {w' : World} (hb : But bK wr w') (hI : I w') (hx : bx ≠ bK) (hK : bK < B) : TurnF o I W3 bx bK B PL v w' :=
  ⟨hb.row h.box hx, h.own.kept hb.grows (.inr (own_not h.own hK)), hI, h.old.trans (Two.of_but2 hb h.size), Nat.le_trans h.size hb.size⟩
theorem TurnF.push (h : TurnF o I W3 bx bK B PL v wr) (hIt : ∀ a b : World, I a → (∀ k, k < B → k ≠ bx → b.heap[k]? = a.heap[k]?) → I b) (hx : bx < B) (hK : bK < B) {e : Int} {v' : Value} {w' : World}
    (hown : w'.ownsRow B 2 1 v' (PL.length + 1) (PL.map intV ++ [.int .i64 e])) (hg : (wr.alloc (.cells #[.int .i64 e] 2)).grownBy w' v.ownBlock) : TurnF o I W3 bx bK B (PL ++ [e]) v' w' := by
  have hsz : (wr.alloc (.cells #[.int .i64 e] 2)).heap.size = wr.heap.size + 1 := by simp
  have hs := h.size
  have hblk : ∀ k, k < B → w'.heap[k]? = wr.heap[k]? := fun k hk => (hg.block k (by rw [hsz]; omega) (fun e2 => own_not h.own hk e2.symm)).trans (Below.heap_alloc _ _ _ (by omega))
  refine ⟨(hblk bx hx).trans h.box, by simpa [intV] using hown, hIt _ _ h.kn (fun k hk _ => hblk k hk), h.old.trans ⟨?_, ?_, ?_, ?_, fun k hk _ _ => hblk k hk⟩, ?_⟩
  · exact hg.os
  · exact hg.tape
  · exact hg.output
  · have := hg.size; rw [hsz] at this; omega
  · have := hg.size; rw [hsz] at this; omega
theorem TurnF.store (h : TurnF o I W3 bx bK B PL v wr) (hIt : ∀ a b : World, I a → (∀ k, k < B → k ≠ bx → b.heap[k]? = a.heap[k]?) → I b) (hx : bx < B) {o' : Obj} {w' : World} (hb : w'.heap[bx]? = some o') (hbut : But bx wr w') : TurnF o' I W3 bx bK B PL v w' :=
  ⟨hb, h.own.kept hbut.grows (.inr (own_not h.own hx)), hIt _ _ h.kn (fun k hk hne => hbut.block k (by have := h.size; omega) hne), h.old.trans (Two.of_but1 hbut h.size), Nat.le_trans h.size hbut.size⟩
theorem but_set2 {bx : Nat} {a w : World} (h : But bx a w) (y0 y1 : Value) : But bx a ((w.setCell ⟨bx, 0, none⟩ y0).setCell ⟨bx, 1, none⟩ y1) := (h.set 0 y0).set 1 y1
/-- The block of a fresh list is none that was there. -/
theorem fresh_far {w : World} {a : Option Addr} {n c Z : Nat} {vs : List Value} {e : TypeId} (h : w.ownsRow Z e 1 (.slice a n c) n vs) : ∀ g off, a = some ⟨g, off, none⟩ → Z ≤ g ∧ g < w.heap.size := by
  intro g off e2
  rcases h.2 with ⟨hv, _⟩ | ⟨g', cap, cur, hv, hgg, hh, _⟩
  · simp only [Value.slice.injEq] at hv
    rw [e2] at hv
    cases hv.1
  · simp only [Value.slice.injEq] at hv
    rw [e2] at hv
    have e3 := hv.1
    simp only [Option.some.injEq, Addr.mk.injEq] at e3
    have hlt := (Array.getElem?_eq_some_iff.1 hh).1
    omega
/-- A list that stands apart from the row under way and from two blocks. -/
def Beside (wr : World) (a : Option Addr) (zs : List Int) (v : Value) (bx bm : Nat) : Prop := IntsAt wr a zs ∧ ∀ g off, a = some ⟨g, off, none⟩ → v.ownBlock ≠ some g ∧ g ≠ bx ∧ g ≠ bm ∧ g < wr.heap.size
theorem beside_new {w w' : World} {a : Option Addr} {c : Nat} {zs : List Int} {v : Value} {bx bm : Nat} (h : w'.ownsRow w.heap.size 2 1 (.slice a zs.length c) zs.length (zs.map intV)) (hv : ∀ j, v.ownBlock = some j → j < w.heap.size) (hx : bx < w.heap.size) (hm : bm < w.heap.size) : Beside w' a zs v bx bm :=
  ⟨intsAt_of_ownsRow h, fun g off e => by
    obtain ⟨h1, h2⟩ := fresh_far h g off e
    exact ⟨fun e2 => by have := hv g e2; omega, by omega, by omega, h2⟩⟩


/-! ### the play, plain -/
def plF (n : Int) (cs : List Int) : Nat → Int → Int → List Int
  | 0, _, _ => []
  | k + 1, F, S => if (endR n cs F S).isSome = true then [] else (bestL n cs F S).headD 0 :: plF n cs k (mF F S ((bestL n cs F S).headD 0)) (mS F S ((bestL n cs F S).headD 0))
def play (n : Int) (cs : List Int) (F S : Int) : List Int := plF n cs (freeN n F S) F S
theorem play_end {n : Int} {cs : List Int} {F S r : Int} (h : endR n cs F S = some r) : play n cs F S = [] := by
  unfold play
  cases freeN n F S with
  | zero => rfl
  | succ k => simp only [plF]; rw [h]; rfl
theorem play_go {n : Int} {cs : List Int} {F S i : Int} {r : List Int} (hst : St n F S) (h : endR n cs F S = none) (hb : bestL n cs F S = i :: r) : play n cs F S = i :: play n cs (mF F S i) (mS F S i) := by
  have hm : i ∈ frees n F S := by
    have : i ∈ bestL n cs F S := by rw [hb]; exact List.mem_cons_self
    exact (List.mem_filter.1 this).1
  have hf := (hst.move hm).2.1
  unfold play
  rw [hf]
  simp only [plF]
  rw [h, hb]
  rfl
theorem plF_le (n : Int) (cs : List Int) : ∀ (k : Nat) (F S : Int), (plF n cs k F S).length ≤ k
  | 0, _, _ => by simp [plF]
  | k + 1, F, S => by
    simp only [plF]
    split
    · simp
    · have := plF_le n cs k (mF F S ((bestL n cs F S).headD 0)) (mS F S ((bestL n cs F S).headD 0))
      simp only [List.length_cons]
      omega
theorem play_le {n : Int} (cs : List Int) (F S : Int) (h : n ≤ 9) : (play n cs F S).length ≤ 9 := by
  have h1 := plF_le n cs (freeN n F S) F S
  have h2 := freeN_le n F S
  unfold play
  omega
def plR (n : Int) (cs : List Int) : List Int × Int := if codeL n cs = 0 then (play n cs 0 0, 0) else ([], codeL n cs)
theorem plR_le {n : Int} {cs : List Int} : (plR n cs).1.length ≤ 1048576 := by
  unfold plR
  split
  · rename_i h
    have := play_le (n := n) cs 0 0 (codeL_zero h).2.2
    show (play n cs 0 0).length ≤ _
    omega
  · simp
theorem bL_none {n : Int} {cs : List Int} {F S : Int} (h : endR n cs F S = none) : bL n cs F S = bestL n cs F S := by unfold bL; rw [h]; rfl
theorem bL_some {n : Int} {cs : List Int} {F S r : Int} (h : endR n cs F S = some r) : bL n cs F S = [] := by unfold bL; rw [h]; rfl

set_option maxRecDepth 100000 in
set_option maxHeartbeats 8000000 in
theorem implPl_any (n : Int) (a : Option Addr) (c : Nat) (cs : List Int) (W : World) (ha : IntsAt W a cs) (hl : cs.length ≤ 1048576) (hT : TzTab W) :
    Calls Tryd.prog 30 #[.agg #[.int .i64 n, .slice a cs.length c]] W (NewList (plR n cs) W) := by
  have HT := hide hT
  clear hT
  obtain ⟨i0, hi0, hz0, hz1, hz2⟩ := info_parts Tryd.info2
  obtain ⟨W0, hW0⟩ : ∃ W0, W0 = W.alloc (.cells #[.int .i64 n, .slice a cs.length c] 28) := ⟨_, rfl⟩
  have hB0 : Hid (Below W.heap.size W W0) := by rw [hW0]; exact hide (below_alloc _ _)
  have hX0 : Hid (HexIn W0 W.heap.size n a cs.length c) := by rw [hW0]; exact hide (hexIn_new _ _ _ _ _ _)
  have hA0 := hide (ha.keep hB0.out)
  obtain ⟨c0, c1⟩ := hX0.out
  obtain ⟨r, hr⟩ : ∃ r, r = codeL n cs := ⟨_, rfl⟩
  have HC : Hid (Calls Tryd.prog 66 #[.agg #[.int .i64 n, .slice a cs.length c]] W0 (RetB (.int .i64 r) W0)) := hide (by rw [hr]; exact checkSolve_any n a c cs W0 hA0.out hl)
  by_cases h0 : r = 0
  · obtain ⟨hok, hn⟩ := codeL_zero (by rw [← hr]; exact h0)
    have HST0 := hide (st_zero hn)
    have hn9 := hn.2
    obtain ⟨PR, hPR⟩ : ∃ PR, PR = play n cs 0 0 := ⟨_, rfl⟩
    have HPR := hide hPR
    have HR : Hid (plR n cs = (PR, 0)) := hide (by unfold plR; rw [← hr, if_pos h0, hPR])
    obtain ⟨I, hI⟩ : ∃ I : Nat → World → Prop, I = fun b => KnS (lvR n cs) n a cs b := ⟨_, rfl⟩
    have HIB : Hid (∀ (k : Nat) (a b : World), I k a → Below a.heap.size a b → I k b) := hide (fun k a b h h2 => by rw [hI] at h ⊢; exact KnS.keep h h2)
    have HIL : Hid (∀ (k : Nat) (a : World), I k a → k < a.heap.size) := hide (fun k a h => by rw [hI] at h; exact KnS.lt h)
    have HBE : Hid (∀ (bm : Nat) (F S : Int) (V : World), St n F S → I bm V → Calls Tryd.prog 74 #[.agg #[.int .i64 n, .slice a cs.length c, .func (.func 127) #[] #[], .map (some bm)], .agg #[.int .i64 F, .int .i64 S]] V (NewLK bm (I bm) (bL n cs F S) V)) := hide (fun bm F S V hst hk => by rw [hI] at hk ⊢; exact bestNodes_any n a c cs hok bm F S hst V hk)
    have HNW : Hid (∀ V : World, IntsAt V a cs → TzTab V → Calls Tryd.prog 67 #[.agg #[.int .i64 n, .slice a cs.length c], .int .i64 1] V fun e W' => ∃ bm, e = .returned (.agg #[.int .i64 n, .slice a cs.length c, .func (.func 127) #[] #[], .map (some bm)]) ∧ V.heap.size ≤ bm ∧ Below V.heap.size V W' ∧ I bm W') := hide (fun V hv ht => (newR_any n a cs.length c V).mono (fun e w' ⟨bm, h1, h2, h3, h4⟩ => ⟨bm, h1, h2, h3, by rw [hI]; exact h4 a (lvR n cs) n cs hv ht⟩))
    have HIT0 : Hid (∀ (k B bx : Nat) (W4 : World), I k W4 → W4.heap.size ≤ B → k ≠ bx → (cs ≠ [] → ∀ g off, a = some ⟨g, off, none⟩ → g < B ∧ g ≠ bx) → k < B → 0 ≠ bx → 0 < B → ∀ x y : World, I k x → (∀ j, j < B → j ≠ bx → y.heap[j]? = x.heap[j]?) → I k y) := hide (fun k B bx W4 _ _ hkx hfa hkB hgx hgB x y hx hy => by
      rw [hI] at hx ⊢
      refine hx.turn (hy k hkB hkx) ?_ (hy _ hgB hgx)
      by_cases e : cs = []
      · subst e; exact CellsAt.nil _ _
      · intro hne
        obtain ⟨b, off, rfl, hc⟩ := hx.ints hne
        refine ⟨b, off, rfl, fun i hi => ?_⟩
        have h1 := hc i hi
        obtain ⟨g1, g2⟩ := hfa e b off rfl
        rw [List.getElem?_eq_getElem hi] at h1 ⊢
        exact (World.cell?_of_block (hy b g1 g2)).trans h1)
    rw [HR.out]
    subst h0
    clear hr hok hn hPR hI
    go_enter Tryd.func30, Tryd.ntmps30
    go_wp2_with fail
    rw [← hW0]
    clear hW0
    (try go_wp2_with fail)
    refine HC.out.mono ?_
    rintro e w1 ⟨rfl, hb1⟩
    have hB1 := hide (Below.trans' hB0.out hb1)
    have hX1 := hide (hX0.out.keep hb1)
    have hA1 := hide (hA0.out.keep hb1)
    clear hb1 c0 c1
    obtain ⟨c0, c1⟩ := hX1.out
    go_wp2_with fail
    refine (HNW.out _ hA1.out (HT.out.keep hB1.out)).mono ?_
    rintro e w2 ⟨bm, rfl, hbm, hb2, hk2⟩
    have HK2 := hide hk2
    have hB2 := hide (Below.trans' hB1.out hb2)
    have hA2 := hide (hA1.out.keep hb2)
    have hkl := HIL.out _ _ hk2
    have hWw1 := hB1.out.size
    clear hb2 hk2 c0 c1
    go_wp2_with fail
    obtain ⟨w3, hw3⟩ : ∃ w3, w3 = (w2.alloc (.cells #[.int .i64 n, .slice a cs.length c, .func (.func 127) #[] #[], .map (some bm)] 88)).alloc (.cells #[.int .i64 0, .int .i64 0] 92) := ⟨_, rfl⟩
    obtain ⟨sb, hsb⟩ : ∃ sb, sb = w2.heap.size := ⟨_, rfl⟩
    obtain ⟨bx, hbx⟩ : ∃ bx, bx = w2.heap.size + 1 := ⟨_, rfl⟩
    have hb3 : Below w2.heap.size w2 w3 := by rw [hw3]; exact (below_alloc _ _).alloc (by simp) _
    have HS3 : Hid (w3.heap[sb]? = some (.cells #[.int .i64 n, .slice a cs.length c, .func (.func 127) #[] #[], .map (some bm)] 88 (0, 0))) := by rw [hw3, hsb]; exact hide (row_alloc (alloc_row _ _ _) _)
    have HR3 : Hid (w3.heap[bx]? = some (.cells #[.int .i64 0, .int .i64 0] 92 (0, 0))) := by rw [hw3, hbx]; exact hide (alloc_row2 _ _ _ _)
    have hs3 : w3.heap.size = w2.heap.size + 2 := by rw [hw3]; simp
    have HK3 := hide (HIB.out _ _ _ HK2.out hb3)
    have hB3 := hide (Below.trans' hB2.out hb3)
    have hA3 := hide (hA2.out.keep hb3)
    have hFA : cs ≠ [] → ∀ g off, a = some ⟨g, off, none⟩ → g < w2.heap.size := fun hne g off e => by
      obtain ⟨b, o, hb, hlt⟩ := CellsAt.lt hA2.out (by simpa using hne)
      rw [hb] at e
      simp only [Option.some.injEq, Addr.mk.injEq] at e
      omega
    rw [← hw3]
    have hsx : sb ≠ bx := by omega
    have hsm : sb ≠ bm := by omega
    have hxm : bx ≠ bm := by omega
    have hsz3 : sb < w3.heap.size ∧ bx < w3.heap.size ∧ bm < w3.heap.size := by omega
    have hFA3 := hide (show cs ≠ [] → ∀ g off, a = some ⟨g, off, none⟩ → g < w3.heap.size ∧ g ≠ bx from fun hne g off e => by have := hFA hne g off e; omega)
    have hWw2 : W.heap.size ≤ w2.heap.size := hB2.out.size
    have HWX : Hid (W.heap.size ≤ bx) := hide (by omega)
    have HWK : Hid (W.heap.size ≤ bm) := hide (by omega)
    rw [← hbx, ← hsb]
    clear hw3 hb3 hFA hsb hbx
    obtain ⟨f0, f1, f2, f3, _⟩ := row4 HS3.out
    obtain ⟨t0, t1', _⟩ := row2' HR3.out
    (try go_wp2_with fail)
    refine (HBE.out _ _ _ _ HST0.out HK3.out).mono ?_
    rintro e w4 ⟨a4, c4, rfl, ho4, hbut4, hk4⟩
    obtain ⟨Z, hZ⟩ : ∃ Z, Z = w4.heap.size := ⟨_, rfl⟩
    have hs4 := hbut4.size
    have hBS : Hid (Beside w4 a4 (bL n cs 0 0) (.slice none 0 0) bx bm) := hide (beside_new ho4 (fun j hj => by simp [Value.ownBlock] at hj) (by omega) (by omega))
    have HR4 := hide (hbut4.row HR3.out hxm)
    have HS4 := hide (hbut4.row HS3.out hsm)
    have HK4 := hide hk4
    have HBUT4 := hide hbut4
    have HT4 : Hid (TurnF (.cells #[.int .i64 0, .int .i64 0] 92 (0, 0)) (I bm) w4 bx bm Z [] (.slice none 0 0) w4) := hide ⟨HR4.out, World.ownsRow_nil _ _ _ _, HK4.out, Two.refl _ _ _ _, by rw [hZ]; exact Nat.le_refl _⟩
    have hxZ : bx < Z := by omega
    have hmZ : bm < Z := by omega
    have hsZ : sb < Z := by omega
    have hB4 : Hid (Below W.heap.size W w4) := hide (below_but hB3.out hbut4 HWK.out)
    have HWB : Hid (W.heap.size ≤ Z) := hide (by have := hB4.out.size; omega)
    have HIT : Hid (∀ x y : World, I bm x → (∀ j, j < Z → j ≠ bx → y.heap[j]? = x.heap[j]?) → I bm y) := hide (HIT0.out bm Z bx w4 HK4.out (by omega) (fun e => hxm e.symm) (fun hne g off e => by have := hFA3.out hne g off e; omega) hmZ (by have := HT.out.lt; have := HWX.out; omega) (by have := HT.out.lt; have := HWB.out; omega))
    have HZ := hide hZ
    clear ho4 hbut4 hk4 hZ hs3 hs4 hkl hbm hWw1 hWw2 hsz3 t0 t1' f0 f1 f2 f3
    go_wp2_with fail
    obtain ⟨g0, hg0⟩ : ∃ g, g = freeN n 0 0 := ⟨_, rfl⟩
    have HG0 := hide hg0
    clear hg0
    go_loopg [7, 8] g0 (fun g v7 v8 wr => ∃ (PL : List Int) (F S : Int) (v0 : Value) (ac : Option Addr) (cc : Nat), v0 = v7 ∧ v8 = .slice ac (bL n cs F S).length cc ∧ St n F S ∧ freeN n F S = g ∧ PL ++ play n cs F S = PR ∧ Beside wr ac (bL n cs F S) v7 bx bm ∧ TurnF (.cells #[.int .i64 F, .int .i64 S] 92 (0, 0)) (I bm) w4 bx bm Z PL v7 wr)
    case atStart => exact ⟨[], 0, 0, _, a4, c4, rfl, rfl, HST0.out, HG0.out.symm, by rw [HPR.out]; rfl, hBS.out, HT4.out⟩
    case round =>
      clear HT4 hBS
      obtain ⟨PL, F, S, v, ac, cc, rfl, rfl, hst, hfr, hpl, hbs, hT⟩ := hrel
      have HST := hide hst
      have HPL := hide hpl
      have HFR := hide hfr
      have HT := hide hT
      have HBS := hide hbs
      obtain ⟨t0, t1', _⟩ := row2' hT.box
      obtain ⟨e0, e1, e2, e3⟩ := hst.lt
      have hPL9 : PL.length ≤ 9 := by
        have h1 := congrArg List.length hpl
        have h2 := play_le cs 0 0 hn9
        rw [← HPR.out] at h2
        rw [List.length_append] at h1
        omega
      cases hen : endR n cs F S with
      | some x =>
        have hpe : Hid (PL = PR) := hide (by rw [← hpl, play_end hen, List.append_nil])
        have hbe := bL_some hen
        rw [hbe]
        obtain ⟨av, cv, rfl⟩ := own_form hT.own
        have HFIN : Hid (NewList (PL, 0) W (.returned (.tuple #[.slice av PL.length cv, .int .i64 0])) wr) := hide ⟨av, cv, rfl, ownsRow_base hT.own HWB.out, Two.old hB4.out hT.old HWB.out HWX.out HWK.out⟩
        clear hst hfr hpl hT hbs hen hbe t0 t1'
        go_wp2_with fail
        go_ret2
        rw [← hpe.out]
        exact HFIN.out
      | none =>
        have hbe := bL_none hen
        have hne := bestL_ne hst hen
        cases hbl : bestL n cs F S with
        | nil => exact absurd hbl hne
        | cons i' jr =>
          rw [hbl] at hbe
          rw [hbe] at HBS
          rw [hbe]
          have hmem : i' ∈ frees n F S := by
            have : i' ∈ bestL n cs F S := by rw [hbl]; exact List.mem_cons_self
            exact (List.mem_filter.1 this).1
          obtain ⟨z0, z1, _⟩ := frees_mem hmem
          obtain ⟨h1, h3, _⟩ := hst.move hmem
          have hpl2 : (PL ++ [i']) ++ play n cs (mF F S i') (mS F S i') = PR := by
            rw [← hpl, play_go hst hen hbl]
            simp
          obtain ⟨g', hg'⟩ : ∃ g', gk = g' + 1 := ⟨freeN n (mF F S i') (mS F S i'), by omega⟩
          subst hg'
          have hjl : (0 : Int) < ((i' :: jr).length : Int) := by simp
          obtain ⟨bl, off, y, rfl, hci, hi'⟩ := HBS.out.1.one (k := 0) (by simp)
          have hii : y = i' := by have := hi'.out; simp at this; exact this.symm
          subst hii
          obtain ⟨hblv, hblx, hblm, hbll⟩ := HBS.out.2 bl off rfl
          have hci' : wr.cell? ⟨bl, off, none⟩ = some (.int .i64 y) := by simpa using hci
          obtain ⟨nj, hnj⟩ : ∃ nj, nj = (y :: jr).length := ⟨_, rfl⟩
          rw [← hnj] at hjl ⊢
          obtain ⟨r, hr⟩ : ∃ r, r = mF F S y := ⟨_, rfl⟩
          obtain ⟨bb, hbb⟩ : ∃ bb, bb = mS F S y := ⟨_, rfl⟩
          have HWI : Hid (∀ V : World, Calls Tryd.prog 76 #[.agg #[.int .i64 F, .int .i64 S], .int .i64 y] V (RetB (.agg #[.int .i64 r, .int .i64 bb]) V)) := hide (fun V => by rw [hr, hbb]; exact with_any F S y e0 (by omega) e2 (by omega) z0 (by omega) V)
          rw [← hr, ← hbb] at h1 h3 hpl2
          have HST2 := hide h1
          have HFR2 : Hid (freeN n r bb = g') := hide (by omega)
          have HPL2 := hide hpl2
          have hown6 := HT.out.own
          have hsz6 := HT.out.size
          clear hst hfr hpl hT hbs hen hbe hne hbl hmem h1 h3 hr hbb hpl2 hci hi' hnj t0 t1'
          go_wp2_with (at_builtin; refine wpList_append_own _ rfl _ _ 22 rfl (Z) 2 i0 (.int .i64 0) 1 8 Tryd.underlying22 hi0 hz0 hz1 hz2 rfl (by decide) _ _ _ rfl (hown6.alloc _) ⟨wr.heap.size, 0, none⟩ 1 1 [.int .i64 y] rfl rfl (cell_one_new _ _ _) (by simp [Value.oneCell']) (by unfold maxLen; omega) (by omega) (by simp; omega) ?_)
          intro v' w7 hown' hgrow _
          have hT7 := HT.out.push HIT.out hxZ hmZ (by simpa using hown') hgrow
          have hci7 : w7.cell? ⟨bl, off, none⟩ = some (.int .i64 y) := (World.cell?_of_block (hgrow.block bl (by simp; omega) (fun e => hblv e.symm))).trans (cell_keep (below_alloc wr _) hci')
          have HT7 := hide hT7
          obtain ⟨t0, t1', _⟩ := row2' hT7.box
          have p0 : ∀ p : Past w7, p.to.cell? ⟨bx, 0, none⟩ = some (.int .i64 F) := fun p => p.cell t0
          have p1 : ∀ p : Past w7, p.to.cell? ⟨bx, 1, none⟩ = some (.int .i64 S) := fun p => p.cell t1'
          have p2 : ∀ p : Past w7, p.to.cell? ⟨bl, off, none⟩ = some (.int .i64 y) := fun p => p.cell hci7
          clear hown' hgrow hown6 hT7 hci' hci7 t0 t1'
          go_wp2_with fail
          refine wp_region_past_tail 5 (by kernel_rfl) (by kernel_rfl) ?_
          simp only [List.take_succ_cons, List.take_zero, List.drop_succ_cons, List.drop_zero]
          repeat (first | go_big_quiet_step ((go_at_call 76; with_reducible exact ret_past (HWI.out _))) | quiet_step ((go_at_call 76; with_reducible exact ret_past (HWI.out _))))
          refine wpQuiet_nil ?_
          rintro _ ⟨pq, rfl⟩
          have hT8 := HT7.out.below (HIB.out bm) pq.old
          obtain ⟨w8, hw8⟩ : ∃ w8, w8 = pq.to := ⟨_, rfl⟩
          rw [← hw8] at hT8 ⊢
          clear hw8
          obtain ⟨t0, t1', y0, y1⟩ := row2' hT8.box
          have hT9 := hT8.store HIT.out hxZ (box_set2' (x' := .int .i64 r) (y' := .int .i64 bb) hT8.box) (but_set2 (But.refl _ _) _ _)
          obtain ⟨w9, hw9⟩ : ∃ w9, w9 = (w8.setCell ⟨bx, 0, none⟩ (.int .i64 r)).setCell ⟨bx, 1, none⟩ (.int .i64 bb) := ⟨_, rfl⟩
          rw [← hw9] at hT9
          have HT9 := hide hT9
          have HW9 := hide hw9
          have hS9 : w9.heap[sb]? = some (.cells #[.int .i64 n, .slice a cs.length c, .func (.func 127) #[] #[], .map (some bm)] 88 (0, 0)) := hT9.old.row HS4.out hsZ hsx hsm
          have hS8 : w8.heap[sb]? = some (.cells #[.int .i64 n, .slice a cs.length c, .func (.func 127) #[] #[], .map (some bm)] 88 (0, 0)) := hT8.old.row HS4.out hsZ hsx hsm
          have HS9 := hide hS9
          obtain ⟨f0, f1, f2, f3, _⟩ := row4 hS8
          clear hT8 p0 p1 p2 hT9 hw9 hS9 hS8
          go_wp2_with fail
          rw [← HW9.out]
          clear HW9 t0 t1' y0 y1 f0 f1 f2 f3
          obtain ⟨f0, f1, f2, f3, _⟩ := row4 HS9.out
          obtain ⟨t0, t1', _⟩ := row2' HT9.out.box
          (try go_wp2_with fail)
          refine (HBE.out _ _ _ _ HST2.out HT9.out.kn).mono ?_
          rintro e w10 ⟨a10, c10, rfl, ho10, hb10, hk10⟩
          have HT10 := hide (HT9.out.but hb10 hk10 hxm hmZ)
          have hBS10 := hide (beside_new (v := v') (bx := bx) (bm := bm) ho10 (fun j hj => (HT9.out.own.lt j hj).2) (by have := HT9.out.size; omega) (by have := HT9.out.size; omega))
          clear ho10 hb10 hk10 f0 f1 f2 f3 t0 t1'
          go_wp2_with fail
          go_roundg g'
          case rel => exact ⟨PL ++ [y], r, bb, _, a10, c10, rfl, rfl, HST2.out, HFR2.out, HPL2.out, hBS10.out, HT10.out⟩
          case measure => omega
  · have HR : Hid (plR n cs = ([], r)) := hide (by unfold plR; rw [← hr, if_neg h0])
    rw [HR.out]
    have e0 : (r != 0) = true := by simp [h0]
    clear hr ha h0
    go_enter Tryd.func30, Tryd.ntmps30
    go_wp2_with fail
    rw [← hW0]
    clear hW0
    (try go_wp2_with fail)
    refine HC.out.mono ?_
    rintro e w1 ⟨rfl, hb1⟩
    have hB1 := hide (Below.trans' hB0.out hb1)
    clear hb1
    go_wp2_with fail
    go_ret2
    exact newList_nil hB1.out
end Go.Proofs.YtkekanllfpdeaaaDoor
