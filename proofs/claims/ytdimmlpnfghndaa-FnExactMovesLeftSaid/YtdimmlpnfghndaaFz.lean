/-
  MovesLeft, the program's text: two searches, two maps that turn.
-/
import Derived.Test.YtdimmlpnfghndaaFy
namespace Go.Proofs.Ytdimmlpnfghndaa
open Go.RowKit Go.Maps
set_option linter.unusedVariables false

/-! ### regions whose callees turn one of two known blocks -/
structure But2 (n m : Nat) (w w' : World) : Prop where
  os : w'.os = w.os
  tape : w'.tape = w.tape
  output : w'.output = w.output
  size : w.heap.size ≤ w'.heap.size
  block : ∀ k, k < w.heap.size → k ≠ n → k ≠ m → w'.heap[k]? = w.heap[k]?
theorem But2.refl (n m : Nat) (w : World) : But2 n m w w := ⟨rfl, rfl, rfl, Nat.le_refl _, fun _ _ _ _ => rfl⟩
theorem But2.below {n m : Nat} {a b c : World} (h : But2 n m a b) (k : Below b.heap.size b c) : But2 n m a c :=
  ⟨k.os.trans h.os, k.tape.trans h.tape, k.output.trans h.output, Nat.le_trans h.size k.size, fun i hi hn hm => (k.block i (Nat.lt_of_lt_of_le hi h.size)).trans (h.block i hi hn hm)⟩
theorem But2.but1 {n m : Nat} {a b c : World} (h : But2 n m a b) (k : But n b c) : But2 n m a c :=
  ⟨k.os.trans h.os, k.tape.trans h.tape, k.output.trans h.output, Nat.le_trans h.size k.size, fun i hi hn hm => (k.block i (Nat.lt_of_lt_of_le hi h.size) hn).trans (h.block i hi hn hm)⟩
theorem But2.but2 {n m : Nat} {a b c : World} (h : But2 n m a b) (k : But m b c) : But2 n m a c :=
  ⟨k.os.trans h.os, k.tape.trans h.tape, k.output.trans h.output, Nat.le_trans h.size k.size, fun i hi hn hm => (k.block i (Nat.lt_of_lt_of_le hi h.size) hm).trans (h.block i hi hn hm)⟩
theorem But2.cell {n m : Nat} {a b : World} (h : But2 n m a b) {p : Addr} {v : Value} (hc : a.cell? p = some v) (hn : p.block ≠ n) (hm : p.block ≠ m) : b.cell? p = some v :=
  (World.cell?_of_block (h.block _ (World.block_lt_of_cell? a p hc) hn hm)).trans hc
theorem But2.old {n m : Nat} {W a b : World} (h : Below W.heap.size W a) (k : But2 n m a b) (hn : W.heap.size ≤ n) (hm : W.heap.size ≤ m) : Below W.heap.size W b :=
  ⟨k.os.trans h.os, k.tape.trans h.tape, k.output.trans h.output, Nat.le_trans h.size k.size, fun i hi => (k.block i (Nat.lt_of_lt_of_le hi h.size) (by omega) (by omega)).trans (h.block i hi)⟩
structure P2 (n m : Nat) (I : World → Prop) (w : World) where
  to : World
  old : But2 n m w to
  inv : I w → I to
def P2.start (n m : Nat) (I : World → Prop) (w : World) : P2 n m I w := ⟨w, But2.refl _ _ _, id⟩
instance (n m : Nat) (I : World → Prop) (w : World) : Inhabited (P2 n m I w) := ⟨P2.start n m I w⟩
theorem P2.cell {n m : Nat} {I : World → Prop} {w : World} (p : P2 n m I w) {a : Addr} {v : Value} (h : w.cell? a = some v) (hn : a.block ≠ n) (hm : a.block ≠ m) : p.to.cell? a = some v := p.old.cell h hn hm
theorem ret1_p2 {P : Program} {f : FuncId} {args : Array Value} {n m : Nat} {I J : World → Prop} {w : World} {p : P2 n m I w} {v : Value} (hI : ∀ b, But n p.to b → J b → I b) (h : Calls P f args p.to (RetK n J v p.to)) :
    Calls P f args p.to fun e w'' => e = .returned v ∧ ∃ q : P2 n m I w, w'' = q.to :=
  h.mono fun e w' hr => ⟨hr.1, ⟨w', p.old.but1 hr.2.1, fun _ => hI _ hr.2.1 hr.2.2⟩, rfl⟩
theorem ret2_p2 {P : Program} {f : FuncId} {args : Array Value} {n m : Nat} {I J : World → Prop} {w : World} {p : P2 n m I w} {v : Value} (hI : ∀ b, But m p.to b → J b → I b) (h : Calls P f args p.to (RetK m J v p.to)) :
    Calls P f args p.to fun e w'' => e = .returned v ∧ ∃ q : P2 n m I w, w'' = q.to :=
  h.mono fun e w' hr => ⟨hr.1, ⟨w', p.old.but2 hr.2.1, fun _ => hI _ hr.2.1 hr.2.2⟩, rfl⟩
theorem wp_region_p2 {P : Program} {id : Nat} {Q : Exit → Act → World → Prop} {a : Act} {w : World} {l : List Oper} (n m : Nat) (I : World → Prop) (hI : ∀ a b : World, I a → Below a.heap.size a b → I b) (hm : P.follows .mixedOrders = true) (hB : Region.lexB .any l.toArray = true)
    (h : wpQuiet P l.toArray (fun w' => ∃ p : P2 n m I w, w' = p.to) (fun a' => ∀ w', (∃ p : P2 n m I w, w' = p.to) → Q .normal a' w') l a) : (Code.region id l.toArray true).wp P Q a w :=
  wp_region_quiet (C := fun w' => ∃ p : P2 n m I w, w' = p.to) hm hB ⟨⟨_, (But2.refl _ _ _).below (Below.drew (Below.refl _ _)), fun hi => hI _ _ hi (Below.drew (Below.refl _ _))⟩, rfl⟩ (by simpa using h)
/-- A map of turns, beside another block that turned. -/
theorem KnM.beside {lv : Int → Int → Int → Lit} {E : TypeId} {N L : Int} {ext : List (Nat × Obj)} {b k : Nat} {w w' : World} (h : KnM lv E N L ext b w) (hb : But k w w') (hk : b ≠ k) (he : ∀ p ∈ ext, p.1 ≠ k) : KnM lv E N L ext b w' :=
  h.turn (hb.block b h.lt hk) (fun p hp => hb.block _ (Array.getElem?_eq_some_iff.1 (h.2 p hp).2).1 (he p hp))

set_option maxRecDepth 100000 in
theorem movesBy_any (fk : Nat) (w : World) :
    Calls Try.prog 69 #[.func (.func fk) #[] #[]] w fun e w' => e = .returned (.func (.func 79) #[] #[.pointer (some ⟨w.heap.size, 0, none⟩)]) ∧ w.alloc (.cells #[.func (.func fk) #[] #[]] 85) = w' := by
  go_enter Try.func69, Try.ntmps69
  go_wp2
  go_ret
  exact ⟨rfl, rfl⟩

/-- The least and the greatest number of moves and their code. -/
def leftR (n L R B game : Int) : Value := if codeP n L R B game 0 = 0 then .tuple #[.int .i64 (left upMin n L R B game 0), .int .i64 (left upMax n L R B game 0), .int .i64 0] else .tuple #[.int .i64 0, .int .i64 0, .int .i64 (codeP n L R B game 0)]

set_option maxRecDepth 100000 in
set_option maxHeartbeats 2000000 in
theorem implLeft_any (n L R B game : Int) (W : World) : Calls Try.prog 36 #[.agg #[.int .i64 n, .int .i64 L, .int .i64 R, .int .i64 B], .int .i64 game] W (RetB (leftR n L R B game) W) := by
  have hB0 := hide (below_alloc W (.cells #[.int .i64 n, .int .i64 L, .int .i64 R, .int .i64 B] 25))
  have hX0 := hide (fieldIn_new W n L R B 25)
  by_cases hc : codeP n L R B game 0 = 0
  · have HC := hide hc
    obtain ⟨v1, hv1⟩ : ∃ b, b = left upMin n L R B game 0 := ⟨_, rfl⟩
    obtain ⟨v2, hv2⟩ : ∃ b, b = left upMax n L R B game 0 := ⟨_, rfl⟩
    have HR : Hid (leftR n L R B game = .tuple #[.int .i64 v1, .int .i64 v2, .int .i64 0]) := hide (by unfold leftR; rw [if_pos hc, hv1, hv2])
    obtain ⟨K, hrv⟩ := ruleV_form game
    obtain ⟨g1, g2, g3, g4⟩ := codeP_zero hc
    have HRF : Hid (∀ V : World, Calls Try.prog 53 #[.agg #[.int .i64 n, .int .i64 L, .int .i64 R, .int .i64 B], .int .i64 game, .int .i64 0] V (RetB (.tuple #[.iface K (.agg #[]), .int .i64 0]) V)) := hide (fun V => by rw [← hrv]; exact rulesFor_ok HC.out V)
    have HV1 : Hid (∀ (pb1 bm1 : Nat) (V : World), KnM (lvI upMin n L game) 2 n L [(pb1, .cells #[.func (.func 70) #[] #[]] 85 (0, 0))] bm1 V → Calls Try.prog 72 #[.agg #[.iface K (.agg #[]), .func (.func 79) #[] #[.pointer (some ⟨pb1, 0, none⟩)], .map (some bm1)], .agg #[.int .i64 n, .int .i64 L, .int .i64 R, .int .i64 B, .int .i64 0]] V (RetK bm1 (fun w => KnM (lvI upMin n L game) 2 n L [(pb1, .cells #[.func (.func 70) #[] #[]] 85 (0, 0))] bm1 w) (.int .i64 v1) V)) := hide (fun pb1 bm1 V hk => by rw [← hrv, hv1]; exact valueI_any upMin n L game _ upMin_ok pb1 (min_rule pb1) g2 bm1 _ R B 0 V ⟨g1, by omega, by omega⟩ rfl hk)
    have HV2 : Hid (∀ (pb2 bm2 : Nat) (V : World), KnM (lvI upMax n L game) 2 n L [(pb2, .cells #[.func (.func 71) #[] #[]] 85 (0, 0))] bm2 V → Calls Try.prog 72 #[.agg #[.iface K (.agg #[]), .func (.func 79) #[] #[.pointer (some ⟨pb2, 0, none⟩)], .map (some bm2)], .agg #[.int .i64 n, .int .i64 L, .int .i64 R, .int .i64 B, .int .i64 0]] V (RetK bm2 (fun w => KnM (lvI upMax n L game) 2 n L [(pb2, .cells #[.func (.func 71) #[] #[]] 85 (0, 0))] bm2 w) (.int .i64 v2) V)) := hide (fun pb2 bm2 V hk => by rw [← hrv, hv2]; exact valueI_any upMax n L game _ upMax_ok pb2 (max_rule pb2) g2 bm2 _ R B 0 V ⟨g1, by omega, by omega⟩ rfl hk)
    rw [HR.out]
    clear hc hrv hv1 hv2 g1 g2 g3 g4
    go_enter Try.func36, Try.ntmps36
    go_wp2_with fail
    refine (HRF.out _).mono ?_
    rintro e w1 ⟨rfl, hb1⟩
    (try clear X0 X1 X2 X3)
    have hX1 := hide (hX0.out.keep hb1)
    obtain ⟨X0, X1, X2, X3⟩ := hX1.out
    have hB1 := hide (Below.trans' hB0.out hb1)
    clear hb1
    go_wp2_with fail
    have hbs := hX1.out.lt
    obtain ⟨w2, hw2⟩ : ∃ w2, w2 = w1.alloc (.cells #[.int .i64 n, .int .i64 L, .int .i64 R, .int .i64 B, .int .i64 0] 64) := ⟨_, rfl⟩
    have hB2' : Below w1.heap.size w1 w2 := by rw [hw2]; exact below_alloc _ _
    have hT2 : Hid (w2.heap[w1.heap.size]? = some (.cells #[.int .i64 n, .int .i64 L, .int .i64 R, .int .i64 B, .int .i64 0] 64 (0, 0))) := by rw [hw2]; exact hide (heap_alloc_new _ _)
    have hs2 : Hid (w2.heap.size = w1.heap.size + 1) := by rw [hw2]; exact hide (by simp)
    rw [← hw2]
    have hB2 := hide (Below.trans' hB1.out hB2')
    clear hw2 hB2' X0 X1 X2 X3
    refine (movesBy_any _ _).mono ?_
    rintro e w3 ⟨rfl, hw3⟩
    have hB3' : Below w2.heap.size w2 w3 := by rw [← hw3]; exact below_alloc _ _
    have hP3 : w3.heap[w2.heap.size]? = some (.cells #[.func (.func 70) #[] #[]] 85 (0, 0)) := by rw [← hw3]; exact heap_alloc_new _ _
    have hs3 : Hid (w3.heap.size = w2.heap.size + 1) := by rw [← hw3]; exact hide (by simp)
    obtain ⟨pb1, hpb1⟩ : ∃ b, b = w2.heap.size := ⟨_, rfl⟩
    rw [← hpb1] at hP3 ⊢
    have HPB1 := hide hpb1
    have hB3 := hide (Below.trans' hB2.out hB3')
    have hT3 := hide (box_keep hT2.out hB3')
    have HP3 := hide hP3
    clear hw3 hB3' hP3 hpb1
    go_wp2_with fail
    refine (newI_any n L (lvI upMin n L game) [(pb1, .cells #[.func (.func 70) #[] #[]] 85 (0, 0))] pb1 K _ (fun p hp => by obtain rfl := List.mem_singleton.1 hp; exact HP3.out)).mono ?_
    rintro e w4 ⟨bm1, rfl, hk4, hb4, hB4'⟩
    have HK4 := hide hk4
    have hB4 := hide (Below.trans' hB3.out hB4')
    have hT4 := hide (box_keep hT3.out hB4')
    have hbm4 := hk4.lt
    clear hk4 hB4'
    go_wp2_with fail
    obtain ⟨w5, hw5⟩ : ∃ w5, w5 = w4.alloc (.cells #[.iface K (.agg #[]), .func (.func 79) #[] #[.pointer (some ⟨pb1, 0, none⟩)], .map (some bm1)] 88) := ⟨_, rfl⟩
    have hB5' : Below w4.heap.size w4 w5 := by rw [hw5]; exact below_alloc _ _
    have hS5 : Hid (w5.heap[w4.heap.size]? = some (.cells #[.iface K (.agg #[]), .func (.func 79) #[] #[.pointer (some ⟨pb1, 0, none⟩)], .map (some bm1)] 88 (0, 0))) := by rw [hw5]; exact hide (heap_alloc_new _ _)
    have hs5 : Hid (w5.heap.size = w4.heap.size + 1) := by rw [hw5]; exact hide (by simp)
    rw [← hw5]
    have HK5 := hide (HK4.out.keep hB5')
    have hB5 := hide (Below.trans' hB4.out hB5')
    have hT5 := hide (box_keep hT4.out hB5')
    clear hw5 hB5'
    (try go_wp2_with fail)
    refine (movesBy_any _ _).mono ?_
    rintro e w6 ⟨rfl, hw6⟩
    have hB6' : Below w5.heap.size w5 w6 := by rw [← hw6]; exact below_alloc _ _
    have hP6 : w6.heap[w5.heap.size]? = some (.cells #[.func (.func 71) #[] #[]] 85 (0, 0)) := by rw [← hw6]; exact heap_alloc_new _ _
    have hs6 : Hid (w6.heap.size = w5.heap.size + 1) := by rw [← hw6]; exact hide (by simp)
    obtain ⟨pb2, hpb2⟩ : ∃ b, b = w5.heap.size := ⟨_, rfl⟩
    rw [← hpb2] at hP6 ⊢
    have HPB2 := hide hpb2
    have hB6 := hide (Below.trans' hB5.out hB6')
    have hT6 := hide (box_keep hT5.out hB6')
    have hS6 := hide (box_keep hS5.out hB6')
    have HK6 := hide (HK5.out.keep hB6')
    have HP6 := hide hP6
    clear hw6 hB6' hP6 hpb2
    go_wp2_with fail
    refine (newI_any n L (lvI upMax n L game) [(pb2, .cells #[.func (.func 71) #[] #[]] 85 (0, 0))] pb2 K _ (fun p hp => by obtain rfl := List.mem_singleton.1 hp; exact HP6.out)).mono ?_
    rintro e w7 ⟨bm2, rfl, hk7, hb7, hB7'⟩
    have HK7 := hide hk7
    have hB7 := hide (Below.trans' hB6.out hB7')
    have hT7 := hide (box_keep hT6.out hB7')
    have hS7 := hide (box_keep hS6.out hB7')
    have HKm7 := hide (HK6.out.keep hB7')
    have hbm7 := hk7.lt
    clear hk7 hB7'
    go_wp2_with fail
    obtain ⟨w8, hw8⟩ : ∃ w8, w8 = w7.alloc (.cells #[.iface K (.agg #[]), .func (.func 79) #[] #[.pointer (some ⟨pb2, 0, none⟩)], .map (some bm2)] 88) := ⟨_, rfl⟩
    have hB8' : Below w7.heap.size w7 w8 := by rw [hw8]; exact below_alloc _ _
    have hU8 : w8.heap[w7.heap.size]? = some (.cells #[.iface K (.agg #[]), .func (.func 79) #[] #[.pointer (some ⟨pb2, 0, none⟩)], .map (some bm2)] 88 (0, 0)) := by rw [hw8]; exact heap_alloc_new _ _
    rw [← hw8]
    have HK8 := hide (HK7.out.keep hB8')
    have HKm8 := hide (HKm7.out.keep hB8')
    have hB8 := hide (Below.trans' hB7.out hB8')
    have hT8 := box_keep hT7.out hB8'
    have hS8 := box_keep hS7.out hB8'
    obtain ⟨t0, t1, t2, t3, t4, _⟩ := row5 hT8
    obtain ⟨f0, f1, f2, _⟩ := row3 hS8
    obtain ⟨u0, u1, u2, _⟩ := row3 hU8
    have hs2 := hs2.out
    have hs3 := hs3.out
    have hs5 := hs5.out
    have hs6 := hs6.out
    have hpb1 := HPB1.out
    have hpb2 := HPB2.out
    have hs34 := (Array.getElem?_eq_some_iff.1 hS8).1
    have e1 : W.heap.size ≤ bm1 := by have := hB3.out.size; omega
    have e2 : W.heap.size ≤ bm2 := by have := hB6.out.size; omega
    have e3 : bm1 ≠ bm2 := by omega
    have e4 : pb1 ≠ bm2 := by omega
    have e5 : pb2 ≠ bm1 := by omega
    have n1 : w1.heap.size ≠ bm1 := by omega
    have n2 : w1.heap.size ≠ bm2 := by omega
    have n3 : w4.heap.size ≠ bm1 := by omega
    have n4 : w4.heap.size ≠ bm2 := by omega
    have n5 : w7.heap.size ≠ bm1 := by omega
    have n6 : w7.heap.size ≠ bm2 := by omega
    obtain ⟨I, hI⟩ : ∃ I : World → Prop, I = fun w => (KnM (lvI upMin n L game) 2 n L [(pb1, .cells #[.func (.func 70) #[] #[]] 85 (0, 0))] bm1 w) ∧ (KnM (lvI upMax n L game) 2 n L [(pb2, .cells #[.func (.func 71) #[] #[]] 85 (0, 0))] bm2 w) := ⟨_, rfl⟩
    have HI2 : ∀ w, I w ↔ ((KnM (lvI upMin n L game) 2 n L [(pb1, .cells #[.func (.func 70) #[] #[]] 85 (0, 0))] bm1 w) ∧ (KnM (lvI upMax n L game) 2 n L [(pb2, .cells #[.func (.func 71) #[] #[]] 85 (0, 0))] bm2 w)) := fun w => by rw [hI]
    have HIK : Hid (∀ a b : World, I a → Below a.heap.size a b → I b) := hide (fun a b h k => by rw [hI] at h ⊢; exact ⟨h.1.keep k, h.2.keep k⟩)
    have HI8 : Hid (I w8) := hide (by rw [hI]; exact ⟨HKm8.out, HK8.out⟩)
    have HW1 : Hid (∀ p : P2 bm1 bm2 I w8, Calls Try.prog 72 #[.agg #[.iface K (.agg #[]), .func (.func 79) #[] #[.pointer (some ⟨pb1, 0, none⟩)], .map (some bm1)], .agg #[.int .i64 n, .int .i64 L, .int .i64 R, .int .i64 B, .int .i64 0]] p.to fun e w'' => e = .returned (.int .i64 v1) ∧ ∃ q : P2 bm1 bm2 I w8, w'' = q.to) := hide (fun p => by
      have h1 := (HI2 _).1 (p.inv HI8.out)
      exact ret1_p2 (fun b hb hj => (HI2 _).2 ⟨hj, h1.2.beside hb e3.symm (fun q hq => by obtain rfl := List.mem_singleton.1 hq; exact e5)⟩) (HV1.out pb1 bm1 _ h1.1))
    have HW2 : Hid (∀ p : P2 bm1 bm2 I w8, Calls Try.prog 72 #[.agg #[.iface K (.agg #[]), .func (.func 79) #[] #[.pointer (some ⟨pb2, 0, none⟩)], .map (some bm2)], .agg #[.int .i64 n, .int .i64 L, .int .i64 R, .int .i64 B, .int .i64 0]] p.to fun e w'' => e = .returned (.int .i64 v2) ∧ ∃ q : P2 bm1 bm2 I w8, w'' = q.to) := hide (fun p => by
      have h1 := (HI2 _).1 (p.inv HI8.out)
      exact ret2_p2 (fun b hb hj => (HI2 _).2 ⟨h1.1.beside hb e3 (fun q hq => by obtain rfl := List.mem_singleton.1 hq; exact e4), hj⟩) (HV2.out pb2 bm2 _ h1.2))
    have r0 : ∀ p : P2 bm1 bm2 I w8, p.to.cell? ⟨w1.heap.size, 0, none⟩ = some (.int .i64 n) := fun p => p.cell t0 n1 n2
    have r1 : ∀ p : P2 bm1 bm2 I w8, p.to.cell? ⟨w1.heap.size, 1, none⟩ = some (.int .i64 L) := fun p => p.cell t1 n1 n2
    have r2 : ∀ p : P2 bm1 bm2 I w8, p.to.cell? ⟨w1.heap.size, 2, none⟩ = some (.int .i64 R) := fun p => p.cell t2 n1 n2
    have r3 : ∀ p : P2 bm1 bm2 I w8, p.to.cell? ⟨w1.heap.size, 3, none⟩ = some (.int .i64 B) := fun p => p.cell t3 n1 n2
    have r4 : ∀ p : P2 bm1 bm2 I w8, p.to.cell? ⟨w1.heap.size, 4, none⟩ = some (.int .i64 0) := fun p => p.cell t4 n1 n2
    have q0 : ∀ p : P2 bm1 bm2 I w8, p.to.cell? ⟨w4.heap.size, 0, none⟩ = some (.iface K (.agg #[])) := fun p => p.cell f0 n3 n4
    have q1 : ∀ p : P2 bm1 bm2 I w8, p.to.cell? ⟨w4.heap.size, 1, none⟩ = some (.func (.func 79) #[] #[.pointer (some ⟨pb1, 0, none⟩)]) := fun p => p.cell f1 n3 n4
    have q2 : ∀ p : P2 bm1 bm2 I w8, p.to.cell? ⟨w4.heap.size, 2, none⟩ = some (.map (some bm1)) := fun p => p.cell f2 n3 n4
    have s0 : ∀ p : P2 bm1 bm2 I w8, p.to.cell? ⟨w7.heap.size, 0, none⟩ = some (.iface K (.agg #[])) := fun p => p.cell u0 n5 n6
    have s1 : ∀ p : P2 bm1 bm2 I w8, p.to.cell? ⟨w7.heap.size, 1, none⟩ = some (.func (.func 79) #[] #[.pointer (some ⟨pb2, 0, none⟩)]) := fun p => p.cell u1 n5 n6
    have s2 : ∀ p : P2 bm1 bm2 I w8, p.to.cell? ⟨w7.heap.size, 2, none⟩ = some (.map (some bm2)) := fun p => p.cell u2 n5 n6
    clear hw8 hB8' hT8 hS8 hU8 t0 t1 t2 t3 t4 f0 f1 f2 u0 u1 u2 hI HI2 hs34 hs2 hs3 hs5 hs6 hpb1 hpb2
    go_wp2_with fail
    refine wp_region_p2 bm1 bm2 I HIK.out (by kernel_rfl) (by kernel_rfl) ?_
    repeat (first | go_big_quiet_step (first | (go_at_call 72; with_reducible exact HW1.out _) | (go_at_call 72; with_reducible exact HW2.out _)) | quiet_step (first | (go_at_call 72; with_reducible exact HW1.out _) | (go_at_call 72; with_reducible exact HW2.out _)))
    refine wpQuiet_nil ?_
    rintro _ ⟨pq, rfl⟩
    have HFIN := hide (But2.old hB8.out pq.old e1 e2)
    clear r0 r1 r2 r3 r4 q0 q1 q2 s0 s1 s2
    go_wp2_with fail
    go_ret3
    exact ⟨rfl, HFIN.out⟩
  · obtain ⟨c, hcc⟩ : ∃ c, c = codeP n L R B game 0 := ⟨_, rfl⟩
    have HR : Hid (leftR n L R B game = .tuple #[.int .i64 0, .int .i64 0, .int .i64 c]) := hide (by unfold leftR; rw [if_neg hc, hcc])
    rw [HR.out]
    rw [← hcc] at hc
    have HC := hide hcc.symm
    have HN := hide hc
    have hd : (c != 0) = true := by simp [hc]
    clear hcc hc
    go_enter Try.func36, Try.ntmps36
    go_wp2_with fail
    refine (rulesFor_bad HC.out HN.out _).mono ?_
    rintro e w1 ⟨rfl, hb1⟩
    (try clear X0 X1 X2 X3)
    have hX1 := hide (hX0.out.keep hb1)
    obtain ⟨X0, X1, X2, X3⟩ := hX1.out
    have hB1 := hide (Below.trans' hB0.out hb1)
    clear hb1
    go_wp2_with fail
    go_ret3
    exact ⟨rfl, hB1.out⟩
end Go.Proofs.Ytdimmlpnfghndaa
