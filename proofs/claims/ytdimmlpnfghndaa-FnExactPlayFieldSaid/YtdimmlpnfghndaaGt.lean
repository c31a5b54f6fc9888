/-
  Col and snort: what stands between two moves of a play; PlayField, the model's text.
-/
import Derived.Test.YtdimmlpnfghndaaGr
import Derived.Test.YtdimmlpnfghndaaGs
namespace Go.Proofs.Ytdimmlpnfghndaa
open Go.RowKit Go.Maps
set_option linter.unusedVariables false

/-- All below B is as it was, but for blocks n and m. -/
structure Two (B n m : Nat) (w w' : World) : Prop where
  os : w'.os = w.os
  tape : w'.tape = w.tape
  output : w'.output = w.output
  size : w.heap.size ≤ w'.heap.size
  block : ∀ k, k < B → k ≠ n → k ≠ m → w'.heap[k]? = w.heap[k]?
theorem Two.refl (B n m : Nat) (w : World) : Two B n m w w := ⟨rfl, rfl, rfl, Nat.le_refl _, fun _ _ _ _ => rfl⟩
theorem Two.trans {B n m : Nat} {a b c : World} (h : Two B n m a b) (k : Two B n m b c) : Two B n m a c :=
  ⟨k.os.trans h.os, k.tape.trans h.tape, k.output.trans h.output, Nat.le_trans h.size k.size, fun i hi hn hm => (k.block i hi hn hm).trans (h.block i hi hn hm)⟩
theorem Two.of_below {B n m : Nat} {a b : World} (h : Below B a b) : Two B n m a b := ⟨h.os, h.tape, h.output, h.size, fun k hk _ _ => h.block k hk⟩
theorem Two.of_but1 {B n m : Nat} {a b : World} (h : But n a b) (hB : B ≤ a.heap.size) : Two B n m a b := ⟨h.os, h.tape, h.output, h.size, fun k hk hn _ => h.block k (by omega) hn⟩
theorem Two.of_but2 {B n m : Nat} {a b : World} (h : But m a b) (hB : B ≤ a.heap.size) : Two B n m a b := ⟨h.os, h.tape, h.output, h.size, fun k hk _ hm => h.block k (by omega) hm⟩
theorem Two.old {B n m : Nat} {W a b : World} (h : Below W.heap.size W a) (k : Two B n m a b) (hB : W.heap.size ≤ B) (hn : W.heap.size ≤ n) (hm : W.heap.size ≤ m) : Below W.heap.size W b :=
  ⟨k.os.trans h.os, k.tape.trans h.tape, k.output.trans h.output, Nat.le_trans h.size k.size, fun i hi => (k.block i (by omega) (by omega) (by omega)).trans (h.block i hi)⟩
theorem Two.row {B n m : Nat} {a b : World} {k : Nat} {o : Obj} (h : Two B n m a b) (hc : a.heap[k]? = some o) (hk : k < B) (hn : k ≠ n) (hm : k ≠ m) : b.heap[k]? = some o := (h.block k hk hn hm).trans hc
theorem Two.cell {B n m : Nat} {a b : World} (h : Two B n m a b) {p : Addr} {v : Value} (hc : a.cell? p = some v) (hk : p.block < B) (hn : p.block ≠ n) (hm : p.block ≠ m) : b.cell? p = some v :=
  (World.cell?_of_block (h.block _ hk hn hm)).trans hc
theorem But.grows {n : Nat} {a b : World} (h : But n a b) : a.grownBy b (some n) := ⟨h.os, h.tape, h.output, h.size, fun k hk hne => h.block k hk (fun e => hne (by rw [e]))⟩
theorem own_not {w : World} {B : Nat} {v : Value} {n : Nat} {xs : List Value} (h : w.ownsRow B 2 1 v n xs) {k : Nat} (hk : k < B) : v.ownBlock ≠ some k := by
  rcases h.2 with ⟨hv, _⟩ | ⟨g', cap, cur, hv, hg, _⟩
  · rw [hv]; simp [Value.ownBlock]
  · rw [hv]; simp [Value.ownBlock]; omega

/-- What stands between two moves of a play: the box that holds the field, the points played, what is known. -/
structure TurnF (o : Obj) (I : World → Prop) (W3 : World) (bx bK B : Nat) (PL : List Int) (v : Value) (wr : World) : Prop where
  box : wr.heap[bx]? = some o
  own : wr.ownsRow B 2 1 v PL.length (PL.map intV)
  kn : I wr
  old : Two B bx bK W3 wr
  size : B ≤ wr.heap.size
variable {o : Obj} {I : World → Prop} {W3 : World} {bx bK B : Nat} {PL : List Int} {v : Value} {wr : World}
theorem TurnF.below (h : TurnF o I W3 bx bK B PL v wr) (hI : ∀ a b : World, I a → Below a.heap.size a b → I b) {w' : World} (hb : Below wr.heap.size wr w') : TurnF o I W3 bx bK B PL v w' :=
  ⟨box_keep h.box hb, ownsRow_keep h.own hb, hI _ _ h.kn hb, h.old.trans (Two.of_below (hb.mono h.size)), Nat.le_trans h.size hb.size⟩
theorem TurnF.but (h : TurnF o I W3 bx bK B PL v wr) {w' : World} (hb : But bK wr w') (hI : I w') (hx : bx ≠ bK) (hK : bK < B) : TurnF o I W3 bx bK B PL v w' :=
  ⟨hb.row h.box hx, h.own.kept hb.grows (.inr (own_not h.own hK)), hI, h.old.trans (Two.of_but2 hb h.size), Nat.le_trans h.size hb.size⟩
theorem TurnF.push (h : TurnF o I W3 bx bK B PL v wr) (hIt : ∀ a b : World, I a → b.heap[bK]? = a.heap[bK]? → I b) (hx : bx < B) (hK : bK < B) {e : Int} {v' : Value} {w' : World}
    (hown : w'.ownsRow B 2 1 v' (PL.length + 1) (PL.map intV ++ [.int .i64 e])) (hg : (wr.alloc (.cells #[.int .i64 e] 2)).grownBy w' v.ownBlock) : TurnF o I W3 bx bK B (PL ++ [e]) v' w' := by
  have hsz : (wr.alloc (.cells #[.int .i64 e] 2)).heap.size = wr.heap.size + 1 := by simp
  have hs := h.size
  have hblk : ∀ k, k < B → w'.heap[k]? = wr.heap[k]? := fun k hk => (hg.block k (by rw [hsz]; omega) (fun e2 => own_not h.own hk e2.symm)).trans (Below.heap_alloc _ _ _ (by omega))
  refine ⟨(hblk bx hx).trans h.box, by simpa [intV] using hown, hIt _ _ h.kn (hblk bK hK), h.old.trans ⟨?_, ?_, ?_, ?_, fun k hk _ _ => hblk k hk⟩, ?_⟩
  · exact hg.os
  · exact hg.tape
  · exact hg.output
  · have := hg.size; rw [hsz] at this; omega
  · have := hg.size; rw [hsz] at this; omega
theorem TurnF.store (h : TurnF o I W3 bx bK B PL v wr) (hIt : ∀ a b : World, I a → b.heap[bK]? = a.heap[bK]? → I b) (hx : bx < B) (hK : bK < B) (hxK : bx ≠ bK) {o' : Obj} {w' : World} (hb : w'.heap[bx]? = some o') (hbut : But bx wr w') : TurnF o' I W3 bx bK B PL v w' :=
  ⟨hb, h.own.kept hbut.grows (.inr (own_not h.own hx)), hIt _ _ h.kn (hbut.block bK (by have := h.size; omega) (fun e => hxK e.symm)), h.old.trans (Two.of_but1 hbut h.size), Nat.le_trans h.size hbut.size⟩
theorem but_set4 {bx : Nat} {a w : World} (h : But bx a w) (y0 y1 y2 y3 : Value) : But bx a ((((w.setCell ⟨bx, 0, none⟩ y0).setCell ⟨bx, 1, none⟩ y1).setCell ⟨bx, 2, none⟩ y2).setCell ⟨bx, 3, none⟩ y3) := (((h.set 0 y0).set 1 y1).set 2 y2).set 3 y3

/-- The points played and the code. -/
def plR (n L R B game pl : Int) : List Int × Int := if codeP n L R B game pl = 0 then (play n L R B game pl, 0) else ([], codeP n L R B game pl)
theorem plR_le (n L R B game pl : Int) : (plR n L R B game pl).1.length ≤ 1048576 := by
  unfold plR
  split
  · rename_i h
    have h1 := (okF_nums (codeP_zero h).1).2.1
    have h2 := play_le n L R B game pl h1
    show (play n L R B game pl).length ≤ _
    omega
  · simp
theorem next_best {n L R B game pl i : Int} {r : List Int} (h : best n L R B game pl = i :: r) : next n L R B game pl = i :: r := by
  unfold next
  rw [h, if_neg (by simp)]
theorem next_pts_of {n L R B game pl : Int} (h : best n L R B game pl = []) : next n L R B game pl = pts n L R B game pl := by
  unfold next
  rw [if_pos h]

set_option maxRecDepth 100000 in
set_option maxHeartbeats 8000000 in
theorem specPlay_any (n L R0 B0 game p0 : Int) (W : World) : Calls Try.prog 33 #[.agg #[.int .i64 n, .int .i64 L, .int .i64 R0, .int .i64 B0], .int .i64 game, .int .i64 p0] W (NewList (plR n L R0 B0 game p0) W) := by
  obtain ⟨i0, hi0, hz0, hz1, hz2⟩ := info_parts Try.info2
  have hB0 := hide (below_alloc W (.cells #[.int .i64 n, .int .i64 L, .int .i64 R0, .int .i64 B0] 25))
  have hR0 : Hid ((W.alloc (.cells #[.int .i64 n, .int .i64 L, .int .i64 R0, .int .i64 B0] 25)).heap[W.heap.size]? = some (.cells #[.int .i64 n, .int .i64 L, .int .i64 R0, .int .i64 B0] 25 (0, 0))) := hide (alloc_row _ _ _)
  obtain ⟨X0, X1, X2, X3⟩ := fieldIn_of_row hR0.out
  by_cases hc : codeP n L R0 B0 game p0 = 0
  · have HC := hide hc
    obtain ⟨PR, hPR⟩ : ∃ zs, zs = play n L R0 B0 game p0 := ⟨_, rfl⟩
    have HR : Hid (plR n L R0 B0 game p0 = (PR, 0)) := hide (by unfold plR; rw [if_pos hc, hPR])
    have HPR := hide hPR
    obtain ⟨g1, g2, g3, g4⟩ := codeP_zero hc
    have HOK : Hid (okT n L R0 B0 p0) := hide ⟨g1, by omega, by omega⟩
    have hn8 := (okF_nums g1).2.1
    have hn0 := (okF_nums g1).1
    obtain ⟨I, hI⟩ : ∃ I : Nat → World → Prop, I = fun b => KnT (valW n L game) n L b := ⟨_, rfl⟩
    have HIB : Hid (∀ (k : Nat) (a b : World), I k a → Below a.heap.size a b → I k b) := hide (fun k a b h h2 => by rw [hI] at h ⊢; exact KnT.keep h h2)
    have HIT : Hid (∀ (k : Nat) (a b : World), I k a → b.heap[k]? = a.heap[k]? → I k b) := hide (fun k a b h h2 => by rw [hI] at h ⊢; exact KnT.turn h h2)
    have HIL : Hid (∀ (k : Nat) (a : World), I k a → k < a.heap.size) := hide (fun k a h => by rw [hI] at h; exact KnT.lt h)
    have HV0 : Hid (∀ (bK M : Nat) (R B pl : Int) (V : World), okT n L R B pl → (M : Int) = 2 * pow3 n.toNat → I bK V → Calls Try.prog 64 #[.agg #[.int .i64 n, .int .i64 L, .int .i64 R, .int .i64 B], .int .i64 game, .int .i64 pl, .slice (some ⟨bK, 0, none⟩) M M] V (NewLM bK (I bK) (best n L R B game pl) V)) := hide (fun bK M R B pl V hok hM hk => by rw [hI] at hk ⊢; exact specBest_any n L game bK M hM R B pl hok V hk)
    have HPT : Hid (∀ (R B pl : Int) (V : World), okT n L R B pl → Calls Try.prog 52 #[.agg #[.int .i64 n, .int .i64 L, .int .i64 R, .int .i64 B], .int .i64 game, .int .i64 pl] V (NewL (pts n L R B game pl) V)) := hide (fun R B pl V hok => specPoints_any n L R B game pl hok.1 V)
    have HTB : Hid (∀ V : World, Calls Try.prog 59 #[.agg #[.int .i64 n, .int .i64 L, .int .i64 R0, .int .i64 B0]] V fun e W' => ∃ (b M : Nat), e = .returned (.slice (some ⟨b, 0, none⟩) M M) ∧ (M : Int) = 2 * pow3 n.toNat ∧ V.heap.size ≤ b ∧ I b W' ∧ Below V.heap.size V W') := hide (fun V => (table_any n L R0 B0 ⟨by omega, hn8⟩ V).mono (fun e w' ⟨b, M, h1, h2, h3, h4, h5⟩ => ⟨b, M, h1, h2, h3, by rw [hI]; exact h4 _, h5⟩))
    rw [HR.out]
    clear hc hPR g1 g2 g3 g4 hI
    go_enter Try.func33, Try.ntmps33
    go_wp2_with fail
    refine (specPlayer_is HC.out _).mono ?_
    rintro e w1 ⟨rfl, hb1⟩
    have hB1 := hide (Below.trans' hB0.out hb1)
    have hR1 := hide (box_keep hR0.out hb1)
    have hl1 := (Array.getElem?_eq_some_iff.1 hR1.out).1
    clear hb1 X0 X1 X2 X3
    obtain ⟨X0, X1, X2, X3⟩ := fieldIn_of_row hR1.out
    go_wp2_with fail
    refine (HTB.out _).mono ?_
    rintro e w2 ⟨bK, M, rfl, hM, hbK, hkt, hb2⟩
    have HM := hide hM
    have HK2 := hide hkt
    have hB2 := hide (Below.trans' hB1.out hb2)
    have hR2 := hide (box_keep hR1.out hb2)
    have hk2 := HIL.out _ _ hkt
    have hs2 := hb2.size
    obtain ⟨bx, hbx⟩ : ∃ b, b = W.heap.size := ⟨_, rfl⟩
    rw [← hbx] at hR2 hR1 X0 X1 X2 X3 hl1 ⊢
    have HBX := hide hbx
    obtain ⟨Z, hZ⟩ : ∃ Z, Z = w2.heap.size := ⟨_, rfl⟩
    rw [← hZ] at hk2 hs2
    have HZ := hide hZ
    obtain ⟨w3, hw3⟩ : ∃ w3, w3 = w2.alloc (.cells #[] 2) := ⟨_, rfl⟩
    have hb3 : Below w2.heap.size w2 w3 := by rw [hw3]; exact below_alloc _ _
    have hO3 : w3.ownsRow Z 2 1 (.slice (some ⟨w2.heap.size, 0, none⟩) 0 0) 0 [] := by
      rw [hw3, hZ]
      exact ⟨rfl, .inr ⟨w2.heap.size, 0, #[], rfl, Nat.le_refl _, heap_alloc_new w2 _, Nat.le_refl _, by unfold maxLen; omega, rfl, rfl⟩⟩
    have HT3 : Hid (TurnF (.cells #[.int .i64 n, .int .i64 L, .int .i64 R0, .int .i64 B0] 25 (0, 0)) (I bK) w3 bx bK Z [] (.slice (some ⟨w2.heap.size, 0, none⟩) 0 0) w3) := hide ⟨box_keep hR2.out hb3, by simpa using hO3, HIB.out _ _ _ HK2.out hb3, Two.refl _ _ _ _, by rw [hZ]; exact hb3.size⟩
    have hB3 := hide (Below.trans' hB2.out hb3)
    have hWB : W.heap.size ≤ Z := by rw [hZ]; exact hB2.out.size
    have hxZ : bx < Z := by omega
    have hxK : bx ≠ bK := by omega
    have hWK : W.heap.size ≤ bK := by omega
    have HWX : Hid (W.heap.size ≤ bx) := hide (by rw [hbx]; exact Nat.le_refl _)
    have HWB := hide hWB
    have HWK := hide hWK
    clear hM hkt hb2 hbx hZ hb3 hO3 hWB hWK X0 X1 X2 X3
    obtain ⟨X0, X1, X2, X3⟩ := fieldIn_of_row HT3.out.box
    go_wp2_with fail
    rw [← hw3]
    clear hw3
    (try go_wp2_with fail)
    obtain ⟨g0, hg0⟩ : ∃ g, g = freeN n R0 B0 := ⟨_, rfl⟩
    have HG0 := hide hg0
    clear hg0
    go_loopg [2, 10] g0 (fun g v2 v10 wr => ∃ (PL : List Int) (R B pl : Int) (v0 : Value), v0 = v10 ∧ v2 = .int .i64 pl ∧ okT n L R B pl ∧ freeN n R B = g ∧ PL ++ play n L R B game pl = PR ∧ TurnF (.cells #[.int .i64 n, .int .i64 L, .int .i64 R, .int .i64 B] 25 (0, 0)) (I bK) w3 bx bK Z PL v10 wr)
    case atStart => exact ⟨[], R0, B0, p0, _, rfl, rfl, HOK.out, HG0.out.symm, by rw [HPR.out]; rfl, HT3.out⟩
    case round =>
      clear HT3 X0 X1 X2 X3
      obtain ⟨PL, R, B, pl, v, rfl, rfl, hok, hfr, hpl, hT⟩ := hrel
      have HOT := hide hok
      have HPL := hide hpl
      have HFR := hide hfr
      have HT := hide hT
      obtain ⟨X0, X1, X2, X3⟩ := fieldIn_of_row hT.box
      obtain ⟨pl0, pl1⟩ := hok.2
      have hPL8 : PL.length ≤ 8 := by
        have h1 := congrArg List.length hpl
        have h2 := play_le n L R0 B0 game p0 hn8
        rw [← HPR.out, List.length_append] at *
        omega
      clear hok hfr hpl hT
      go_wp2_with fail
      refine (HV0.out _ _ _ _ _ _ HOT.out HM.out HT.out.kn).mono ?_
      cases hbe : best n L R B game pl with
      | nil =>
        rintro e w5 ⟨⟨a5, c5, rfl, ho5, hb5⟩, hk5⟩
        have HT5 := hide (HT.out.but hb5 hk5 hxK hk2)
        have HBE := hide hbe
        clear ho5 hb5 hk5 hbe X0 X1 X2 X3
        obtain ⟨X0, X1, X2, X3⟩ := fieldIn_of_row HT5.out.box
        go_wp2_with fail
        refine (HPT.out _ _ _ _ HOT.out).mono ?_
        cases hpt : pts n L R B game pl with
        | nil =>
          rintro e w6 ⟨a6, c6, rfl, ho6, hb6⟩
          have hT6 := HT5.out.below (HIB.out bK) hb6
          have hpe : Hid (PL = PR) := hide (by
            rw [← HPL.out, play_none (by rw [next_pts_of HBE.out, hpt])]
            simp)
          obtain ⟨av, cv, rfl⟩ := own_form hT6.own
          have HFIN : Hid (NewList (PL, 0) W (.returned (.tuple #[.slice av PL.length cv, .int .i64 0])) w6) := hide ⟨av, cv, rfl, ownsRow_base hT6.own HWB.out, Two.old hB3.out hT6.old HWB.out HWX.out HWK.out⟩
          clear hT6 ho6 hb6 hpt X0 X1 X2 X3
          go_wp2_with fail
          go_ret2
          rw [← hpe.out]
          exact HFIN.out
        | cons i rl =>
          rintro e w6 ⟨a6, c6, rfl, ho6, hb6⟩
          have HT6 := hide (HT5.out.below (HIB.out bK) hb6)
          have hnx : next n L R B game pl = i :: rl := by rw [next_pts_of HBE.out, hpt]
          clear X0 X1 X2 X3 hpt
          have hmem : i ∈ pts n L R B game pl := next_pts (by rw [hnx]; simp)
          obtain ⟨z0, z1, z2, z3⟩ := pts_mem hmem
          obtain ⟨h1, _, h3⟩ := move_of_pts HOT.out.1 hmem
          obtain ⟨g', hg'⟩ : ∃ g', gk = g' + 1 := ⟨freeN n (mvR R pl i) (mvB B pl i), by have := HFR.out; omega⟩
          subst hg'
          have hpl2 : (PL ++ [i]) ++ play n L (mvR R pl i) (mvB B pl i) game (1 - pl) = PR := by
            rw [← HPL.out, play_some HOT.out.1 hnx]
            simp
          obtain ⟨bl, off, i', rfl, hci, hi'⟩ := (intsAt_of_ownsRow ho6).one (k := 0) (by simp)
          obtain rfl : i' = i := by have := hi'.out; simp at this; exact this.symm
          have hci' : w6.cell? ⟨bl, off, none⟩ = some (.int .i64 i') := by simpa using hci
          have hfar := ho6.1
          obtain ⟨_, _, _, _, r0, r1, b0, b1⟩ := okF_nums HOT.out.1
          obtain ⟨r, hr⟩ : ∃ r, r = mvR R pl i' := ⟨_, rfl⟩
          obtain ⟨bb, hbb⟩ : ∃ bb, bb = mvB B pl i' := ⟨_, rfl⟩
          have HMV : Hid (∀ V : World, Calls Try.prog 55 #[.agg #[.int .i64 n, .int .i64 L, .int .i64 R, .int .i64 B], .int .i64 pl, .int .i64 i'] V (RetB (.agg #[.int .i64 n, .int .i64 L, .int .i64 r, .int .i64 bb]) V)) := hide (fun V => by rw [hr, hbb]; exact specMove_any n L R B pl i' r0 r1 b0 b1 z0 (by omega) V)
          rw [← hr, ← hbb] at h1 h3 hpl2
          have HOT2 : Hid (okT n L r bb (1 - pl)) := hide ⟨h1, by omega, by omega⟩
          have HFR2 : Hid (freeN n r bb = g') := hide (by have := HFR.out; omega)
          have HPL2 := hide hpl2
          have hown6 := HT6.out.own
          have hsz6 := HT6.out.size
          have hrl : (0 : Int) < ((i' :: rl).length : Int) := by simp
          obtain ⟨nb, hnb⟩ : ∃ nb, nb = (i' :: rl).length := ⟨_, rfl⟩
          have hbl6 : bl < w6.heap.size := World.block_lt_of_cell? w6 _ hci'
          have hblv : v.ownBlock ≠ some bl := by
            rcases ho6.2 with ⟨hv, _⟩ | ⟨gg, cap, cur, hv, hgg, hh, _⟩
            · simp at hv
            · simp only [Value.slice.injEq, Option.some.injEq, Addr.mk.injEq] at hv
              have hgb : gg = bl := hv.1.1.symm
              have hlt := HT5.out.own.lt bl
              intro hx
              have := hlt hx
              omega
          rw [← hnb] at hrl ⊢
          clear hnb hmem h1 h3 hnx hi' hr hbb hpl2 ho6 hb6 hci r0 r1 b0 b1
          obtain ⟨X0, X1, X2, X3⟩ := fieldIn_of_row HT6.out.box
          go_wp2_with (at_builtin; refine wpList_append_own _ rfl _ _ 33 rfl (Z) 2 i0 (.int .i64 0) 1 8 Try.underlying33 hi0 hz0 hz1 hz2 rfl (by decide) _ _ _ rfl (hown6.alloc _) ⟨w6.heap.size, 0, none⟩ 1 1 [.int .i64 i'] rfl rfl (cell_one_new _ _ _) (by simp [Value.oneCell']) (by unfold maxLen; omega) (by omega) (by simp; omega) ?_)
          intro v' w7 hown' hgrow _
          have hT7 := HT6.out.push (HIT.out bK) hxZ hk2 (by simpa using hown') hgrow
          have hci7 : w7.cell? ⟨bl, off, none⟩ = some (.int .i64 i') := (World.cell?_of_block (hgrow.block bl (by simp; omega) (fun e => hblv e.symm))).trans (cell_keep (below_alloc w6 _) hci')
          have HT7 := hide hT7
          obtain ⟨X0', X1', X2', X3'⟩ := (fieldIn_of_row hT7.box).past
          have hci8 : ∀ p : Past w7, p.to.cell? ⟨bl, off, none⟩ = some (.int .i64 i') := fun p => p.cell hci7
          clear hown' hgrow hown6 hT7 X0 X1 X2 X3 hci' hci7
          go_wp2_with fail
          refine wp_region_past_tail 6 (by kernel_rfl) (by kernel_rfl) ?_
          simp only [List.take_succ_cons, List.take_zero, List.drop_succ_cons, List.drop_zero]
          repeat (first | go_big_quiet_step ((go_at_call 55; with_reducible exact ret_past (HMV.out _))) | quiet_step ((go_at_call 55; with_reducible exact ret_past (HMV.out _))))
          refine wpQuiet_nil ?_
          rintro _ ⟨pq, rfl⟩
          have hT8 := HT7.out.below (HIB.out bK) pq.old
          obtain ⟨X0, X1, X2, X3, f0, f1, f2, f3⟩ := row4 hT8.box
          have HT9 := hide (hT8.store (HIT.out bK) hxZ hk2 hxK (box_set4 (.int .i64 n) (.int .i64 L) (.int .i64 r) (.int .i64 bb) hT8.box) (but_set4 (But.refl _ _) _ _ _ _))
          clear hT8 X0' X1' X2' X3' hci8
          go_wp2_with fail
          go_roundg g'
          case rel => exact ⟨PL ++ [i'], r, bb, 1 - pl, _, rfl, rfl, HOT2.out, HFR2.out, HPL2.out, HT9.out⟩
          case measure => omega
      | cons i rl =>
        rintro e w6 ⟨⟨a6, c6, rfl, ho6, hb5⟩, hk5⟩
        have HT6 := hide (HT.out.but hb5 hk5 hxK hk2)
        have hnx : next n L R B game pl = i :: rl := next_best hbe
        clear X0 X1 X2 X3 hbe hk5
        have hb6 := hb5
        have hmem : i ∈ pts n L R B game pl := next_pts (by rw [hnx]; simp)
        obtain ⟨z0, z1, z2, z3⟩ := pts_mem hmem
        obtain ⟨h1, _, h3⟩ := move_of_pts HOT.out.1 hmem
        obtain ⟨g', hg'⟩ : ∃ g', gk = g' + 1 := ⟨freeN n (mvR R pl i) (mvB B pl i), by have := HFR.out; omega⟩
        subst hg'
        have hpl2 : (PL ++ [i]) ++ play n L (mvR R pl i) (mvB B pl i) game (1 - pl) = PR := by
          rw [← HPL.out, play_some HOT.out.1 hnx]
          simp
        obtain ⟨bl, off, i', rfl, hci, hi'⟩ := (intsAt_of_ownsRow ho6).one (k := 0) (by simp)
        obtain rfl : i' = i := by have := hi'.out; simp at this; exact this.symm
        have hci' : w6.cell? ⟨bl, off, none⟩ = some (.int .i64 i') := by simpa using hci
        have hfar := ho6.1
        obtain ⟨_, _, _, _, r0, r1, b0, b1⟩ := okF_nums HOT.out.1
        obtain ⟨r, hr⟩ : ∃ r, r = mvR R pl i' := ⟨_, rfl⟩
        obtain ⟨bb, hbb⟩ : ∃ bb, bb = mvB B pl i' := ⟨_, rfl⟩
        have HMV : Hid (∀ V : World, Calls Try.prog 55 #[.agg #[.int .i64 n, .int .i64 L, .int .i64 R, .int .i64 B], .int .i64 pl, .int .i64 i'] V (RetB (.agg #[.int .i64 n, .int .i64 L, .int .i64 r, .int .i64 bb]) V)) := hide (fun V => by rw [hr, hbb]; exact specMove_any n L R B pl i' r0 r1 b0 b1 z0 (by omega) V)
        rw [← hr, ← hbb] at h1 h3 hpl2
        have HOT2 : Hid (okT n L r bb (1 - pl)) := hide ⟨h1, by omega, by omega⟩
        have HFR2 : Hid (freeN n r bb = g') := hide (by have := HFR.out; omega)
        have HPL2 := hide hpl2
        have hown6 := HT6.out.own
        have hsz6 := HT6.out.size
        have hrl : (0 : Int) < ((i' :: rl).length : Int) := by simp
        obtain ⟨nb, hnb⟩ : ∃ nb, nb = (i' :: rl).length := ⟨_, rfl⟩
        have hbl6 : bl < w6.heap.size := World.block_lt_of_cell? w6 _ hci'
        have hblv : v.ownBlock ≠ some bl := by
          rcases ho6.2 with ⟨hv, _⟩ | ⟨gg, cap, cur, hv, hgg, hh, _⟩
          · simp at hv
          · simp only [Value.slice.injEq, Option.some.injEq, Addr.mk.injEq] at hv
            have hgb : gg = bl := hv.1.1.symm
            have hlt := HT.out.own.lt bl
            intro hx
            have := hlt hx
            omega
        rw [← hnb] at hrl ⊢
        clear hnb hmem h1 h3 hnx hi' hr hbb hpl2 ho6 hb6 hci r0 r1 b0 b1
        obtain ⟨X0, X1, X2, X3⟩ := fieldIn_of_row HT6.out.box
        go_wp2_with (at_builtin; refine wpList_append_own _ rfl _ _ 33 rfl (Z) 2 i0 (.int .i64 0) 1 8 Try.underlying33 hi0 hz0 hz1 hz2 rfl (by decide) _ _ _ rfl (hown6.alloc _) ⟨w6.heap.size, 0, none⟩ 1 1 [.int .i64 i'] rfl rfl (cell_one_new _ _ _) (by simp [Value.oneCell']) (by unfold maxLen; omega) (by omega) (by simp; omega) ?_)
        intro v' w7 hown' hgrow _
        have hT7 := HT6.out.push (HIT.out bK) hxZ hk2 (by simpa using hown') hgrow
        have hci7 : w7.cell? ⟨bl, off, none⟩ = some (.int .i64 i') := (World.cell?_of_block (hgrow.block bl (by simp; omega) (fun e => hblv e.symm))).trans (cell_keep (below_alloc w6 _) hci')
        have HT7 := hide hT7
        obtain ⟨X0', X1', X2', X3'⟩ := (fieldIn_of_row hT7.box).past
        have hci8 : ∀ p : Past w7, p.to.cell? ⟨bl, off, none⟩ = some (.int .i64 i') := fun p => p.cell hci7
        clear hown' hgrow hown6 hT7 X0 X1 X2 X3 hci' hci7
        go_wp2_with fail
        refine wp_region_past_tail 6 (by kernel_rfl) (by kernel_rfl) ?_
        simp only [List.take_succ_cons, List.take_zero, List.drop_succ_cons, List.drop_zero]
        repeat (first | go_big_quiet_step ((go_at_call 55; with_reducible exact ret_past (HMV.out _))) | quiet_step ((go_at_call 55; with_reducible exact ret_past (HMV.out _))))
        refine wpQuiet_nil ?_
        rintro _ ⟨pq, rfl⟩
        have hT8 := HT7.out.below (HIB.out bK) pq.old
        obtain ⟨X0, X1, X2, X3, f0, f1, f2, f3⟩ := row4 hT8.box
        have HT9 := hide (hT8.store (HIT.out bK) hxZ hk2 hxK (box_set4 (.int .i64 n) (.int .i64 L) (.int .i64 r) (.int .i64 bb) hT8.box) (but_set4 (But.refl _ _) _ _ _ _))
        clear hT8 X0' X1' X2' X3' hci8
        go_wp2_with fail
        go_roundg g'
        case rel => exact ⟨PL ++ [i'], r, bb, 1 - pl, _, rfl, rfl, HOT2.out, HFR2.out, HPL2.out, HT9.out⟩
        case measure => omega
  · have HR : Hid (plR n L R0 B0 game p0 = ([], codeP n L R0 B0 game p0)) := hide (by unfold plR; rw [if_neg hc])
    rw [HR.out]
    obtain ⟨c, hcc⟩ : ∃ c, c = codeP n L R0 B0 game p0 := ⟨_, rfl⟩
    rw [← hcc] at hc ⊢
    have HC := hide hcc.symm
    have HN := hide hc
    have hd : (c != 0) = true := by simp [hc]
    clear hcc hc
    go_enter Try.func33, Try.ntmps33
    go_wp2_with fail
    refine (specPlayer_is HC.out _).mono ?_
    rintro e w1 ⟨rfl, hb1⟩
    have hB1 := hide (Below.trans' hB0.out hb1)
    clear hb1
    go_wp2_with fail
    go_ret2
    exact newList_nil hB1.out
end Go.Proofs.Ytdimmlpnfghndaa
