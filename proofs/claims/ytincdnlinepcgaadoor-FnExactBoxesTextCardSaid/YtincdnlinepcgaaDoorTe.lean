/-
  Dots and boxes: BoxesText, the program's text.
-/
import Derived.Test.YtincdnlinepcgaaDoorTc
import Derived.Test.YtincdnlinepcgaaDoorSh
namespace Go.Proofs.YtincdnlinepcgaaDoor
open Go.RowKit
set_option linter.unusedVariables false

/-- A digit's letter; the letters of the edges; a position's text. -/
def dgt (n : Int) : UInt8 := UInt8.ofNat (48 + n.toNat)
def sgn (E : Int) (k : Nat) : UInt8 := if drawn E (k : Int) then 49 else 48
def sgns (E : Int) (k : Nat) : List UInt8 := (List.range k).map (sgn E)
def headL (w h : Int) : List UInt8 := [dgt w, 120, dgt h, 58]
def textL (w h E : Int) : List UInt8 := headL w h ++ sgns E (nEdge w h).toNat
theorem sgns_succ (E : Int) (k : Nat) : sgns E (k + 1) = sgns E k ++ [sgn E k] := by simp [sgns, List.range_succ]
theorem sgns_len (E : Int) (k : Nat) : (sgns E k).length = k := by simp [sgns]
/-- The answer. -/
def txtR (w h E : Int) : List UInt8 × Int := if okBox w h E = true then (textL w h E, 0) else ([], 1)
def txtV (r : List UInt8 × Int) : Value := .tuple #[.string ⟨r.1.toArray⟩, .int .i64 r.2]

theorem format_any (n : Int) (h1 : 1 ≤ n) (h2 : n ≤ 3) (W : World) : Calls Tryd.prog 15 #[.int .i64 n, .int .i64 10] W fun e W' => e = .returned (.string ⟨#[dgt n]⟩) ∧ W' = W := by
  rcases (by omega : n = 1 ∨ n = 2 ∨ n = 3) with rfl | rfl | rfl
  · exact (Tryd.strconv_FormatInt_10_small 1 (by decide) W).mono fun e W' h => ⟨h.1.trans (by simp [Lib.decDigits, dgt]), h.2⟩
  · exact (Tryd.strconv_FormatInt_10_small 2 (by decide) W).mono fun e W' h => ⟨h.1.trans (by simp [Lib.decDigits, dgt]), h.2⟩
  · exact (Tryd.strconv_FormatInt_10_small 3 (by decide) W).mono fun e W' h => ⟨h.1.trans (by simp [Lib.decDigits, dgt]), h.2⟩

/-- A builder of the call's own that holds the letters l, and what was below it is as it was. -/
structure BAt (B b : Nat) (W0 w : World) (l : List UInt8) : Prop where
  is : IsB B b (Lib.byteCells l) w
  old : Below B W0 w
  size : B ≤ w.heap.size
theorem BAt.byte {B b : Nat} {W0 w w' : World} {l : List UInt8} {c : Int} {u : UInt8} (h : BAt B b W0 w l) (hu : (u.toNat : Int) = c) (hi : IsB B b (Lib.byteCells l ++ [.int .u8 c]) w') (hb : Below B w w') : BAt B b W0 w' (l ++ [u]) :=
  ⟨by have : Lib.byteCells (l ++ [u]) = Lib.byteCells l ++ [.int .u8 c] := by simp [Lib.byteCells, ← hu]
      rw [IsB, this]; exact hi, h.old.trans hb, Nat.le_trans h.size hb.size⟩
theorem BAt.str {B b : Nat} {W0 w w' : World} {l : List UInt8} {u : UInt8} (h : BAt B b W0 w l) (hi : IsB B b (Lib.byteCells l ++ Lib.strCells ⟨#[u]⟩) w') (hb : Below B w w') : BAt B b W0 w' (l ++ [u]) :=
  ⟨by have : Lib.byteCells (l ++ [u]) = Lib.byteCells l ++ Lib.strCells ⟨#[u]⟩ := by simp [Lib.byteCells, Lib.strCells]
      rw [IsB, this]; exact hi, h.old.trans hb, Nat.le_trans h.size hb.size⟩
theorem BAt.keep {B b : Nat} {W0 w w' : World} {l : List UInt8} (h : BAt B b W0 w l) (hb : Below w.heap.size w w') : BAt B b W0 w' l := by
  refine ⟨?_, h.old.trans (hb.mono h.size), Nat.le_trans h.size hb.size⟩
  have hkeep : ∀ p : Value, Lib.BuilderAt 38 5 B b p (Lib.byteCells l) w → Lib.BuilderAt 38 5 B b p (Lib.byteCells l) w' := fun p hp => by
    obtain ⟨hB, v, hbk, hown, hne⟩ := hp
    exact ⟨hB, v, (hb.block _ (block_lt hbk)).trans hbk, ownsRow_keep hown hb, hne⟩
  rcases h.is with h1 | h1
  · exact .inl (hkeep _ h1)
  · exact .inr (hkeep _ h1)
theorem BoxIn.below' {W W' : World} {B b : Nat} {w h E : Int} (hx : BoxIn W b w h E) (hb : Below B W W') (hB : b < B) : BoxIn W' b w h E :=
  ⟨(hb.cell (p := ⟨b, 0, none⟩) hB).trans hx.1, (hb.cell (p := ⟨b, 1, none⟩) hB).trans hx.2.1, (hb.cell (p := ⟨b, 2, none⟩) hB).trans hx.2.2⟩
theorem byteCells_len (l : List UInt8) : (Lib.byteCells l).length = l.length := by simp [Lib.byteCells]

set_option maxRecDepth 100000 in
set_option maxHeartbeats 4000000 in
theorem implText_any (w h E : Int) (W : World) : Calls Tryd.prog 7 #[.agg #[.int .i64 w, .int .i64 h, .int .i64 E]] W (RetB (txtV (txtR w h E)) W) := by
  obtain ⟨r, hr⟩ : ∃ r, r = txtR w h E := ⟨_, rfl⟩
  rw [← hr]
  unfold txtR at hr
  obtain ⟨W0, hW0⟩ : ∃ W0, W0 = W.alloc (.cells #[.int .i64 w, .int .i64 h, .int .i64 E] 26) := ⟨_, rfl⟩
  have hB0 : Hid (Below W.heap.size W W0) := by rw [hW0]; exact hide (below_alloc _ _)
  have hX0 : Hid (BoxIn W0 W.heap.size w h E) := by rw [hW0]; exact hide (boxIn_new _ _ _ _ _)
  have hs0 : Hid (W.heap.size < W0.heap.size) := by rw [hW0]; exact hide (by simp)
  obtain ⟨c0, c1, c2⟩ := hX0.out
  cases hb : okBox w h E
  · have HR : Hid (r = ([], 1)) := hide (by rw [hr, hb]; rfl)
    have HB := hide hb
    clear hb hr
    go_enter Tryd.func7, Tryd.ntmps7
    go_wp2_with fail
    rw [← hW0]
    clear hW0
    go_wp2_with fail
    refine (implIs_any w h E _).mono ?_
    rw [HB.out]
    rintro e w1 ⟨rfl, hb1⟩
    have hB1 := hide (Below.trans' hB0.out hb1)
    clear hb1
    go_wp2_with fail
    go_ret2
    exact ⟨by rw [HR.out]; rfl, hB1.out⟩
  · have HR : Hid (r = (textL w h E, 0)) := hide (by rw [hr, hb]; rfl)
    have HB := hide hb
    obtain ⟨h1, h2, h3, h4, _, _⟩ := okBox_parts hb
    obtain ⟨E1, E2⟩ := okBox_E hb
    have hg := grid_nums h1 h2 h3 h4
    obtain ⟨n, hn⟩ : ∃ n : Nat, nEdge w h = (n : Int) := ⟨(nEdge w h).toNat, by omega⟩
    have hn24 : n ≤ 24 := by omega
    have HN := hide hn
    clear hb hr hg hn
    go_enter Tryd.func7, Tryd.ntmps7
    go_wp2_with fail
    rw [← hW0]
    clear hW0
    go_wp2_with fail
    refine (implIs_any w h E _).mono ?_
    rw [HB.out]
    rintro e w1 ⟨rfl, hb1⟩
    have hB1 := hide (Below.trans' hB0.out hb1)
    have hX1 := hide (hX0.out.keep hb1)
    have hs1 := hide (Nat.lt_of_lt_of_le hs0.out hb1.size)
    clear hb1 c0 c1 c2
    obtain ⟨B, hBe⟩ : ∃ B, B = w1.heap.size := ⟨_, rfl⟩
    obtain ⟨W2, hW2⟩ : ∃ W2, W2 = w1.alloc (.cells #[.pointer none, .slice none 0 0] 38) := ⟨_, rfl⟩
    have hA2 : Hid (BAt B B w1 W2 []) := by rw [hW2, hBe]; exact hide ⟨Lib.fresh_isBuilder _ _ w1, below_alloc _ _, by simp⟩
    have hBB : Hid (w1.heap.size ≤ B) := by rw [hBe]; exact hide (Nat.le_refl _)
    have hlB : Hid (W.heap.size < B) := by rw [hBe]; exact hs1
    have hX2 : Hid (BoxIn W2 W.heap.size w h E) := by rw [hW2]; exact hide (hX1.out.keep (below_alloc _ _))
    obtain ⟨c0, c1, c2⟩ := hX1.out.keep (below_alloc w1 (.cells #[.pointer none, .slice none 0 0] 38))
    go_wp2_with fail
    rw [← hW2, ← hBe]
    refine (format_any w h1 h2 _).mono ?_
    rintro e W' ⟨rfl, rfl⟩
    clear hW2 hBe c0 c1 c2
    go_wp2_with fail
    refine (writeString_any B B _ ⟨#[dgt w]⟩ _ hA2.out.is (by simp [Lib.byteCells]) (Nat.le_of_lt (show 1 < 1048576 by decide)) hA2.out.size).mono ?_
    rintro e w3 ⟨rfl, hi3, hb3⟩
    have hA3 := hide (hA2.out.str hi3 hb3)
    clear hi3 hb3
    go_wp2_with fail
    refine (writeByte_any B B _ 120 _ hA3.out.is (by simp [Lib.byteCells]) hA3.out.size).mono ?_
    rintro e w4 ⟨rfl, hi4, hb4⟩
    have hA4 := hide (hA3.out.byte (u := 120) rfl hi4 hb4)
    clear hi4 hb4
    have hX4 := hX1.out.below' hA4.out.old hlB.out
    obtain ⟨c0, c1, c2⟩ := hX4
    go_wp2_with fail
    refine (format_any h h3 h4 _).mono ?_
    rintro e W' ⟨rfl, rfl⟩
    clear c0 c1 c2
    go_wp2_with fail
    refine (writeString_any B B _ ⟨#[dgt h]⟩ _ hA4.out.is (by simp [Lib.byteCells]) (Nat.le_of_lt (show 1 < 1048576 by decide)) hA4.out.size).mono ?_
    rintro e w5 ⟨rfl, hi5, hb5⟩
    have hA5 := hide (hA4.out.str hi5 hb5)
    clear hi5 hb5
    go_wp2_with fail
    refine (writeByte_any B B _ 58 _ hA5.out.is (by simp [Lib.byteCells]) hA5.out.size).mono ?_
    rintro e w6 ⟨rfl, hi6, hb6⟩
    have hA6 : Hid (BAt B B w1 w6 (headL w h ++ sgns E 0)) := hide (hA5.out.byte (u := 58) rfl hi6 hb6)
    clear hi6 hb6
    obtain ⟨c0, c1, c2⟩ := hX1.out.below' hA6.out.old hlB.out
    go_wp2_with fail
    refine (edges_any w h E h1 h2 h3 h4 _).mono ?_
    rw [HN.out]
    rintro e w7 ⟨rfl, hb7⟩
    have hA7 : Hid (BAt B B w1 w7 (headL w h ++ sgns E 0)) := hide (hA6.out.keep hb7)
    clear hb7 c0 c1 c2
    go_wp2_with fail
    go_loopg [21] n (fun g i wr => ∃ k : Nat, k + g = n ∧ i = .int .i64 k ∧ BAt B B w1 wr (headL w h ++ sgns E k))
    case atStart => exact ⟨0, by omega, rfl, hA7.out⟩
    case round =>
      clear hA2 hA3 hA4 hA5 hA6 hA7
      obtain ⟨k, hkg, rfl, hA⟩ := hrel
      have hl : (headL w h ++ sgns E k).length = 4 + k := by rw [List.length_append, sgns_len]; rfl
      have HL := hide hl
      have HA := hide hA
      obtain ⟨c0, c1, c2⟩ := hX1.out.below' hA.old hlB.out
      clear hl hA
      cases gk with
      | zero =>
        obtain rfl : k = n := by omega
        have hfin : Hid (textL w h E = headL w h ++ sgns E k) := hide (by unfold textL; rw [HN.out]; rfl)
        clear c0 c1 c2
        go_wp2_with fail
        refine (Tryd.Builder_String_any B B (headL w h ++ sgns E k) _ HA.out.is HA.out.size).mono ?_
        rintro e w8 ⟨rfl, hb8⟩
        have hB8 := hide (Below.trans' hB1.out ((HA.out.old.trans hb8).mono hBB.out))
        clear hb8
        go_wp2_with fail
        go_ret2
        exact ⟨by rw [HR.out, hfin.out]; rfl, hB8.out⟩
      | succ g =>
        have hkn : (k : Int) < (n : Int) := by omega
        have hk24 : (k : Int) < 24 := by omega
        cases hd : drawn E (k : Int)
        · have hsg : Hid (sgns E (k + 1) = sgns E k ++ [48]) := hide (by rw [sgns_succ]; simp [sgn, hd])
          have HD := hide hd
          clear hd
          go_wp2_with fail
          refine (isDrawn_any w h E k E1 E2 (by omega) hk24 _).mono ?_
          rw [HD.out]
          rintro e w8 ⟨rfl, hb8⟩
          have hA8 := hide (HA.out.keep hb8)
          clear hb8 c0 c1 c2
          go_wp2_with fail
          refine (writeByte_any B B _ 48 _ hA8.out.is (by rw [byteCells_len, HL.out]; omega) hA8.out.size).mono ?_
          rintro e w9 ⟨rfl, hi9, hb9⟩
          have hA9 := hide (hA8.out.byte (u := 48) rfl hi9 hb9)
          clear hi9 hb9
          go_wp2_with fail
          go_roundg g
          case rel => exact ⟨k + 1, by omega, by go_num, by rw [hsg.out, ← List.append_assoc]; exact hA9.out⟩
          case measure => omega
        · have hsg : Hid (sgns E (k + 1) = sgns E k ++ [49]) := hide (by rw [sgns_succ]; simp [sgn, hd])
          have HD := hide hd
          clear hd
          go_wp2_with fail
          refine (isDrawn_any w h E k E1 E2 (by omega) hk24 _).mono ?_
          rw [HD.out]
          rintro e w8 ⟨rfl, hb8⟩
          have hA8 := hide (HA.out.keep hb8)
          clear hb8 c0 c1 c2
          go_wp2_with fail
          refine (writeByte_any B B _ 49 _ hA8.out.is (by rw [byteCells_len, HL.out]; omega) hA8.out.size).mono ?_
          rintro e w9 ⟨rfl, hi9, hb9⟩
          have hA9 := hide (hA8.out.byte (u := 49) rfl hi9 hb9)
          clear hi9 hb9
          go_wp2_with fail
          go_roundg g
          case rel => exact ⟨k + 1, by omega, by go_num, by rw [hsg.out, ← List.append_assoc]; exact hA9.out⟩
          case measure => omega
end Go.Proofs.YtincdnlinepcgaaDoor
