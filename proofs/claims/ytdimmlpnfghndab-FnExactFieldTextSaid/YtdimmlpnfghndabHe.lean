/-
  Col and snort: FieldText, the program's text.
-/
import Derived.Test.YtdimmlpnfghndabTc
import Derived.Test.YtdimmlpnfghndabSh
import Derived.Deep.LoopGhost
namespace Go.Proofs.Ytdimmlpnfghndab
open Go.RowKit
set_option linter.unusedVariables false

/-- A colour's letter; the letters of the points; a line's letter; the rows of the lines; a field's text. -/
def cb (R B : Int) (i : Nat) : UInt8 := UInt8.ofNat (sgn (cl R B i)).toNat
def colsL (R B : Int) (k : Nat) : List UInt8 := (List.range k).map (cb R B)
def jb (L : Int) (j i : Nat) : UInt8 := if jn L i j = true then 49 else 48
def rowL (L : Int) (j k : Nat) : List UInt8 := (List.range k).map (jb L j)
def rowsL (L : Int) : Nat → List UInt8
  | 0 => []
  | j + 1 => if j = 0 then [] else rowsL L j ++ 44 :: rowL L j j
def textL (n L R B : Int) : List UInt8 := colsL R B n.toNat ++ rowsL L n.toNat
theorem colsL_succ (R B : Int) (k : Nat) : colsL R B (k + 1) = colsL R B k ++ [cb R B k] := by simp [colsL, List.range_succ]
theorem colsL_len (R B : Int) (k : Nat) : (colsL R B k).length = k := by simp [colsL]
theorem rowL_succ (L : Int) (j k : Nat) : rowL L j (k + 1) = rowL L j k ++ [jb L j k] := by simp [rowL, List.range_succ]
theorem rowL_len (L : Int) (j k : Nat) : (rowL L j k).length = k := by simp [rowL]
theorem rowsL_succ (L : Int) {j : Nat} (h : 1 ≤ j) : rowsL L (j + 1) = rowsL L j ++ 44 :: rowL L j j := by
  rw [rowsL, if_neg (by omega)]
theorem rowsL_one (L : Int) : rowsL L 1 = [] := rfl
theorem rowsL_len (L : Int) : ∀ j, j ≤ 8 → (rowsL L j).length ≤ 9 * j
  | 0, _ => by simp [rowsL]
  | j + 1, h => by
    have ih := rowsL_len L j (by omega)
    rw [rowsL]
    split
    · simp
    · rw [List.length_append, List.length_cons, rowL_len]
      omega
theorem cb_nat (R B : Int) (k : Nat) : ((cb R B k).toNat : Int) = sgn (cl R B k) := by
  unfold cb
  rcases cl_range R B k with h | h | h <;> rw [h] <;> rfl
/-- The answer. -/
def txtR (n L R B : Int) : List UInt8 × Int := if okF n L R B = true then (textL n L R B, 0) else ([], 1)
def txtV (r : List UInt8 × Int) : Value := .tuple #[.string ⟨r.1.toArray⟩, .int .i64 r.2]

/-- A builder of the call's own that holds the letters l, and what was below it is as it was. -/
structure BAt (B b : Nat) (W0 w : World) (l : List UInt8) : Prop where
  is : IsB B b (Lib.byteCells l) w
  old : Below B W0 w
  size : B ≤ w.heap.size
theorem BAt.byte {B b : Nat} {W0 w w' : World} {l : List UInt8} {c : Int} {u : UInt8} (h : BAt B b W0 w l) (hu : (u.toNat : Int) = c) (hi : IsB B b (Lib.byteCells l ++ [.int .u8 c]) w') (hb : Below B w w') : BAt B b W0 w' (l ++ [u]) :=
  ⟨by have : Lib.byteCells (l ++ [u]) = Lib.byteCells l ++ [.int .u8 c] := by simp [Lib.byteCells, ← hu]
      rw [IsB, this]; exact hi, h.old.trans hb, Nat.le_trans h.size hb.size⟩
theorem BAt.keep {B b : Nat} {W0 w w' : World} {l : List UInt8} (h : BAt B b W0 w l) (hb : Below w.heap.size w w') : BAt B b W0 w' l := by
  refine ⟨?_, h.old.trans (hb.mono h.size), Nat.le_trans h.size hb.size⟩
  have hkeep : ∀ p : Value, Lib.BuilderAt 34 5 B b p (Lib.byteCells l) w → Lib.BuilderAt 34 5 B b p (Lib.byteCells l) w' := fun p hp => by
    obtain ⟨hB, v, hbk, hown, hne⟩ := hp
    exact ⟨hB, v, (hb.block _ (block_lt hbk)).trans hbk, ownsRow_keep hown hb, hne⟩
  rcases h.is with h1 | h1
  · exact .inl (hkeep _ h1)
  · exact .inr (hkeep _ h1)
theorem FieldIn.below' {W W' : World} {B b : Nat} {n L R Bl : Int} (hx : FieldIn W b n L R Bl) (hb : Below B W W') (hB : b < B) : FieldIn W' b n L R Bl :=
  ⟨(hb.cell (p := ⟨b, 0, none⟩) hB).trans hx.1, (hb.cell (p := ⟨b, 1, none⟩) hB).trans hx.2.1, (hb.cell (p := ⟨b, 2, none⟩) hB).trans hx.2.2.1, (hb.cell (p := ⟨b, 3, none⟩) hB).trans hx.2.2.2⟩
theorem byteCells_len (l : List UInt8) : (Lib.byteCells l).length = l.length := by simp [Lib.byteCells]

set_option maxRecDepth 100000 in
set_option maxHeartbeats 4000000 in
theorem implText_any (n L R B : Int) (W : World) : Calls Try.prog 6 #[.agg #[.int .i64 n, .int .i64 L, .int .i64 R, .int .i64 B]] W (RetB (txtV (txtR n L R B)) W) := by
  obtain ⟨r, hr⟩ : ∃ r, r = txtR n L R B := ⟨_, rfl⟩
  rw [← hr]
  unfold txtR at hr
  have hB0 := hide (below_alloc W (.cells #[.int .i64 n, .int .i64 L, .int .i64 R, .int .i64 B] 26))
  have hX0 := hide (fieldIn_new W n L R B 26)
  obtain ⟨X0, X1, X2, X3⟩ := hX0.out
  cases hb : okF n L R B
  · have HR : Hid (r = ([], 1)) := hide (by rw [hr, hb]; rfl)
    have HB := hide hb
    clear hb hr
    go_enter Try.func6, Try.ntmps6
    go_wp2_with fail
    refine (implIs_is HB.out _).mono ?_
    rintro e w1 ⟨rfl, hb1⟩
    (try clear X0 X1 X2 X3)
    have hX1 := hide (hX0.out.keep hb1)
    obtain ⟨X0, X1, X2, X3⟩ := hX1.out
    have hB1 := hide (Below.trans' hB0.out hb1)
    clear hb1
    go_wp2_with fail
    go_ret2
    exact ⟨by rw [HR.out]; rfl, hB1.out⟩
  · have HR : Hid (r = (textL n L R B, 0)) := hide (by rw [hr, hb]; rfl)
    have HB := hide hb
    obtain ⟨k0, k1, k2, k3, k4, k5, k6, k7⟩ := okF_nums hb
    obtain ⟨N, hN⟩ : ∃ N : Nat, n = N := ⟨n.toNat, by omega⟩
    subst hN
    have HTX : Hid (textL N L R B = colsL R B N ++ rowsL L N) := hide (by unfold textL; rw [Int.toNat_natCast])
    have hN8 : N ≤ 8 := by omega
    have hN1 : 1 ≤ N := by omega
    clear hb hr
    go_enter Try.func6, Try.ntmps6
    go_wp2_with fail
    refine (implIs_is HB.out _).mono ?_
    rintro e w1 ⟨rfl, hb1⟩
    (try clear X0 X1 X2 X3)
    have hX1 := hide (hX0.out.keep hb1)
    obtain ⟨X0, X1, X2, X3⟩ := hX1.out
    have hB1 := hide (Below.trans' hB0.out hb1)
    clear hb1
    obtain ⟨Bb, hBe⟩ : ∃ B, B = w1.heap.size := ⟨_, rfl⟩
    obtain ⟨W2, hW2⟩ : ∃ W2, W2 = w1.alloc (.cells #[.pointer none, .slice none 0 0] 34) := ⟨_, rfl⟩
    have hA2 : Hid (BAt Bb Bb w1 W2 (colsL R B 0)) := by rw [hW2, hBe]; exact hide ⟨Lib.fresh_isBuilder _ _ w1, below_alloc _ _, by simp⟩
    have hlB : Hid (W.heap.size < Bb) := by rw [hBe]; exact hide hX1.out.lt
    have hBB : Hid (w1.heap.size ≤ Bb) := by rw [hBe]; exact hide (Nat.le_refl _)
    clear X0 X1 X2 X3
    obtain ⟨X0, X1, X2, X3⟩ := hX1.out.keep (below_alloc w1 (.cells #[.pointer none, .slice none 0 0] 34))
    go_wp2_with fail
    rw [← hW2, ← hBe]
    clear hW2 hBe X0 X1 X2 X3
    go_loopg [13] N (fun g i wr => ∃ k : Nat, k + g = N ∧ i = .int .i64 k ∧ BAt Bb Bb w1 wr (colsL R B k))
    case atStart => exact ⟨0, by omega, rfl, hA2.out⟩
    case round =>
      clear hA2
      obtain ⟨k, hkg, rfl, hA⟩ := hrel
      have HA := hide hA
      obtain ⟨X0, X1, X2, X3⟩ := hX1.out.below' hA.old hlB.out
      clear hA
      cases gk with
      | zero =>
        obtain rfl : k = N := by omega
        go_wp2_with fail
        obtain ⟨m, hm⟩ : ∃ m, m = k - 1 := ⟨_, rfl⟩
        have hA3 : Hid (BAt Bb Bb w1 wr (colsL R B k ++ rowsL L 1)) := hide (by rw [rowsL_one, List.append_nil]; exact HA.out)
        clear X0 X1 X2 X3 HA
        obtain ⟨w0, hw0⟩ : ∃ wo : World, wo = wr := ⟨_, rfl⟩
        rw [← hw0] at hA3 ⊢
        clear hw0
        go_loopg [6] m (fun g jv wr => ∃ j : Nat, 1 ≤ j ∧ j + g = k ∧ jv = .int .i64 j ∧ BAt Bb Bb w1 wr (colsL R B k ++ rowsL L j))
        case atStart => exact ⟨1, by omega, by omega, rfl, hA3.out⟩
        case round =>
          clear hA3
          obtain ⟨j, hj1, hjg, rfl, hA⟩ := hrel
          have HA := hide hA
          obtain ⟨X0, X1, X2, X3⟩ := hX1.out.below' hA.old hlB.out
          have hlen : (colsL R B k ++ rowsL L j).length ≤ 90 := by
            rw [List.length_append, colsL_len]
            have := rowsL_len L j (by omega)
            omega
          have HLEN := hide hlen
          clear hA hlen
          cases gk with
          | zero =>
            obtain rfl : j = k := by omega
            have hfin : Hid (textL j L R B = colsL R B j ++ rowsL L j) := HTX
            go_wp2_with fail
            refine (Try.Builder_String_any Bb Bb (colsL R B j ++ rowsL L j) _ HA.out.is HA.out.size).mono ?_
            rintro e w8 ⟨rfl, hb8⟩
            have hB8 := hide (Below.trans' hB1.out ((HA.out.old.trans hb8).mono hBB.out))
            clear hb8 X0 X1 X2 X3
            go_wp2_with fail
            go_ret2
            exact ⟨by rw [HR.out, hfin.out]; rfl, hB8.out⟩
          | succ g =>
            have hjk : (j : Int) < (k : Int) := by omega
            go_wp2_with fail
            refine (writeByte_any Bb Bb _ 44 _ HA.out.is (by rw [byteCells_len]; have := HLEN.out; omega) HA.out.size).mono ?_
            rintro e w5 ⟨rfl, hi5, hb5⟩
            have hA5 : Hid (BAt Bb Bb w1 w5 ((colsL R B k ++ rowsL L j) ++ 44 :: rowL L j 0)) := hide (HA.out.byte (u := 44) rfl hi5 hb5)
            clear hi5 hb5 X0 X1 X2 X3 HA
            go_wp2_with fail
            go_loopg [29] j (fun g iv wr => ∃ i : Nat, i + g = j ∧ iv = .int .i64 i ∧ BAt Bb Bb w1 wr ((colsL R B k ++ rowsL L j) ++ 44 :: rowL L j i))
            case atStart => exact ⟨0, by omega, rfl, hA5.out⟩
            case round =>
              clear hA5
              obtain ⟨i, hig, rfl, hA⟩ := hrel
              have HA := hide hA
              have hlen : ((colsL R B k ++ rowsL L j) ++ 44 :: rowL L j i).length ≤ 100 := by
                have := HLEN.out
                rw [List.length_append, List.length_cons, rowL_len]
                omega
              obtain ⟨X0, X1, X2, X3⟩ := hX1.out.below' hA.old hlB.out
              have HLE := hide hlen
              clear hA hlen
              cases gk with
              | zero =>
                obtain rfl : i = j := by omega
                have hrs := hide (rowsL_succ L hj1)
                go_wp2_with fail
                go_roundg g
                case rel => exact ⟨i + 1, by omega, by omega, by go_num, by rw [hrs.out, ← List.append_assoc]; exact HA.out⟩
                case measure => omega
              | succ g2 =>
                have hij : (i : Int) < (j : Int) := by omega
                cases hd : jn L i j
                · have hsg : Hid (rowL L j (i + 1) = rowL L j i ++ [48]) := hide (by rw [rowL_succ]; simp [jb, hd])
                  have HD := hide hd
                  clear hd
                  go_wp2_with fail
                  refine (isJoined_any k L R B i j k2 k3 (by omega) (by omega) (by omega) (by omega) (by omega) _).mono ?_
                  rw [HD.out]
                  rintro e w8 ⟨rfl, hb8⟩
                  have hA8 := hide (HA.out.keep hb8)
                  clear hb8 X0 X1 X2 X3
                  go_wp2_with fail
                  refine (writeByte_any Bb Bb _ 48 _ hA8.out.is (by rw [byteCells_len]; have := HLE.out; omega) hA8.out.size).mono ?_
                  rintro e w9 ⟨rfl, hi9, hb9⟩
                  have hA9 := hide (hA8.out.byte (u := 48) rfl hi9 hb9)
                  have HA9 : Hid (BAt Bb Bb w1 w9 ((colsL R B k ++ rowsL L j) ++ 44 :: rowL L j (i + 1))) := hide (by rw [hsg.out]; simpa using hA9.out)
                  clear hi9 hb9 hA9
                  go_wp2_with fail
                  go_roundg g2
                  case rel => exact ⟨i + 1, by omega, by go_num, HA9.out⟩
                  case measure => omega
                · have hsg : Hid (rowL L j (i + 1) = rowL L j i ++ [49]) := hide (by rw [rowL_succ]; simp [jb, hd])
                  have HD := hide hd
                  clear hd
                  go_wp2_with fail
                  refine (isJoined_any k L R B i j k2 k3 (by omega) (by omega) (by omega) (by omega) (by omega) _).mono ?_
                  rw [HD.out]
                  rintro e w8 ⟨rfl, hb8⟩
                  have hA8 := hide (HA.out.keep hb8)
                  clear hb8 X0 X1 X2 X3
                  go_wp2_with fail
                  refine (writeByte_any Bb Bb _ 49 _ hA8.out.is (by rw [byteCells_len]; have := HLE.out; omega) hA8.out.size).mono ?_
                  rintro e w9 ⟨rfl, hi9, hb9⟩
                  have hA9 := hide (hA8.out.byte (u := 49) rfl hi9 hb9)
                  have HA9 : Hid (BAt Bb Bb w1 w9 ((colsL R B k ++ rowsL L j) ++ 44 :: rowL L j (i + 1))) := hide (by rw [hsg.out]; simpa using hA9.out)
                  clear hi9 hb9 hA9
                  go_wp2_with fail
                  go_roundg g2
                  case rel => exact ⟨i + 1, by omega, by go_num, HA9.out⟩
                  case measure => omega
      | succ g =>
        have hkn : (k : Int) < (N : Int) := by omega
        have hsg : Hid (colsL R B (k + 1) = colsL R B k ++ [cb R B k]) := hide (colsL_succ R B k)
        have hcb := hide (cb_nat R B k)
        go_wp2_with fail
        refine (colourOf_any N L R B k k4 k5 k6 k7 (by omega) (by omega) _).mono ?_
        rintro e w8 ⟨rfl, hb8⟩
        have hA8 := hide (HA.out.keep hb8)
        obtain ⟨c, hc⟩ : ∃ c, c = sgn (cl R B k) := ⟨_, rfl⟩
        rw [← hc]
        have HC := hide hc
        clear hb8 X0 X1 X2 X3 hc
        go_wp2_with fail
        refine (writeByte_any Bb Bb _ c _ hA8.out.is (by rw [byteCells_len, colsL_len]; omega) hA8.out.size).mono ?_
        rintro e w9 ⟨rfl, hi9, hb9⟩
        have hA9 := hide (hA8.out.byte (u := cb R B k) (by rw [hcb.out, HC.out]) hi9 hb9)
        clear hi9 hb9
        go_wp2_with fail
        go_roundg g
        case rel => exact ⟨k + 1, by omega, by go_num, by rw [hsg.out]; exact hA9.out⟩
        case measure => omega
end Go.Proofs.Ytdimmlpnfghndab
