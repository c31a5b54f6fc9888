/-
  GameText, the program's text.
-/
import Derived.Test.YtidcpocfdppobabDoorGp
import Derived.Test.YtidcpocfdppobabDoorTc
import Derived.Test.YtidcpocfdppobabDoorSh
import Derived.Deep.LoopGhost
namespace Go.Proofs.YtidcpocfdppobabDoor
open Go.RowKit
set_option linter.unusedVariables false

/-- A builder of the call's own that holds the letters l, and what was below it is as it was. -/
structure BAt (B b : Nat) (W0 w : World) (l : List UInt8) : Prop where
  is : IsB B b (Lib.byteCells l) w
  old : Below B W0 w
  size : B ≤ w.heap.size
theorem BAt.byte {B b : Nat} {W0 w w' : World} {l : List UInt8} {c : Int} {u : UInt8} (h : BAt B b W0 w l) (hu : (u.toNat : Int) = c) (hi : IsB B b (Lib.byteCells l ++ [.int .u8 c]) w') (hb : Below B w w') : BAt B b W0 w' (l ++ [u]) :=
  ⟨by have : Lib.byteCells (l ++ [u]) = Lib.byteCells l ++ [.int .u8 c] := by simp [Lib.byteCells, ← hu]
      rw [IsB, this]; exact hi, h.old.trans hb, Nat.le_trans h.size hb.size⟩
theorem BAt.keep {B b : Nat} {W0 w w' : World} {l : List UInt8} (h : BAt B b W0 w l) (hb : Below w.heap.size w w') : BAt B b W0 w' l := by
  refine ⟨?_, h.old.trans (hb.mono h.size), Nat.le_trans h.size hb.size⟩
  have hkeep : ∀ p : Value, Lib.BuilderAt 39 5 B b p (Lib.byteCells l) w → Lib.BuilderAt 39 5 B b p (Lib.byteCells l) w' := fun p hp => by
    obtain ⟨hB, v, hbk, hown, hne⟩ := hp
    exact ⟨hB, v, (hb.block _ (block_lt hbk)).trans hbk, ownsRow_keep hown hb, hne⟩
  rcases h.is with h1 | h1
  · exact .inl (hkeep _ h1)
  · exact .inr (hkeep _ h1)
theorem byteCells_len (l : List UInt8) : (Lib.byteCells l).length = l.length := by simp [Lib.byteCells]
theorem BAt.text {B b : Nat} {W0 w w' : World} {l m : List UInt8} (h : BAt B b W0 w l) (hi : IsB B b (Lib.byteCells l ++ Lib.strCells ⟨m.toArray⟩) w') (hb : Below B w w') : BAt B b W0 w' (l ++ m) :=
  ⟨by have : Lib.byteCells (l ++ m) = Lib.byteCells l ++ Lib.strCells ⟨m.toArray⟩ := by simp [Lib.byteCells, Lib.strCells]
      rw [IsB, this]; exact hi, h.old.trans hb, Nat.le_trans h.size hb.size⟩
theorem dec_same : ((List.range 100).all fun i => decide (Lib.decDigits i = decL (i : Int))) = true := by decide +kernel
theorem format_any (n : Int) (h1 : 0 ≤ n) (h2 : n < 100) (W : World) : Calls Tryd.prog 16 #[.int .i64 n, .int .i64 10] W fun e W' => e = .returned (.string ⟨(decL n).toArray⟩) ∧ W' = W := by
  obtain ⟨i, rfl⟩ : ∃ i : Nat, n = i := ⟨n.toNat, by omega⟩
  have h := dec_same
  rw [List.all_eq_true] at h
  have h3 := of_decide_eq_true (h i (List.mem_range.2 (by omega)))
  rw [← h3]
  exact Tryd.strconv_FormatInt_10_small i (by omega) W

set_option maxRecDepth 100000 in
set_option maxHeartbeats 4000000 in
theorem implText_any (a : Option Addr) (c : Nat) (xss : List (List Int)) (W : World) (ha : RowsAt W a xss) (hs : Small xss) : Calls Tryd.prog 7 #[.agg #[.slice a xss.length c]] W (RetB (txtV (txtR xss)) W) := by
  obtain ⟨r, hr⟩ : ∃ r, r = txtR xss := ⟨_, rfl⟩
  rw [← hr]
  unfold txtR at hr
  have hl := hs.1
  have hB0 := hide (below_alloc W (.cells #[.slice a xss.length c] 28))
  have hx0 : (W.alloc (.cells #[.slice a xss.length c] 28)).cell? ⟨W.heap.size, 0, none⟩ = some (.slice a xss.length c) := by simp [go_sem]
  have HA0 := hide (ha.keep hB0.out)
  clear ha
  cases hb : isGameB xss
  · have HR : Hid (r = ([], 1)) := hide (by rw [hr, hb]; rfl)
    have HB := hide hb
    clear hb hr
    go_enter Tryd.func7, Tryd.ntmps7
    go_wp2_with fail
    refine (implIsGame_any _ _ xss _ HA0.out hs).mono ?_
    rw [HB.out]
    rintro e w1 ⟨rfl, hb1⟩
    have hB1 := hide (Below.trans' hB0.out hb1)
    clear hb1 hx0
    go_wp2_with fail
    go_ret2
    exact ⟨by rw [HR.out]; rfl, hB1.out⟩
  · have HR : Hid (r = (gameT xss, 0)) := hide (by rw [hr, hb]; rfl)
    have HB := hide hb
    obtain ⟨n1, n40, hrows⟩ := game_rows hb
    have HROWS := hide hrows
    have HLE := hide (take_le40 hb)
    obtain ⟨n, hn⟩ : ∃ n, n = xss.length := ⟨_, rfl⟩
    have HN := hide hn
    clear hb hr hrows
    go_enter Tryd.func7, Tryd.ntmps7
    go_wp2_with fail
    refine (implIsGame_any _ _ xss _ HA0.out hs).mono ?_
    rw [HB.out]
    rintro e w1 ⟨rfl, hb1⟩
    have hB1 := hide (Below.trans' hB0.out hb1)
    have hx1 := hide (cell_keep hb1 hx0)
    have HA1 := hide (HA0.out.keep hb1)
    obtain ⟨Bb, hBe⟩ : ∃ B, B = w1.heap.size := ⟨_, rfl⟩
    have HBE := hide hBe
    obtain ⟨W2, hW2⟩ : ∃ W2, W2 = w1.alloc (.cells #[.pointer none, .slice none 0 0] 39) := ⟨_, rfl⟩
    have hA2 : Hid (BAt Bb Bb w1 W2 (gameT (xss.take 0))) := by rw [hW2, hBe]; exact hide ⟨Lib.fresh_isBuilder _ _ w1, below_alloc _ _, by simp⟩
    have hx2 : (w1.alloc (.cells #[.pointer none, .slice none 0 0] 39)).cell? ⟨W.heap.size, 0, none⟩ = some (.slice a xss.length c) := cell_keep (below_alloc _ _) hx1.out
    clear hb1 hx0 hs
    rw [← hn] at n1 n40 hx2 ⊢
    clear hn
    go_wp2_with fail
    rw [← hW2, ← hBe]
    clear hW2 hBe hx2
    (try go_wp2_with fail)
    go_loopg [15] n (fun g iv wr => ∃ k : Nat, k + g = n ∧ iv = .int .i64 k ∧ BAt Bb Bb w1 wr (gameT (xss.take k)))
    case atStart => exact ⟨0, by omega, rfl, hA2.out⟩
    case round =>
      clear hA2
      obtain ⟨k, hkg, rfl, hA⟩ := hrel
      have HA := hide hA
      cases gk with
      | zero =>
        obtain rfl : k = n := by omega
        have hfin : Hid (gameT (xss.take k) = gameT xss) := hide (by rw [HN.out, List.take_length])
        clear hA
        go_wp2_with fail
        refine (Tryd.Builder_String_any Bb Bb (gameT (xss.take k)) _ HA.out.is HA.out.size).mono ?_
        rintro e w8 ⟨rfl, hb8⟩
        have hB8 := hide (Below.trans' hB1.out ((HA.out.old.trans hb8).mono (by rw [HBE.out]; exact Nat.le_refl _)))
        clear hb8
        rw [hfin.out]
        go_wp2_with fail
        go_ret2
        exact ⟨by rw [HR.out]; rfl, hB8.out⟩
      | succ g =>
        have hkn : k < xss.length := by rw [← HN.out]; omega
        obtain ⟨b, off, ai, ci, zs, e0, hcell, hz, hg⟩ := (HA1.out.keep (Hid.out HBE ▸ hA.old)).one hkn
        subst e0
        have hz40 := (HROWS.out k zs hg.out).1
        have hzq := hide (HROWS.out k zs hg.out).2
        have HZ : Hid (IntsAt w1 ai zs) := by
          obtain ⟨b', off', ai', ci', zs', e1, hcell1, hz1, hg1⟩ := HA1.out.one hkn
          have e2 := hg1.out.symm.trans hg.out
          simp only [Option.some.injEq] at e2
          subst e2
          cases e1
          have e3 := (hA.old.cell (p := ⟨b, off + k, none⟩) (by rw [HBE.out]; exact World.block_lt_of_cell? w1 _ hcell1)).trans hcell1
          rw [hcell] at e3
          simp at e3
          obtain ⟨rfl, _⟩ := e3
          exact hide hz1
        have HLEK := hide (HLE.out k)
        have hkn2 : k < n := by omega
        clear hz hkn hA
        by_cases hk0 : k = 0
        · obtain ⟨PK, hP0⟩ : ∃ PK, PK = gameT (xss.take k) := ⟨_, rfl⟩
          have hPK : Hid (gameT (xss.take (k + 1)) = PK ++ rowT zs) := hide (by
            subst hk0
            rw [hP0, gameT_first hg.out, List.take_zero, gameT_nil, List.nil_append])
          have hPl : Hid (PK.length ≤ 4841) := hide (by rw [hP0]; have := HLEK.out; omega)
          have hP : Hid (BAt Bb Bb w1 wr PK) := by rw [hP0]; exact HA
          clear hP0 HA HLEK
          subst hk0
          rw [Nat.add_zero] at hcell
          go_wp2_with fail
          obtain ⟨m, hm⟩ : ∃ m, m = zs.length := ⟨_, rfl⟩
          have HM := hide hm
          have hm40 : m ≤ 40 := by rw [hm]; exact hz40
          rw [← hm]
          clear hm
          go_wp2_with fail
          go_loopg [25] m (fun g iv wr => ∃ i : Nat, i + g = m ∧ iv = .int .i64 i ∧ BAt Bb Bb w1 wr (PK ++ rowT (zs.take i)))
          case atStart => exact ⟨0, by omega, rfl, by rw [List.take_zero, rowT_nil, List.append_nil]; exact hP.out⟩
          case round =>
            clear hP
            obtain ⟨i, hig, rfl, hA⟩ := hrel
            have HAI := hide hA
            cases gk with
            | zero =>
              obtain rfl : i = m := by omega
              have hfin : Hid (BAt Bb Bb w1 wr (gameT (xss.take (0 + 1)))) := hide (by rw [hPK.out]; rw [HM.out, List.take_length] at hA; exact hA)
              clear hA
              go_wp2_with fail
              go_roundg g
              case rel => exact ⟨0 + 1, by omega, by go_num, hfin.out⟩
              case measure => omega
            | succ g2 =>
              have him : i < zs.length := by rw [← HM.out]; omega
              obtain ⟨b2, o2, z, e2, hcell, hz⟩ := (HZ.out.keep (Hid.out HBE ▸ hA.old)).one him
              subst e2
              have hzb := hzq.out z (List.mem_of_getElem? hz.out)
              have hf := hide (format_any z (by omega) (by omega))
              obtain ⟨D, hD⟩ : ∃ D, D = decL z := ⟨_, rfl⟩
              have hDl : D.length ≤ 2 := by rw [hD]; exact decL_le z
              have hlen : Hid ((PK ++ rowT (zs.take i)).length ≤ 5000) := hide (by
                rw [List.length_append]
                have := rowtake_le zs hz40 i
                have := hPl.out
                omega)
              rw [← hD] at hf
              clear hzb hA
              by_cases hi0 : i = 0
              · have hst : Hid (PK ++ rowT (zs.take (i + 1)) = (PK ++ rowT (zs.take i)) ++ D) := hide (by
                  subst hi0
                  rw [rowT_first hz.out, hD, List.take_zero, rowT_nil, List.append_nil])
                have hQ := HAI
                have hQl := hlen
                clear hD
                subst hi0
                rw [Nat.add_zero] at hcell
                go_wp2_with fail
                refine (hf.out _).mono ?_
                rintro e w6 ⟨rfl, hw6⟩
                subst hw6
                go_wp2_with fail
                refine (writeString_any Bb Bb _ ⟨D.toArray⟩ _ hQ.out.is (by rw [byteCells_len]; have := hQl.out; omega) (by show D.length ≤ _; omega) hQ.out.size).mono ?_
                rintro e w7 ⟨rfl, hi7, hb7⟩
                have hA7 : Hid (BAt Bb Bb w1 w7 (PK ++ rowT (zs.take (0 + 1)))) := hide (by rw [hst.out]; exact hQ.out.text hi7 hb7)
                clear hi7 hb7
                go_wp2_with fail
                go_roundg g2
                case rel => exact ⟨0 + 1, by omega, by go_num, hA7.out⟩
                case measure => omega
              · have hst : Hid (PK ++ rowT (zs.take (i + 1)) = ((PK ++ rowT (zs.take i)) ++ [46]) ++ D) := hide (by
                  rw [rowT_take hi0 hz.out, hD]
                  simp [List.append_assoc])
                have hip : 0 < i := by omega
                clear hD
                go_wp2_with fail
                refine (writeByte_any Bb Bb _ 46 _ HAI.out.is (by rw [byteCells_len]; have := hlen.out; omega) HAI.out.size).mono ?_
                rintro e w5 ⟨rfl, hi5, hb5⟩
                have hQ := hide (HAI.out.byte (u := 46) rfl hi5 hb5)
                have hQl : Hid (((PK ++ rowT (zs.take i)) ++ [46]).length ≤ 5001) := hide (by rw [List.length_append]; have := hlen.out; simp at this ⊢; omega)
                clear hi5 hb5 hcell
                go_wp2_with fail
                refine (hf.out _).mono ?_
                rintro e w6 ⟨rfl, hw6⟩
                subst hw6
                go_wp2_with fail
                refine (writeString_any Bb Bb _ ⟨D.toArray⟩ _ hQ.out.is (by rw [byteCells_len]; have := hQl.out; omega) (by show D.length ≤ _; omega) hQ.out.size).mono ?_
                rintro e w7 ⟨rfl, hi7, hb7⟩
                have hA7 : Hid (BAt Bb Bb w1 w7 (PK ++ rowT (zs.take (i + 1)))) := hide (by rw [hst.out]; exact hQ.out.text hi7 hb7)
                clear hi7 hb7
                go_wp2_with fail
                go_roundg g2
                case rel => exact ⟨i + 1, by omega, by go_num, hA7.out⟩
                case measure => omega
        · obtain ⟨PK, hP0⟩ : ∃ PK, PK = gameT (xss.take k) ++ [44] := ⟨_, rfl⟩
          have hPK : Hid (gameT (xss.take (k + 1)) = PK ++ rowT zs) := hide (by rw [hP0, gameT_take hk0 hg.out])
          have hPl : Hid (PK.length ≤ 4841) := hide (by rw [hP0, List.length_append]; have := HLEK.out; simp at this ⊢; omega)
          have hkp : 0 < k := by omega
          go_wp2_with fail
          refine (writeByte_any Bb Bb _ 44 _ HA.out.is (by rw [byteCells_len]; have := HLEK.out; omega) HA.out.size).mono ?_
          rintro e w4 ⟨rfl, hi4, hb4⟩
          have hP : Hid (BAt Bb Bb w1 w4 PK) := hide (by rw [hP0]; exact HA.out.byte (u := 44) rfl hi4 hb4)
          clear hi4 hb4 hcell hP0 HA HLEK
          go_wp2_with fail
          obtain ⟨m, hm⟩ : ∃ m, m = zs.length := ⟨_, rfl⟩
          have HM := hide hm
          have hm40 : m ≤ 40 := by rw [hm]; exact hz40
          rw [← hm]
          clear hm
          go_wp2_with fail
          go_loopg [25] m (fun g iv wr => ∃ i : Nat, i + g = m ∧ iv = .int .i64 i ∧ BAt Bb Bb w1 wr (PK ++ rowT (zs.take i)))
          case atStart => exact ⟨0, by omega, rfl, by rw [List.take_zero, rowT_nil, List.append_nil]; exact hP.out⟩
          case round =>
            clear hP
            obtain ⟨i, hig, rfl, hA⟩ := hrel
            have HAI := hide hA
            cases gk with
            | zero =>
              obtain rfl : i = m := by omega
              have hfin : Hid (BAt Bb Bb w1 wr (gameT (xss.take (k + 1)))) := hide (by rw [hPK.out]; rw [HM.out, List.take_length] at hA; exact hA)
              clear hA
              go_wp2_with fail
              go_roundg g
              case rel => exact ⟨k + 1, by omega, by go_num, hfin.out⟩
              case measure => omega
            | succ g2 =>
              have him : i < zs.length := by rw [← HM.out]; omega
              obtain ⟨b2, o2, z, e2, hcell, hz⟩ := (HZ.out.keep (Hid.out HBE ▸ hA.old)).one him
              subst e2
              have hzb := hzq.out z (List.mem_of_getElem? hz.out)
              have hf := hide (format_any z (by omega) (by omega))
              obtain ⟨D, hD⟩ : ∃ D, D = decL z := ⟨_, rfl⟩
              have hDl : D.length ≤ 2 := by rw [hD]; exact decL_le z
              have hlen : Hid ((PK ++ rowT (zs.take i)).length ≤ 5000) := hide (by
                rw [List.length_append]
                have := rowtake_le zs hz40 i
                have := hPl.out
                omega)
              rw [← hD] at hf
              clear hzb hA
              by_cases hi0 : i = 0
              · have hst : Hid (PK ++ rowT (zs.take (i + 1)) = (PK ++ rowT (zs.take i)) ++ D) := hide (by
                  subst hi0
                  rw [rowT_first hz.out, hD, List.take_zero, rowT_nil, List.append_nil])
                have hQ := HAI
                have hQl := hlen
                clear hD
                subst hi0
                rw [Nat.add_zero] at hcell
                go_wp2_with fail
                refine (hf.out _).mono ?_
                rintro e w6 ⟨rfl, hw6⟩
                subst hw6
                go_wp2_with fail
                refine (writeString_any Bb Bb _ ⟨D.toArray⟩ _ hQ.out.is (by rw [byteCells_len]; have := hQl.out; omega) (by show D.length ≤ _; omega) hQ.out.size).mono ?_
                rintro e w7 ⟨rfl, hi7, hb7⟩
                have hA7 : Hid (BAt Bb Bb w1 w7 (PK ++ rowT (zs.take (0 + 1)))) := hide (by rw [hst.out]; exact hQ.out.text hi7 hb7)
                clear hi7 hb7
                go_wp2_with fail
                go_roundg g2
                case rel => exact ⟨0 + 1, by omega, by go_num, hA7.out⟩
                case measure => omega
              · have hst : Hid (PK ++ rowT (zs.take (i + 1)) = ((PK ++ rowT (zs.take i)) ++ [46]) ++ D) := hide (by
                  rw [rowT_take hi0 hz.out, hD]
                  simp [List.append_assoc])
                have hip : 0 < i := by omega
                clear hD
                go_wp2_with fail
                refine (writeByte_any Bb Bb _ 46 _ HAI.out.is (by rw [byteCells_len]; have := hlen.out; omega) HAI.out.size).mono ?_
                rintro e w5 ⟨rfl, hi5, hb5⟩
                have hQ := hide (HAI.out.byte (u := 46) rfl hi5 hb5)
                have hQl : Hid (((PK ++ rowT (zs.take i)) ++ [46]).length ≤ 5001) := hide (by rw [List.length_append]; have := hlen.out; simp at this ⊢; omega)
                clear hi5 hb5 hcell
                go_wp2_with fail
                refine (hf.out _).mono ?_
                rintro e w6 ⟨rfl, hw6⟩
                subst hw6
                go_wp2_with fail
                refine (writeString_any Bb Bb _ ⟨D.toArray⟩ _ hQ.out.is (by rw [byteCells_len]; have := hQl.out; omega) (by show D.length ≤ _; omega) hQ.out.size).mono ?_
                rintro e w7 ⟨rfl, hi7, hb7⟩
                have hA7 : Hid (BAt Bb Bb w1 w7 (PK ++ rowT (zs.take (i + 1)))) := hide (by rw [hst.out]; exact hQ.out.text hi7 hb7)
                clear hi7 hb7
                go_wp2_with fail
                go_roundg g2
                case rel => exact ⟨i + 1, by omega, by go_num, hA7.out⟩
                case measure => omega
end Go.Proofs.YtidcpocfdppobabDoor
