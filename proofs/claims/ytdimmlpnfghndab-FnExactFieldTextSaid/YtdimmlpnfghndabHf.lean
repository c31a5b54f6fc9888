/-
  Col and snort: FieldText, the model's text.
-/
import Derived.Test.YtdimmlpnfghndabHe
import Derived.Laws.BytesString
namespace Go.Proofs.Ytdimmlpnfghndab
open Go.RowKit
set_option linter.unusedVariables false

set_option maxRecDepth 100000 in
set_option maxHeartbeats 4000000 in
theorem specTxt_any (n L R B : Int) (hb : okF n L R B = true) (W : World) : Calls Try.prog 8 #[.agg #[.int .i64 n, .int .i64 L, .int .i64 R, .int .i64 B]] W (RetB (.string ⟨(textL n L R B).toArray⟩) W) := by
  obtain ⟨k0, k1, k2, k3, k4, k5, k6, k7⟩ := okF_nums hb
  obtain ⟨N, hN⟩ : ∃ N : Nat, n = N := ⟨n.toNat, by omega⟩
  subst hN
  have HTX : Hid (textL N L R B = colsL R B N ++ rowsL L N) := hide (by unfold textL; rw [Int.toNat_natCast])
  obtain ⟨r, hr⟩ : ∃ r, r = textL N L R B := ⟨_, rfl⟩
  rw [← hr]
  have HR := hide hr
  have hN8 : N ≤ 8 := by omega
  have hN1 : 1 ≤ N := by omega
  obtain ⟨W0, hW0⟩ : ∃ W0, W0 = W.alloc (.cells #[.int .i64 N, .int .i64 L, .int .i64 R, .int .i64 B] 26) := ⟨_, rfl⟩
  have hB0 : Hid (Below W.heap.size W W0) := by rw [hW0]; exact hide (below_alloc _ _)
  have hX0 : Hid (FieldIn W0 W.heap.size N L R B) := by rw [hW0]; exact hide (fieldIn_new _ _ _ _ _ _)
  obtain ⟨X0, X1, X2, X3⟩ := hX0.out
  clear hb hr
  go_enter Try.func8, Try.ntmps8
  go_wp2_with fail
  rw [← hW0]
  clear hW0
  (try go_wp2_with fail)
  go_loopg [3, 4] N (fun g t i wr => ∃ (k : Nat) (l : List UInt8), k + g = N ∧ i = .int .i64 k ∧ t = .string ⟨l.toArray⟩ ∧ l = colsL R B k ∧ Below W.heap.size W wr ∧ FieldIn wr W.heap.size N L R B)
  case atStart => exact ⟨0, [], by omega, rfl, rfl, rfl, hB0.out, hX0.out⟩
  case round =>
    clear X0 X1 X2 X3
    obtain ⟨k, l, hkg, rfl, rfl, hl, hBr, hXr⟩ := hrel
    have HBR0 := hide hBr
    have HXR0 := hide hXr
    obtain ⟨X0, X1, X2, X3⟩ := hXr
    clear hBr
    have HL := hide hl
    have hlen : l.length ≤ 8 := by rw [hl, colsL_len]; omega
    clear hl
    cases gk with
    | zero =>
      obtain rfl : k = N := by omega
      obtain ⟨m, hm⟩ : ∃ m, m = k - 1 := ⟨_, rfl⟩
      clear hlen
      go_wp2_with fail
      go_loopg [3, 5] m (fun g t jv wr => ∃ (j : Nat) (l : List UInt8), 1 ≤ j ∧ j + g = k ∧ jv = .int .i64 j ∧ t = .string ⟨l.toArray⟩ ∧ l = colsL R B k ++ rowsL L j ∧ Below W.heap.size W wr ∧ FieldIn wr W.heap.size k L R B)
      case atStart => exact ⟨1, l, by omega, by omega, rfl, rfl, by rw [HL.out, rowsL_one, List.append_nil], HBR0.out, HXR0.out⟩
      case round =>
        clear X0 X1 X2 X3
        obtain ⟨j, l2, hj1, hjg, rfl, rfl, hl, hBr, hXr⟩ := hrel
        have HL2 := hide hl
        have HBR := hide hBr
        have HXR := hide hXr
        obtain ⟨X0, X1, X2, X3⟩ := hXr
        have hlen : l2.length ≤ 90 := by
          rw [hl, List.length_append, colsL_len]
          have := rowsL_len L j (by omega)
          omega
        clear hl hBr
        cases gk with
        | zero =>
          obtain rfl : j = k := by omega
          have hfin : Hid (r = l2) := hide (by rw [HR.out, HL2.out, HTX.out])
          clear hlen
          go_wp2_with fail
          go_ret
          exact ⟨by rw [hfin.out]; rfl, HBR.out⟩
        | succ g =>
          have hjk : (j : Int) < (k : Int) := by omega
          have hadd : ∀ w' : World, (Op.stringOp .add ⟨l2.toArray⟩ ⟨#[44]⟩).run Try.prog w' = .ok (.string ⟨(l2 ++ [44]).toArray⟩) w' := fun w' => run_string_add_lists w' l2 [44] (by omega) (by simp)
          have HLE := hide hlen
          clear hlen
          go_wp2_with fail
          clear hadd X0 X1 X2 X3
          go_loopg [3, 6] j (fun g t iv wr => ∃ (i : Nat) (l : List UInt8), i + g = j ∧ iv = .int .i64 i ∧ t = .string ⟨l.toArray⟩ ∧ l = (colsL R B k ++ rowsL L j) ++ 44 :: rowL L j i ∧ Below W.heap.size W wr ∧ FieldIn wr W.heap.size k L R B)
          case atStart => exact ⟨0, l2 ++ [44], by omega, rfl, rfl, by rw [HL2.out]; rfl, HBR.out, HXR.out⟩
          case round =>
            clear HBR HXR
            obtain ⟨i, l3, hig, rfl, rfl, hl, hBr, hXr⟩ := hrel
            have HL3 := hide hl
            have HBR := hide hBr
            have HXR := hide hXr
            obtain ⟨X0, X1, X2, X3⟩ := hXr
            have hlen : l3.length ≤ 100 := by
              have h1 := HLE.out
              rw [HL2.out] at h1
              rw [hl, List.length_append, List.length_cons, rowL_len]
              omega
            clear hl hBr
            cases gk with
            | zero =>
              obtain rfl : i = j := by omega
              have hrs := hide (rowsL_succ L hj1)
              have hln : Hid (l3 = colsL R B k ++ rowsL L (i + 1)) := hide (by rw [HL3.out, hrs.out, List.append_assoc])
              clear hlen
              go_wp2_with fail
              go_roundg g
              case rel => exact ⟨i + 1, l3, by omega, by omega, by go_num, rfl, hln.out, HBR.out, HXR.out⟩
              case measure => omega
            | succ g2 =>
              have hij : (i : Int) < (j : Int) := by omega
              cases hd : jn L i j
              · have hsg : Hid (rowL L j (i + 1) = rowL L j i ++ [48]) := hide (by rw [rowL_succ]; simp [jb, hd])
                have HD := hide hd
                have hadd : ∀ w' : World, (Op.stringOp .add ⟨l3.toArray⟩ ⟨#[48]⟩).run Try.prog w' = .ok (.string ⟨(l3 ++ [48]).toArray⟩) w' := fun w' => run_string_add_lists w' l3 [48] (by omega) (by simp)
                have hln : Hid (l3 ++ [48] = (colsL R B k ++ rowsL L j) ++ 44 :: rowL L j (i + 1)) := hide (by rw [HL3.out, hsg.out]; simp)
                clear hd
                go_wp2_with fail
                refine (specJoined_any k L R B i j k2 k3 (by omega) (by omega) (by omega) (by omega) (by omega) _).mono ?_
                rw [HD.out]
                rintro e w8 ⟨rfl, hb8⟩
                have hB8 := hide (Below.trans' HBR.out hb8)
                have hX8 := hide (HXR.out.keep hb8)
                clear hb8 X0 X1 X2 X3 hlen
                go_wp2_with fail
                go_roundg g2
                case rel => exact ⟨i + 1, l3 ++ [48], by omega, by go_num, rfl, hln.out, hB8.out, hX8.out⟩
                case measure => omega
              · have hsg : Hid (rowL L j (i + 1) = rowL L j i ++ [49]) := hide (by rw [rowL_succ]; simp [jb, hd])
                have HD := hide hd
                have hadd : ∀ w' : World, (Op.stringOp .add ⟨l3.toArray⟩ ⟨#[49]⟩).run Try.prog w' = .ok (.string ⟨(l3 ++ [49]).toArray⟩) w' := fun w' => run_string_add_lists w' l3 [49] (by omega) (by simp)
                have hln : Hid (l3 ++ [49] = (colsL R B k ++ rowsL L j) ++ 44 :: rowL L j (i + 1)) := hide (by rw [HL3.out, hsg.out]; simp)
                clear hd
                go_wp2_with fail
                refine (specJoined_any k L R B i j k2 k3 (by omega) (by omega) (by omega) (by omega) (by omega) _).mono ?_
                rw [HD.out]
                rintro e w8 ⟨rfl, hb8⟩
                have hB8 := hide (Below.trans' HBR.out hb8)
                have hX8 := hide (HXR.out.keep hb8)
                clear hb8 X0 X1 X2 X3 hlen
                go_wp2_with fail
                go_roundg g2
                case rel => exact ⟨i + 1, l3 ++ [49], by omega, by go_num, rfl, hln.out, hB8.out, hX8.out⟩
                case measure => omega
    | succ g =>
      have hkn : (k : Int) < (N : Int) := by omega
      have hrd := dg_walkL (E := R) (k := (k : Int)) k4 (by omega)
      have hbd := dg_walkL (E := B) (k := (k : Int)) k6 (by omega)
      rw [Int.toNat_natCast] at hrd hbd
      have hku := u64_small (show (0 : Int) ≤ (k : Int) by omega) (by omega)
      cases hdr : drawn R (k : Int)
      · rw [dg_of_free hdr] at hrd
        cases hdb : drawn B (k : Int)
        · rw [dg_of_free hdb] at hbd
          have hsg : Hid (colsL R B (k + 1) = colsL R B k ++ [46]) := hide (by rw [colsL_succ]; simp only [cb, cl_none hdr hdb]; rfl)
          have hadd : ∀ w' : World, (Op.stringOp .add ⟨l.toArray⟩ ⟨#[46]⟩).run Try.prog w' = .ok (.string ⟨(l ++ [46]).toArray⟩) w' := fun w' => run_string_add_lists w' l [46] (by omega) (by simp)
          have hln : Hid (l ++ [46] = colsL R B (k + 1)) := hide (by rw [HL.out, hsg.out])
          clear hdr hdb hlen
          go_wp2_with fail
          go_roundg g
          case rel => exact ⟨k + 1, l ++ [46], by omega, by go_num, rfl, hln.out, HBR0.out, HXR0.out⟩
          case measure => omega
        · rw [dg_of_drawn hdb] at hbd
          have hsg : Hid (colsL R B (k + 1) = colsL R B k ++ [98]) := hide (by rw [colsL_succ]; simp only [cb, cl_blue hdr hdb]; rfl)
          have hadd : ∀ w' : World, (Op.stringOp .add ⟨l.toArray⟩ ⟨#[98]⟩).run Try.prog w' = .ok (.string ⟨(l ++ [98]).toArray⟩) w' := fun w' => run_string_add_lists w' l [98] (by omega) (by simp)
          have hln : Hid (l ++ [98] = colsL R B (k + 1)) := hide (by rw [HL.out, hsg.out])
          clear hdr hdb hlen
          go_wp2_with fail
          go_roundg g
          case rel => exact ⟨k + 1, l ++ [98], by omega, by go_num, rfl, hln.out, HBR0.out, HXR0.out⟩
          case measure => omega
      · rw [dg_of_drawn hdr] at hrd
        have hdb := hdr
        have hsg : Hid (colsL R B (k + 1) = colsL R B k ++ [114]) := hide (by rw [colsL_succ]; simp only [cb, cl_red hdr]; rfl)
        have hadd : ∀ w' : World, (Op.stringOp .add ⟨l.toArray⟩ ⟨#[114]⟩).run Try.prog w' = .ok (.string ⟨(l ++ [114]).toArray⟩) w' := fun w' => run_string_add_lists w' l [114] (by omega) (by simp)
        have hln : Hid (l ++ [114] = colsL R B (k + 1)) := hide (by rw [HL.out, hsg.out])
        clear hdr hdb hlen
        go_wp2_with fail
        go_roundg g
        case rel => exact ⟨k + 1, l ++ [114], by omega, by go_num, rfl, hln.out, HBR0.out, HXR0.out⟩
        case measure => omega

set_option maxRecDepth 100000 in
set_option maxHeartbeats 1000000 in
theorem specText_any (n L R B : Int) (W : World) : Calls Try.prog 4 #[.agg #[.int .i64 n, .int .i64 L, .int .i64 R, .int .i64 B]] W (RetB (txtV (txtR n L R B)) W) := by
  obtain ⟨r, hr⟩ : ∃ r, r = txtR n L R B := ⟨_, rfl⟩
  rw [← hr]
  unfold txtR at hr
  have hB0 := hide (below_alloc W (.cells #[.int .i64 n, .int .i64 L, .int .i64 R, .int .i64 B] 26))
  have hX0 := hide (fieldIn_new W n L R B 26)
  obtain ⟨X0, X1, X2, X3⟩ := hX0.out
  cases hb : okF n L R B
  · have HR : Hid (r = ([], 1)) := hide (by rw [hr, hb]; rfl)
    have HB := hide hb
    clear hb hr
    go_enter Try.func4, Try.ntmps4
    go_wp2_with fail
    refine (specIs_is HB.out _).mono ?_
    rintro e w1 ⟨rfl, hb1⟩
    (try clear X0 X1 X2 X3)
    have hX1 := hide (hX0.out.keep hb1)
    obtain ⟨X0, X1, X2, X3⟩ := hX1.out
    have hB1 := hide (Below.trans' hB0.out hb1)
    clear hb1
    go_wp2_with fail
    go_ret2
    exact ⟨by rw [HR.out]; rfl, hB1.out⟩
  · have HR : Hid (r = (textL n L R B, 0)) := hide (by rw [hr, hb]; rfl)
    have HB := hide hb
    obtain ⟨l, hl⟩ : ∃ l, l = textL n L R B := ⟨_, rfl⟩
    have HT : Hid (∀ V : World, Calls Try.prog 8 #[.agg #[.int .i64 n, .int .i64 L, .int .i64 R, .int .i64 B]] V (RetB (.string ⟨l.toArray⟩) V)) := hide (fun V => by rw [hl]; exact specTxt_any n L R B HB.out V)
    rw [← hl] at HR
    clear hb hr hl
    go_enter Try.func4, Try.ntmps4
    go_wp2_with fail
    refine (specIs_is HB.out _).mono ?_
    rintro e w1 ⟨rfl, hb1⟩
    (try clear X0 X1 X2 X3)
    have hX1 := hide (hX0.out.keep hb1)
    obtain ⟨X0, X1, X2, X3⟩ := hX1.out
    have hB1 := hide (Below.trans' hB0.out hb1)
    clear hb1
    go_wp2_with fail
    refine (HT.out _).mono ?_
    rintro e w2 ⟨rfl, hb2⟩
    (try clear X0 X1 X2 X3)
    have hX2 := hide (hX1.out.keep hb2)
    obtain ⟨X0, X1, X2, X3⟩ := hX2.out
    have hB2 := hide (Below.trans' hB1.out hb2)
    clear hb2
    go_wp2_with fail
    go_ret2
    exact ⟨by rw [HR.out]; rfl, hB2.out⟩
end Go.Proofs.Ytdimmlpnfghndab
