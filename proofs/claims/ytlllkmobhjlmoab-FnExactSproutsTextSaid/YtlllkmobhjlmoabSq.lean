/-
  Sprouts positions: what one is, the model's text.
-/
import Derived.Test.YtlllkmobhjlmoabSp
import Derived.Deep.LoopGhost
import Derived.Deep.RegionWith
import Derived.Deep.Cut
import Derived.Deep.DeepCutAuto
namespace Go.Proofs.Ytlllkmobhjlmoab
open Go.RowKit
set_option linter.unusedVariables false

def inn (n lo hi : Int) : Bool := decide (lo ≤ n) && decide (n ≤ hi)
set_option maxHeartbeats 400000 in
theorem inn_any (n lo hi : Int) (W : World) : Calls Try.prog 32 #[.int .i64 n, .int .i64 lo, .int .i64 hi] W (RetB (.bool (inn n lo hi)) W) := by
  by_cases h1 : lo ≤ n
  · by_cases h2 : n ≤ hi
    · go_enter Try.func32, Try.ntmps32
      go_wp2
      go_ret
      exact ⟨ret_bool (by simp [inn, h1, h2]), Below.refl _ _⟩
    · go_enter Try.func32, Try.ntmps32
      go_wp2
      go_ret
      exact ⟨ret_bool (by simp [inn, h2]), Below.refl _ _⟩
  · go_enter Try.func32, Try.ntmps32
    go_wp2
    go_ret
    exact ⟨ret_bool (by simp [inn]; omega), Below.refl _ _⟩
theorem inn_is {b : Bool} (n lo hi : Int) (h : inn n lo hi = b) (W : World) : Calls Try.prog 32 #[.int .i64 n, .int .i64 lo, .int .i64 hi] W (RetB (.bool b) W) := by
  rw [← h]
  exact inn_any n lo hi W
theorem cts_one (V W0 : World) (S : Nat) (hV : Below W0.heap.size W0 V) : CtsAt W0.heap.size V.heap.size (V.heap.size + 1) S (Cts.zero S) W0 ((V.alloc (.cells (madeCells #[.int .i64 0] S) 2)).alloc (.cells (madeCells #[.bool false] S) 4)) := by
  refine ⟨?_, ?_, by simp [Cts.zero], by simp [Cts.zero], Below.alloc' (Below.alloc' hV _) _, hV.size, by have := hV.size; omega, by omega⟩
  · exact ((World.rowIs_made V (.int .i64 0) S 2).alloc _).congr (fun i hi => by simp [plV, Cts.zero, hi])
  · have h := World.rowIs_made (V.alloc (.cells (madeCells #[.int .i64 0] S) 2)) (.bool false) S 4
    rw [show (V.alloc (.cells (madeCells #[.int .i64 0] S) 2)).heap.size = V.heap.size + 1 by simp] at h
    exact h.congr (fun i hi => by simp [alV, Cts.zero, hi])
theorem cts_two (V W0 : World) (S : Nat) (hV : Below W0.heap.size W0 V) : CtsAt W0.heap.size (V.heap.size + 1) V.heap.size S (Cts.zero S) W0 ((V.alloc (.cells (madeCells #[.bool false] S) 4)).alloc (.cells (madeCells #[.int .i64 0] S) 2)) := by
  refine ⟨?_, ?_, by simp [Cts.zero], by simp [Cts.zero], Below.alloc' (Below.alloc' hV _) _, by have := hV.size; omega, hV.size, by omega⟩
  · have h := World.rowIs_made (V.alloc (.cells (madeCells #[.bool false] S) 4)) (.int .i64 0) S 2
    rw [show (V.alloc (.cells (madeCells #[.bool false] S) 4)).heap.size = V.heap.size + 1 by simp] at h
    exact h.congr (fun i hi => by simp [plV, Cts.zero, hi])
  · exact ((World.rowIs_made V (.bool false) S 4).alloc _).congr (fun i hi => by simp [alV, Cts.zero, hi])
theorem info_bool : (Try.prog.info? 4).map (fun i => (i.zero, i.size, i.bytes)) = some (some (.bool false), 1, 1) := by kernel_rfl

/-- What the model hands back: nothing, or the row of degrees. -/
def DegPost (r : Option Cts) (s : Nat) (W : World) (e : Ending) (w' : World) : Prop := Below W.heap.size W w' ∧ match r with
  | none => e = .returned (.tuple #[.slice none 0 0, .bool false])
  | some st => ∃ b, W.heap.size ≤ b ∧ e = .returned (.tuple #[.slice (some ⟨b, 0, none⟩) s s, .bool true]) ∧ w'.rowIs b 2 s (fun i => .int .i64 (degC st s i))
theorem DegPost.no {r : Option Cts} {s : Nat} {W w' : World} (h : r = none) (hb : Below W.heap.size W w') : DegPost r s W (.returned (.tuple #[.slice none 0 0, .bool false])) w' := by
  subst h
  exact ⟨hb, rfl⟩
theorem DegPost.yes {r : Option Cts} {st : Cts} {s b : Nat} {W w' : World} (h : r = some st) (hb : Below W.heap.size W w') (hm : W.heap.size ≤ b) (hr : w'.rowIs b 2 s (fun i => .int .i64 (degC st s i))) : DegPost r s W (.returned (.tuple #[.slice (some ⟨b, 0, none⟩) s s, .bool true])) w' := by
  subst h
  exact ⟨hb, b, hm, rfl, hr⟩
theorem sprC_reg {S : Nat} {X : List (List (List Int))} (h1 : 1 ≤ S) (h2 : S ≤ 20) (h3 : 1 ≤ X.length) : sprC S X = (regC S (Cts.zero S) X).bind fun st => if okFrom st S 0 = true then some st else none := by
  unfold sprC
  rw [if_pos ⟨by omega, by omega, h3⟩, Int.toNat_natCast]
theorem sprC_no {s : Int} {X : List (List (List Int))} (h : ¬ (1 ≤ s ∧ s ≤ 20 ∧ 1 ≤ X.length)) : sprC s X = none := by
  unfold sprC
  rw [if_neg h]

set_option maxRecDepth 100000 in
set_option maxHeartbeats 4000000 in
theorem specDeg_any (s : Int) (a : Option Addr) (c : Nat) (X : List (List (List Int))) (W : World) (ha : CubeAt W a X) (hs : Small3 X) :
    Calls Try.prog 20 #[.agg #[.int .i64 s, .slice a X.length c]] W (DegPost (sprC s X) s.toNat W) := by
  obtain ⟨rp, hrp⟩ : ∃ rp, rp = sprC s X := ⟨_, rfl⟩
  rw [← hrp]
  have HRP := hide hrp
  clear hrp
  have hl := hs.1
  obtain ⟨W0, hW0⟩ : ∃ W0, W0 = W.alloc (.cells #[.int .i64 s, .slice a X.length c] 29) := ⟨_, rfl⟩
  have hB0 : Hid (Below W.heap.size W W0) := by rw [hW0]; exact hide (below_alloc _ _)
  have hX0 : Hid (W0.cell? ⟨W.heap.size, 0, none⟩ = some (.int .i64 s)) := by rw [hW0]; exact hide (by simp [go_sem])
  have hX1 : Hid (W0.cell? ⟨W.heap.size, 1, none⟩ = some (.slice a X.length c)) := by rw [hW0]; exact hide (by simp [go_sem])
  have HA0 := hide (ha.keep hB0.out)
  have c0 := hX0.out
  have c1 := hX1.out
  clear ha
  by_cases hs1 : 1 ≤ s ∧ s ≤ 20
  · obtain ⟨S, hS⟩ : ∃ S : Nat, s = S := ⟨s.toNat, by omega⟩
    subst hS
    have HI : Hid (inn S 1 20 = true) := hide (by unfold inn; rw [decide_eq_true (by omega), decide_eq_true (by omega)]; rfl)
    by_cases hx : X.length < 1
    · have hno : Hid (rp = none) := hide (by rw [HRP.out, sprC_no (by omega)])
      go_enter Try.func20, Try.ntmps20
      go_wp2_with fail
      rw [← hW0]
      clear hW0
      refine (inn_is _ _ _ HI.out _).mono ?_
      rintro e V ⟨rfl, hb1⟩
      have d0 := cell_keep hb1 c0
      have d1 := cell_keep hb1 c1
      have hbf := hide (Below.trans' hB0.out hb1)
      clear c0 c1 hb1
      go_wp2_with fail
      go_ret2
      exact DegPost.no hno.out hbf.out
    · have hmk1 := run_make_row' (P := Try.prog) 26 2 (.int .i64 0) 8 Try.underlying26 Try.info2 rfl .i64 .i64 S (by omega) (by omega)
      have hmk2 := run_make_row' (P := Try.prog) 56 4 (.bool false) 1 Try.underlying56 info_bool rfl .i64 .i64 S (by omega) (by omega)
      have hS1 : 1 ≤ S := by omega
      have hS20 : S ≤ 20 := by omega
      have hx1 : 1 ≤ X.length := by omega
      clear hs1
      go_enter Try.func20, Try.ntmps20
      go_wp2_with fail
      rw [← hW0]
      clear hW0
      refine (inn_is _ _ _ HI.out _).mono ?_
      rintro e V ⟨rfl, hb1⟩
      replace hB0 := hide (Below.trans' hB0.out hb1)
      replace hX0 := hide (cell_keep hb1 hX0.out)
      replace hX1 := hide (cell_keep hb1 hX1.out)
      replace HA0 := hide (HA0.out.keep hb1)
      clear hb1 c0 c1
      have c0 := hX0.out
      have c1 := hX1.out
      go_upto_region 3 with fail
      have hd : Below V.heap.size V V.drew := Below.drew (Below.refl _ _)
      have hbel : Below V.heap.size V V := Below.refl _ _
      have HS : Hid (∀ W' : World, Below V.heap.size V W' → W'.cell? ⟨W.heap.size, 0, none⟩ = some (.int .i64 S)) := hide (fun W' h => cell_keep h c0)
      clear c0 c1
      go_cut [4, 5] (fun s t wx => ∃ mp ma : Nat, s = .slice (some ⟨mp, 0, none⟩) S S ∧ t = .slice (some ⟨ma, 0, none⟩) S S ∧ CtsAt V.heap.size mp ma S (Cts.zero S) V wx)
      case first =>
        go_region_held3 (fun W' => W'.cell? ⟨W.heap.size, 0, none⟩ = some (.int .i64 S)) (first | (refine HS.out _ ?_; (with_reducible (repeat (first | exact hbel | exact hd | refine Below.drew ?_ | refine Below.alloc' ?_ _ | refine Below.setCell ?_ (by first | exact Nat.le_refl _ | (simp; omega)) _))))) (fail)
        all_goals
          go_wp2_with fail
          go_meet
          first | exact ⟨_, _, rfl, rfl, (cts_one V V S hbel).keep (Below.drew (Below.refl _ _))⟩ | exact ⟨_, _, rfl, rfl, (cts_two V V S hbel).keep (Below.drew (Below.refl _ _))⟩ | exact ⟨_, _, rfl, rfl, cts_one V V S hbel⟩ | exact ⟨_, _, rfl, rfl, cts_two V V S hbel⟩
      case rest =>
        obtain ⟨mp, ma, rfl, rfl, hC0⟩ := hcut
        have HC0 := hide hC0
        obtain ⟨n, hn⟩ : ∃ n, n = X.length := ⟨_, rfl⟩
        have HN := hide hn
        rw [← hn] at hX1 hx1 hl
        obtain ⟨rr, hrr⟩ : ∃ rr, rr = regC S (Cts.zero S) X := ⟨_, rfl⟩
        have HRR := hide hrr
        have HRQ : Hid (rp = rr.bind fun st => if okFrom st S 0 = true then some st else none) := hide (by rw [HRP.out, hrr]; exact sprC_reg hS1 hS20 (by rw [← HN.out]; exact hx1))
        have HSM := hide hs
        clear hC0 hn hrr hs hmk1 hmk2 hbel hd HS
        go_wp2_with fail
        go_loopg [6] n (fun g iv wr => ∃ (k : Nat) (st : Cts), k + g = n ∧ iv = .int .i64 k ∧ Hid (CtsAt V.heap.size mp ma S st V wr) ∧ Hid (regC S st (X.drop k) = rr))
        case atStart => exact ⟨0, _, by omega, rfl, HC0, hide (by rw [List.drop_zero]; exact HRR.out.symm)⟩
        case round =>
          clear HC0
          obtain ⟨k, st, hkg, rfl, hC, hR⟩ := hrel
          have hBl := hide (hC.out.old)
          have c0 := cell_keep hBl.out hX0.out
          have c1 := cell_keep hBl.out hX1.out
          cases gk with
          | zero =>
            obtain rfl : k = n := by omega
            have hrs : Hid (rr = some st) := hide (by have h := hR.out; rw [HN.out, List.drop_length] at h; exact h.symm)
            have hC1 : Hid (CtsAt V.heap.size mp ma S (dgS st S 0) V wr) := hide (by rw [dgS_zero hC.out.lp]; exact hC.out)
            clear hR
            go_wp2_with fail
            clear c0 c1 hC
            obtain ⟨wq, hwq⟩ : ∃ wq : World, wq = wr := ⟨_, rfl⟩
            go_loopg [10] S (fun g iv wr => ∃ q : Nat, q + g = S ∧ iv = .int .i64 q ∧ Hid (CtsAt V.heap.size mp ma S (dgS st S q) V wr) ∧ Hid (okFrom st S q = okFrom st S 0))
            case atStart => exact ⟨0, by omega, rfl, hC1, hide rfl⟩
            case round =>
              clear hC1
              obtain ⟨q, hqg, rfl, hC, hO⟩ := hrel
              cases gk with
              | zero =>
                obtain rfl : q = S := by omega
                have hyes : Hid (rp = some st) := hide (by rw [HRQ.out, hrs.out]; show (if okFrom st q 0 = true then some st else none) = some st; rw [← hO.out, okFrom_end]; rfl)
                have hbp := hide (Below.trans' hB0.out hC.out.old)
                have hbm : Hid (W.heap.size ≤ mp) := hide (Nat.le_trans hB0.out.size hC.out.bp)
                go_wp2_with fail
                go_ret2
                exact DegPost.yes hyes.out hbp.out hbm.out (hC.out.p.congr (fun i hi => by unfold plV; rw [dgS_at hi]; rfl))
              | succ g2 =>
                have hqS : q < S := by omega
                obtain ⟨d1, d2⟩ := hC.out.cellP hqS
                obtain ⟨e1, e2⟩ := hC.out.cellA hqS
                rw [dgS_at hqS, degC_self] at d1
                rw [show (dgS st S q).A = st.A from rfl] at e1
                obtain ⟨v, hv⟩ : ∃ v, v = st.P.getD q 0 := ⟨_, rfl⟩
                obtain ⟨av, hav⟩ : ∃ av, av = st.A.getD q false := ⟨_, rfl⟩
                rw [← hv] at d1
                rw [← hav] at e1
                have HV := hide hv
                have HAV := hide hav
                clear hv hav
                by_cases hv1 : v < 1
                ·
                  have hbp := hide (Below.trans' hB0.out hC.out.old)
                  have hno : Hid (rp = none) := hide (by rw [HRQ.out, hrs.out]; show (if okFrom st S 0 = true then some st else none) = none; rw [← hO.out, okFrom_no hqS (badC_low (by rw [← HV.out]; exact hv1))]; rfl)
                  go_wp2_with fail
                  go_ret2
                  exact DegPost.no hno.out hbp.out
                · by_cases hv3 : 3 < v
                  ·
                    have hbp := hide (Below.trans' hB0.out hC.out.old)
                    have hno : Hid (rp = none) := hide (by rw [HRQ.out, hrs.out]; show (if okFrom st S 0 = true then some st else none) = none; rw [← hO.out, okFrom_no hqS (badC_high (by rw [← HV.out]; exact hv3))]; rfl)
                    go_wp2_with fail
                    go_ret2
                    exact DegPost.no hno.out hbp.out
                  · cases av
                    · have hgo : Hid (okFrom st S (q + 1) = okFrom st S 0) := hide (by rw [← hO.out, okFrom_go hqS (badC_ok (by rw [← HV.out]; exact hv1) (by rw [← HV.out]; exact hv3) (by rw [← HAV.out]; simp))])
                      have hC2 : Hid (CtsAt V.heap.size mp ma S (dgS st S (q + 1)) V wr) := hide (by rw [← dgS_no (S := S) HAV.out.symm]; exact hC.out)
                      clear hC
                      go_wp2_with fail
                      go_roundg g2
                      case rel => exact ⟨q + 1, by omega, by go_num, hC2, hgo⟩
                      case measure => omega
                    · by_cases hv2 : 1 < v
                      ·
                        have hbp := hide (Below.trans' hB0.out hC.out.old)
                        have hno : Hid (rp = none) := hide (by rw [HRQ.out, hrs.out]; show (if okFrom st S 0 = true then some st else none) = none; rw [← hO.out, okFrom_no hqS (badC_alone HAV.out.symm (by rw [← HV.out]; exact hv2))]; rfl)
                        go_wp2_with fail
                        go_ret2
                        exact DegPost.no hno.out hbp.out
                      · have hgo : Hid (okFrom st S (q + 1) = okFrom st S 0) := hide (by rw [← hO.out, okFrom_go hqS (badC_ok (by rw [← HV.out]; exact hv1) (by rw [← HV.out]; exact hv3) (fun _ => by rw [← HV.out]; exact hv2))])
                        have hC4 : Hid (CtsAt V.heap.size mp ma S (dgS st S (q + 1)) V (wr.setCell ⟨mp, q, none⟩ (.int .i64 0))) := hide (by rw [← dgS_yes hqS HAV.out.symm]; exact hC.out.setP hqS 0)
                        go_wp2_with fail
                        go_roundg g2
                        case rel => exact ⟨q + 1, by omega, by go_num, hC4, hgo⟩
                        case measure => omega
          | succ g =>
            have hkn : k < X.length := by rw [← HN.out]; omega
            obtain ⟨b1, o1, a1, cc1, xss, e0, hcell1, hz1, hg1⟩ := HA0.out.one hkn
            subst e0
            have HZ1 := hide hz1
            have HC1 := hide hcell1
            obtain ⟨m, hm⟩ : ∃ m, m = xss.length := ⟨_, rfl⟩
            have HM := hide hm
            rw [← hm] at HC1
            have hSx := hide (HSM.out.2.2 xss (mem_of_get hg1.out))
            have hmB : m ≤ 1048576 := by rw [hm]; exact hSx.out.1
            have hkn2 : k < n := by omega
            obtain ⟨K2, hK2⟩ : ∃ K2 : Cts → Option Cts, K2 = fun st' => regC S st' (X.drop (k + 1)) := ⟨_, rfl⟩
            have hR2 : Hid ((bndC S st (xss.drop 0)).bind K2 = rr) := hide (by rw [List.drop_zero, hK2, ← hR.out, drop_of_get hg1.out]; rfl)
            clear hz1 hcell1 hm hkn
            go_wp2_with fail
            clear c0 c1
            obtain ⟨wq, hwq⟩ : ∃ wq : World, wq = wr := ⟨_, rfl⟩
            go_loopg [7] m (fun g iv wr => ∃ (j : Nat) (st : Cts), j + g = m ∧ iv = .int .i64 j ∧ Hid (CtsAt V.heap.size mp ma S st V wr) ∧ Hid ((bndC S st (xss.drop j)).bind K2 = rr))
            case atStart => exact ⟨0, _, by omega, rfl, hC, hR2⟩
            case round =>
              clear hR2 hC hR
              obtain ⟨j, st2, hjg, rfl, hC, hR⟩ := hrel
              have hBl := hide (hC.out.old)
              have c0 := cell_keep hBl.out hX0.out
              have c1 := cell_keep hBl.out hX1.out
              have c2 := cell_keep hBl.out HC1.out
              cases gk with
              | zero =>
                obtain rfl : j = m := by omega
                have hfin : Hid (regC S st2 (X.drop (k + 1)) = rr) := hide (by have h := hR.out; rw [HM.out, List.drop_length, hK2] at h; exact h)
                clear hK2
                go_wp2_with fail
                go_roundg g
                case rel => exact ⟨k + 1, st2, by omega, by go_num, hC, hfin⟩
                case measure => omega
              | succ g2 =>
                have hjm : j < xss.length := by rw [← HM.out]; omega
                obtain ⟨b2, o2, a2, cc2, zs, e0, hcell2, hz2, hg2⟩ := HZ1.out.one hjm
                subst e0
                have HZ2 := hide hz2
                have c3 := cell_keep hBl.out hcell2
                obtain ⟨l, hl2⟩ : ∃ l, l = zs.length := ⟨_, rfl⟩
                have HL := hide hl2
                rw [← hl2] at c3
                have hlB : l ≤ 1048576 := by rw [hl2]; exact hSx.out.2 _ (mem_of_get hg2.out)
                have hR3 := hR.out
                rw [drop_of_get hg2.out] at hR3
                have HR3 := hide hR3
                have hjm2 : j < m := by omega
                clear hz2 hcell2 hR3 hjm hR
                by_cases h0 : l < 1
                · have hno : Hid (rr = none) := hide (by rw [← HR3.out, bnd_no (by rw [← hl2]; exact h0)]; rfl)
                  have hbf := hide (Below.trans' hB0.out hBl.out)
                  clear hl2 hK2
                  go_wp2_with fail
                  go_ret2
                  exact DegPost.no (by rw [HRQ.out, hno.out]; rfl) hbf.out
                · obtain ⟨K3, hK3⟩ : ∃ K3 : Cts → Option Cts, K3 = fun st' => (bndC S st' (xss.drop (j + 1))).bind K2 := ⟨_, rfl⟩
                  obtain ⟨f, hf⟩ : ∃ f, f = decide (l = 1) := ⟨_, rfl⟩
                  have hR4 : Hid ((spotsC S f st2 (zs.drop 0)).bind K3 = rr) := hide (by
                    have h := HR3.out
                    rw [bnd_go (by rw [← hl2]; exact h0), ← hl2, ← hf] at h
                    rw [List.drop_zero, ← h, hK3, Option.bind_assoc])
                  have HF := hide hf
                  clear hK2 hl2 hf
                  go_wp2_with fail
                  clear c0 c1 c2 c3
                  obtain ⟨wq2, hwq2⟩ : ∃ wq : World, wq = wr := ⟨_, rfl⟩
                  go_loopg [9] l (fun g iv wr => ∃ (i : Nat) (st : Cts), i + g = l ∧ iv = .int .i64 i ∧ Hid (CtsAt V.heap.size mp ma S st V wr) ∧ Hid ((spotsC S f st (zs.drop i)).bind K3 = rr))
                  case atStart => exact ⟨0, _, by omega, rfl, hC, hR4⟩
                  case round =>
                    clear hR4 hC HR3
                    obtain ⟨i, st3, hig, rfl, hC, hR⟩ := hrel
                    have hBl := hide (hC.out.old)
                    have c0 := cell_keep hBl.out hX0.out
                    have c1 := cell_keep hBl.out hX1.out
                    cases gk with
                    | zero =>
                      obtain rfl : i = l := by omega
                      have hfin : Hid ((bndC S st3 (xss.drop (j + 1))).bind K2 = rr) := hide (by have h := hR.out; rw [HL.out, List.drop_length, hK3] at h; exact h)
                      clear hK3
                      go_wp2_with fail
                      go_roundg g2
                      case rel => exact ⟨j + 1, st3, by omega, by go_num, hC, hfin⟩
                      case measure => omega
                    | succ g3 =>
                      have hil : i < zs.length := by rw [← HL.out]; omega
                      obtain ⟨b3, o3, z, e0, hcell3, hg3⟩ := HZ2.out.one hil
                      subst e0
                      have c4 := cell_keep hBl.out hcell3
                      have HC3 := hide hcell3
                      have hR5 := hR.out
                      rw [drop_of_get hg3.out] at hR5
                      have HR5 := hide hR5
                      clear hcell3 hR5 hil hR hK3
                      have q0 : ∀ p : Past wr, p.to.cell? ⟨W.heap.size, 0, none⟩ = some (.int .i64 S) := fun p => p.cell c0
                      have q4 : ∀ p : Past wr, p.to.cell? ⟨b3, o3 + i, none⟩ = some (.int .i64 z) := fun p => p.cell c4
                      by_cases hz : 0 ≤ z ∧ z ≤ (S : Int) - 1
                      · obtain ⟨Z, rfl⟩ : ∃ Z : Nat, z = Z := ⟨z.toNat, by omega⟩
                        have hZS : Z < S := by omega
                        have HI2 : Hid (inn Z 0 ((S : Int) - 1) = true) := hide (by unfold inn; rw [decide_eq_true (by omega), decide_eq_true (by omega)]; rfl)
                        have HR6 : Hid ((spotsC S f (st3.put Z f) (zs.drop (i + 1))).bind K3 = rr) := hide (by rw [← HR5.out, spots_go (by omega) (by omega)])
                        clear hz HR5
                        go_wp2_with fail
                        refine wp_region_past (by kernel_rfl) (by kernel_rfl) ?_
                        repeat (first | go_big_quiet_step ((go_at_call 32; (with_reducible exact ret_past (inn_is _ _ _ HI2.out _)))) | quiet_step ((go_at_call 32; (with_reducible exact ret_past (inn_is _ _ _ HI2.out _)))))
                        refine wpQuiet_nil ?_
                        rintro _ ⟨pq, rfl⟩
                        obtain ⟨w5, hw5⟩ : ∃ w5, w5 = pq.to := ⟨_, rfl⟩
                        have hb5 : Below wr.heap.size wr w5 := by rw [hw5]; exact pq.old
                        rw [← hw5]
                        have hC5 := hide (hC.out.keep hb5)
                        have c5 := cell_keep hb5 c4
                        obtain ⟨d1, d2⟩ := hC5.out.cellP hZS
                        obtain ⟨v, hv⟩ : ∃ v, v = st3.P.getD Z 0 := ⟨_, rfl⟩
                        rw [← hv] at d1
                        have HV := hide hv
                        clear q0 q4 c0 c1 c4 hb5 hw5 hC hv
                        go_wp2_with fail
                        obtain ⟨w6, hw6⟩ : ∃ w6, w6 = w5.setCell ⟨mp, Z, none⟩ (.int .i64 (wrap64 (v + 1))) := ⟨_, rfl⟩
                        rw [← hw6]
                        have HC6 : Hid (CtsAt V.heap.size mp ma S ⟨st3.P.set Z (wrap64 (v + 1)), st3.A⟩ V w6) := by rw [hw6]; exact hide (hC5.out.setP hZS _)
                        clear hw6 d1 d2 c5
                        have c6 := cell_keep HC6.out.old HC3.out
                        obtain ⟨e1, e2⟩ := HC6.out.cellA hZS
                        obtain ⟨av, hav⟩ : ∃ av, av = st3.A.getD Z false := ⟨_, rfl⟩
                        rw [show (⟨st3.P.set Z (wrap64 (v + 1)), st3.A⟩ : Cts).A.getD Z false = av from hav.symm] at e1
                        have HAV := hide hav
                        have q4 : ∀ p : Past w6, p.to.cell? ⟨b3, o3 + i, none⟩ = some (.int .i64 Z) := fun p => p.cell c6
                        have q5 : ∀ p : Past w6, p.to.cell? ⟨ma, Z, none⟩ = some (.bool av) := fun p => p.cell e1
                        clear hav c6 e1 e2
                        have HFL : Hid (((l : Int) == 1) = f) := hide (by rw [HF.out]; by_cases h1 : l = 1 <;> simp [h1]; omega)
                        cases av
                        ·
                          refine wp_region_past_tail 18 (by kernel_rfl) (by kernel_rfl) ?_
                          simp only [List.take_succ_cons, List.take_zero, List.drop_succ_cons, List.drop_zero]
                          repeat (first | go_big_quiet_step (fail) | quiet_step (fail))
                          refine wpQuiet_nil ?_
                          rintro _ ⟨pq, rfl⟩
                          obtain ⟨w7, hw7⟩ : ∃ w7, w7 = pq.to := ⟨_, rfl⟩
                          have hb7 : Below w6.heap.size w6 w7 := by rw [hw7]; exact pq.old
                          rw [← hw7]
                          have HC7 := hide (HC6.out.keep hb7)
                          obtain ⟨e1, e2⟩ := HC7.out.cellA hZS
                          have HC8 := hide (HC7.out.setA hZS (false || f))
                          have hput : Hid ((⟨st3.P.set Z (wrap64 (v + 1)), st3.A.set Z (false || f)⟩ : Cts) = st3.put Z f) := hide (by unfold Cts.put; rw [Int.toNat_natCast, ← HV.out, ← HAV.out])
                          clear q4 q5 hb7 hw7 HC6 hC5
                          go_wp2_with fail
                          go_roundg g3
                          case rel => exact ⟨i + 1, st3.put Z f, by omega, by go_num, hide (by rw [← hput.out]; have h := HC8.out; (try rw [HFL.out]); exact h), HR6⟩
                          case measure => omega
                        ·
                          refine wp_region_past_tail 18 (by kernel_rfl) (by kernel_rfl) ?_
                          simp only [List.take_succ_cons, List.take_zero, List.drop_succ_cons, List.drop_zero]
                          repeat (first | go_big_quiet_step (fail) | quiet_step (fail))
                          refine wpQuiet_nil ?_
                          rintro _ ⟨pq, rfl⟩
                          obtain ⟨w7, hw7⟩ : ∃ w7, w7 = pq.to := ⟨_, rfl⟩
                          have hb7 : Below w6.heap.size w6 w7 := by rw [hw7]; exact pq.old
                          rw [← hw7]
                          have HC7 := hide (HC6.out.keep hb7)
                          obtain ⟨e1, e2⟩ := HC7.out.cellA hZS
                          have HC8 := hide (HC7.out.setA hZS (true || f))
                          have hput : Hid ((⟨st3.P.set Z (wrap64 (v + 1)), st3.A.set Z (true || f)⟩ : Cts) = st3.put Z f) := hide (by unfold Cts.put; rw [Int.toNat_natCast, ← HV.out, ← HAV.out])
                          clear q4 q5 hb7 hw7 HC6 hC5
                          go_wp2_with fail
                          go_roundg g3
                          case rel => exact ⟨i + 1, st3.put Z f, by omega, by go_num, hide (by rw [← hput.out]; have h := HC8.out; (try rw [HFL.out]); exact h), HR6⟩
                          case measure => omega
                      · have hno : Hid (rr = none) := hide (by rw [← HR5.out, spots_no (by omega)]; rfl)
                        have HI2 : Hid (inn z 0 ((S : Int) - 1) = false) := hide (by
                          rw [Bool.eq_false_iff]
                          intro h
                          unfold inn at h
                          rw [Bool.and_eq_true, decide_eq_true_eq, decide_eq_true_eq] at h
                          exact hz h)
                        have hbf := hide (Below.trans' hB0.out hBl.out)
                        clear hz HR5
                        go_wp2_with fail
                        refine wp_region_past (by kernel_rfl) (by kernel_rfl) ?_
                        repeat (first | go_big_quiet_step ((go_at_call 32; (with_reducible exact ret_past (inn_is _ _ _ HI2.out _)))) | quiet_step ((go_at_call 32; (with_reducible exact ret_past (inn_is _ _ _ HI2.out _)))))
                        refine wpQuiet_nil ?_
                        rintro _ ⟨pq, rfl⟩
                        have hbp := hide (Below.trans' hbf.out pq.old)
                        clear q0 q4 c0 c1 c4
                        go_wp2_with fail
                        go_ret2
                        exact DegPost.no (by rw [HRQ.out, hno.out]; rfl) hbp.out
  · have hno : Hid (rp = none) := hide (by rw [HRP.out, sprC_no (by omega)])
    have HI : Hid (inn s 1 20 = false) := hide (by
      rw [Bool.eq_false_iff]
      intro h
      unfold inn at h
      rw [Bool.and_eq_true, decide_eq_true_eq, decide_eq_true_eq] at h
      exact hs1 h)
    clear hs1
    go_enter Try.func20, Try.ntmps20
    go_wp2_with fail
    rw [← hW0]
    clear hW0
    refine (inn_is _ _ _ HI.out _).mono ?_
    rintro e V ⟨rfl, hb1⟩
    have hbf := hide (Below.trans' hB0.out hb1)
    clear c0 c1 hb1
    go_wp2_with fail
    go_ret2
    exact DegPost.no hno.out hbf.out
end Go.Proofs.Ytlllkmobhjlmoab
