/-
  Col and snort: ColourPoint, the model's text.
-/
import Derived.Test.YtdimmlpnfghndaaFk
namespace Go.Proofs.Ytdimmlpnfghndaa
open Go.RowKit
set_option linter.unusedVariables false

set_option maxRecDepth 100000 in
set_option maxHeartbeats 4000000 in
theorem specCP_any (n L R B game pl i : Int) (W : World) : Calls Try.prog 26 #[.agg #[.int .i64 n, .int .i64 L, .int .i64 R, .int .i64 B], .int .i64 game, .int .i64 pl, .int .i64 i] W (RetB (fcV (cpR n L R B game pl i)) W) := by
  obtain ⟨W0, hW0⟩ : ∃ W0, W0 = (W.alloc (.cells #[.int .i64 n, .int .i64 L, .int .i64 R, .int .i64 B] 25)).alloc (.cells #[.int .i64 0, .int .i64 0, .int .i64 0, .int .i64 0] 25) := ⟨_, rfl⟩
  have hB0 : Hid (Below W.heap.size W W0) := by rw [hW0]; exact hide ((below_alloc _ _).alloc (by simp) _)
  have hX0 : Hid (FieldIn W0 W.heap.size n L R B) := by rw [hW0]; exact hide ((fieldIn_new W n L R B 25).keep (below_alloc _ _))
  have hR0 : Hid (W0.heap[W.heap.size + 1]? = some (.cells #[.int .i64 0, .int .i64 0, .int .i64 0, .int .i64 0] 25 (0, 0))) := by rw [hW0]; exact hide (alloc_row2 _ _ _ _)
  obtain ⟨X0, X1, X2, X3⟩ := hX0.out
  obtain ⟨r, hr⟩ : ∃ r, r = cpR n L R B game pl i := ⟨_, rfl⟩
  rw [← hr]
  obtain ⟨c, hce⟩ : ∃ c, c = codeP n L R B game pl := ⟨_, rfl⟩
  have HC := hide hce.symm
  have HCC := hide (codeC_spec n L R B game pl i)
  by_cases h1 : c = 1
  · have hd : (c != 1) = false := by simp [h1]
    have HR : Hid (r = (0, 0, 0, 0, 1)) := hide (by rw [hr]; unfold cpR; rw [HCC.out, ← hce, h1]; rfl)
    rw [HR.out]
    subst h1
    clear hce hr
    go_enter Try.func26, Try.ntmps26
    go_wp2_with fail
    rw [← hW0]
    clear hW0
    go_wp2_with fail
    refine (specPlayer_is HC.out _).mono ?_
    rintro e w1 ⟨rfl, hb1⟩
    (try clear X0 X1 X2 X3)
    have hX1 := hide (hX0.out.keep hb1)
    obtain ⟨X0, X1, X2, X3⟩ := hX1.out
    (try clear R0 R1 R2 R3 Rf0 Rf1 Rf2 Rf3)
    have hR1 := hide (box_keep hR0.out hb1)
    obtain ⟨R0, R1, R2, R3, Rf0, Rf1, Rf2, Rf3⟩ := row4 hR1.out
    have hB1 := hide (Below.trans' hB0.out hb1)
    clear hb1
    go_wp2_with fail
    exact bodyPost_ret (v := fcV (0, 0, 0, 0, 1)) (by simp [results, Try.results26, go_sem, R0, R1, R2, R3, fcV]) rfl ⟨rfl, below4 _ _ _ _ hB1.out (by omega)⟩
  · have hd : (c != 1) = true := by simp [h1]
    have hok : okF n L R B = true := by
      cases h : okF n L R B
      · exact absurd (hce.trans (codeP_one.2 h)) h1
      · rfl
    obtain ⟨k0, k1, k2, k3, k4, k5, k6, k7⟩ := okF_nums hok
    have HOK := hide hok
    cases hpt : ptB n i
    · have hcc : codeC n L R B game pl i = 2 := by rw [HCC.out, ← hce, hpt, if_pos ⟨h1, rfl⟩]
      have HR : Hid (r = (0, 0, 0, 0, 2)) := hide (by rw [hr]; unfold cpR; rw [hcc]; rfl)
      have HP := hide ((ptB_inn n i).symm.trans hpt)
      rw [HR.out]
      clear hok hpt hcc hr hce h1
      go_enter Try.func26, Try.ntmps26
      go_wp2_with fail
      rw [← hW0]
      clear hW0
      go_wp2_with fail
      refine (specPlayer_is HC.out _).mono ?_
      rintro e w1 ⟨rfl, hb1⟩
      (try clear X0 X1 X2 X3)
      have hX1 := hide (hX0.out.keep hb1)
      obtain ⟨X0, X1, X2, X3⟩ := hX1.out
      (try clear R0 R1 R2 R3 Rf0 Rf1 Rf2 Rf3)
      have hR1 := hide (box_keep hR0.out hb1)
      obtain ⟨R0, R1, R2, R3, Rf0, Rf1, Rf2, Rf3⟩ := row4 hR1.out
      have hB1 := hide (Below.trans' hB0.out hb1)
      clear hb1
      go_wp2_with fail
      refine (inn_is _ _ _ HP.out _).mono ?_
      rintro e w2 ⟨rfl, hb2⟩
      (try clear X0 X1 X2 X3)
      have hX2 := hide (hX1.out.keep hb2)
      obtain ⟨X0, X1, X2, X3⟩ := hX2.out
      (try clear R0 R1 R2 R3 Rf0 Rf1 Rf2 Rf3)
      have hR2 := hide (box_keep hR1.out hb2)
      obtain ⟨R0, R1, R2, R3, Rf0, Rf1, Rf2, Rf3⟩ := row4 hR2.out
      have hB2 := hide (Below.trans' hB1.out hb2)
      clear hb2
      go_wp2_with fail
      exact bodyPost_ret (v := fcV (0, 0, 0, 0, 2)) (by simp [results, Try.results26, go_sem, R0, R1, R2, R3, fcV]) rfl ⟨rfl, below4 _ _ _ _ hB2.out (by omega)⟩
    · have hcc : codeC n L R B game pl i = c := by rw [HCC.out, ← hce, hpt, if_neg (by simp)]
      have HP := hide ((ptB_inn n i).symm.trans hpt)
      by_cases hc : c = 0
      · subst hc
        obtain ⟨i0, i1⟩ := ptB_yes hpt
        obtain ⟨k, hk⟩ := Int.eq_ofNat_of_zero_le i0
        subst hk
        obtain ⟨o, x, o0, o1, e1, e2, _, e3⟩ := free_walk k4 k5 k6 k7 k
        have hu := u64_small (k := (k : Int)) (by omega) (by omega)
        obtain ⟨x', hx⟩ : ∃ x', x' = mvR R pl k := ⟨_, rfl⟩
        obtain ⟨b', hb⟩ : ∃ b', b' = mvB B pl k := ⟨_, rfl⟩
        have HRR : Hid (r = if mayP n L R B game pl k = true then (n, L, x', b', 0) else (0, 0, 0, 0, 5)) := hide (by rw [hr, hx, hb]; unfold cpR; rw [hcc, if_pos rfl])
        have HMO : Hid (∀ V : World, Calls Try.prog 55 #[.agg #[.int .i64 n, .int .i64 L, .int .i64 R, .int .i64 B], .int .i64 pl, .int .i64 (k : Int)] V (RetB (.agg #[.int .i64 n, .int .i64 L, .int .i64 x', .int .i64 b']) V)) := hide (fun V => by rw [hx, hb]; exact specMove_any n L R B pl k k4 k5 k6 k7 (by omega) (by omega) V)
        cases hf : freeP R B (k : Int)
        · rw [hf] at e3
          have HR : Hid (r = (0, 0, 0, 0, 5)) := hide (by rw [HRR.out]; unfold mayP; rw [hf]; rfl)
          rw [HR.out]
          clear hok hpt hcc hr hce h1 hf hx hb
          go_enter Try.func26, Try.ntmps26
          go_wp2_with fail
          rw [← hW0]
          clear hW0
          go_wp2_with fail
          refine (specPlayer_is HC.out _).mono ?_
          rintro e w1 ⟨rfl, hb1⟩
          (try clear X0 X1 X2 X3)
          have hX1 := hide (hX0.out.keep hb1)
          obtain ⟨X0, X1, X2, X3⟩ := hX1.out
          (try clear R0 R1 R2 R3 Rf0 Rf1 Rf2 Rf3)
          have hR1 := hide (box_keep hR0.out hb1)
          obtain ⟨R0, R1, R2, R3, Rf0, Rf1, Rf2, Rf3⟩ := row4 hR1.out
          have hB1 := hide (Below.trans' hB0.out hb1)
          clear hb1
          go_wp2_with fail
          refine (inn_is _ _ _ HP.out _).mono ?_
          rintro e w2 ⟨rfl, hb2⟩
          (try clear X0 X1 X2 X3)
          have hX2 := hide (hX1.out.keep hb2)
          obtain ⟨X0, X1, X2, X3⟩ := hX2.out
          (try clear R0 R1 R2 R3 Rf0 Rf1 Rf2 Rf3)
          have hR2 := hide (box_keep hR1.out hb2)
          obtain ⟨R0, R1, R2, R3, Rf0, Rf1, Rf2, Rf3⟩ := row4 hR2.out
          have hB2 := hide (Below.trans' hB1.out hb2)
          clear hb2
          go_wp2_with fail
          refine (HMO.out _).mono ?_
          rintro e w3 ⟨rfl, hb3⟩
          have hc3 := hb3.alloc hb3.size (.cells #[.int .i64 n, .int .i64 L, .int .i64 x', .int .i64 b'] 25)
          have hX3 := hide (hX2.out.keep hc3)
          have hR3 := hide (box_keep hR2.out hc3)
          have hB3 := hide (Below.trans' hB2.out hc3)
          clear hb3 hc3 X0 X1 X2 X3 R0 R1 R2 R3 Rf0 Rf1 Rf2 Rf3
          obtain ⟨X0, X1, X2, X3⟩ := hX3.out
          obtain ⟨R0, R1, R2, R3, Rf0, Rf1, Rf2, Rf3⟩ := row4 hR3.out
          go_wp2_with fail
          exact bodyPost_ret (v := fcV (0, 0, 0, 0, 5)) (by simp [results, Try.results26, go_sem, R0, R1, R2, R3, fcV]) rfl ⟨rfl, below4 _ _ _ _ hB3.out (by omega)⟩
        · rw [hf] at e3
          have hmv := okF_move (pl := pl) hok i0 i1 hf
          rw [← hx, ← hb] at hmv
          cases hfa : fair n L x' b' game
          · have HR : Hid (r = (0, 0, 0, 0, 5)) := hide (by rw [HRR.out]; unfold mayP; rw [hf, ← hx, ← hb, hfa]; rfl)
            have HFA := hide hfa
            have HMV := hide hmv
            rw [HR.out]
            clear hok hpt hcc hr hce h1 hf hx hb hfa hmv
            go_enter Try.func26, Try.ntmps26
            go_wp2_with fail
            rw [← hW0]
            clear hW0
            go_wp2_with fail
            refine (specPlayer_is HC.out _).mono ?_
            rintro e w1 ⟨rfl, hb1⟩
            (try clear X0 X1 X2 X3)
            have hX1 := hide (hX0.out.keep hb1)
            obtain ⟨X0, X1, X2, X3⟩ := hX1.out
            (try clear R0 R1 R2 R3 Rf0 Rf1 Rf2 Rf3)
            have hR1 := hide (box_keep hR0.out hb1)
            obtain ⟨R0, R1, R2, R3, Rf0, Rf1, Rf2, Rf3⟩ := row4 hR1.out
            have hB1 := hide (Below.trans' hB0.out hb1)
            clear hb1
            go_wp2_with fail
            refine (inn_is _ _ _ HP.out _).mono ?_
            rintro e w2 ⟨rfl, hb2⟩
            (try clear X0 X1 X2 X3)
            have hX2 := hide (hX1.out.keep hb2)
            obtain ⟨X0, X1, X2, X3⟩ := hX2.out
            (try clear R0 R1 R2 R3 Rf0 Rf1 Rf2 Rf3)
            have hR2 := hide (box_keep hR1.out hb2)
            obtain ⟨R0, R1, R2, R3, Rf0, Rf1, Rf2, Rf3⟩ := row4 hR2.out
            have hB2 := hide (Below.trans' hB1.out hb2)
            clear hb2
            go_wp2_with fail
            refine (HMO.out _).mono ?_
            rintro e w3 ⟨rfl, hb3⟩
            have hc3 := hb3.alloc hb3.size (.cells #[.int .i64 n, .int .i64 L, .int .i64 x', .int .i64 b'] 25)
            have hX3 := hide (hX2.out.keep hc3)
            have hR3 := hide (box_keep hR2.out hc3)
            have hB3 := hide (Below.trans' hB2.out hc3)
            have hY3 := hide (fieldIn_new w3 n L x' b' 25)
            clear hb3 hc3 X0 X1 X2 X3 R0 R1 R2 R3 Rf0 Rf1 Rf2 Rf3
            obtain ⟨X0, X1, X2, X3⟩ := hX3.out
            obtain ⟨Y0, Y1, Y2, Y3⟩ := hY3.out
            go_wp2_with fail
            refine (specFair_is HMV.out HFA.out _).mono ?_
            rintro e w4 ⟨rfl, hb4⟩
            (try clear R0 R1 R2 R3 Rf0 Rf1 Rf2 Rf3)
            have hR4 := hide (box_keep hR3.out hb4)
            obtain ⟨R0, R1, R2, R3, Rf0, Rf1, Rf2, Rf3⟩ := row4 hR4.out
            have hB4 := hide (Below.trans' hB3.out hb4)
            clear hb4
            go_wp2_with fail
            exact bodyPost_ret (v := fcV (0, 0, 0, 0, 5)) (by simp [results, Try.results26, go_sem, R0, R1, R2, R3, fcV]) rfl ⟨rfl, below4 _ _ _ _ hB4.out (by omega)⟩
          · have HR : Hid (r = (n, L, x', b', 0)) := hide (by rw [HRR.out]; unfold mayP; rw [hf, ← hx, ← hb, hfa]; rfl)
            have HFA := hide hfa
            have HMV := hide hmv
            rw [HR.out]
            clear hok hpt hcc hr hce h1 hf hx hb hfa hmv
            go_enter Try.func26, Try.ntmps26
            go_wp2_with fail
            rw [← hW0]
            clear hW0
            go_wp2_with fail
            refine (specPlayer_is HC.out _).mono ?_
            rintro e w1 ⟨rfl, hb1⟩
            (try clear X0 X1 X2 X3)
            have hX1 := hide (hX0.out.keep hb1)
            obtain ⟨X0, X1, X2, X3⟩ := hX1.out
            (try clear R0 R1 R2 R3 Rf0 Rf1 Rf2 Rf3)
            have hR1 := hide (box_keep hR0.out hb1)
            obtain ⟨R0, R1, R2, R3, Rf0, Rf1, Rf2, Rf3⟩ := row4 hR1.out
            have hB1 := hide (Below.trans' hB0.out hb1)
            clear hb1
            go_wp2_with fail
            refine (inn_is _ _ _ HP.out _).mono ?_
            rintro e w2 ⟨rfl, hb2⟩
            (try clear X0 X1 X2 X3)
            have hX2 := hide (hX1.out.keep hb2)
            obtain ⟨X0, X1, X2, X3⟩ := hX2.out
            (try clear R0 R1 R2 R3 Rf0 Rf1 Rf2 Rf3)
            have hR2 := hide (box_keep hR1.out hb2)
            obtain ⟨R0, R1, R2, R3, Rf0, Rf1, Rf2, Rf3⟩ := row4 hR2.out
            have hB2 := hide (Below.trans' hB1.out hb2)
            clear hb2
            go_wp2_with fail
            refine (HMO.out _).mono ?_
            rintro e w3 ⟨rfl, hb3⟩
            have hc3 := hb3.alloc hb3.size (.cells #[.int .i64 n, .int .i64 L, .int .i64 x', .int .i64 b'] 25)
            have hX3 := hide (hX2.out.keep hc3)
            have hR3 := hide (box_keep hR2.out hc3)
            have hB3 := hide (Below.trans' hB2.out hc3)
            have hY3 := hide (fieldIn_new w3 n L x' b' 25)
            clear hb3 hc3 X0 X1 X2 X3 R0 R1 R2 R3 Rf0 Rf1 Rf2 Rf3
            obtain ⟨X0, X1, X2, X3⟩ := hX3.out
            obtain ⟨Y0, Y1, Y2, Y3⟩ := hY3.out
            go_wp2_with fail
            refine (specFair_is HMV.out HFA.out _).mono ?_
            rintro e w4 ⟨rfl, hb4⟩
            (try clear R0 R1 R2 R3 Rf0 Rf1 Rf2 Rf3)
            have hR4 := hide (box_keep hR3.out hb4)
            obtain ⟨R0, R1, R2, R3, Rf0, Rf1, Rf2, Rf3⟩ := row4 hR4.out
            (try clear Y0 Y1 Y2 Y3)
            have hY4 := hide (hY3.out.keep hb4)
            obtain ⟨Y0, Y1, Y2, Y3⟩ := hY4.out
            have hB4 := hide (Below.trans' hB3.out hb4)
            clear hb4
            go_wp2_with fail
            exact bodyPost_ret (v := fcV (n, L, x', b', 0)) (by simp [results, Try.results26, go_sem, R0, R1, R2, R3, fcV]) rfl ⟨rfl, below4 _ _ _ _ hB4.out (by omega)⟩
      · have HR : Hid (r = (0, 0, 0, 0, c)) := hide (by rw [hr]; unfold cpR; rw [hcc, if_neg hc])
        have hd2 : (c != 0) = true := by simp [hc]
        rw [HR.out]
        clear hok hpt hcc hr hce h1 hc
        go_enter Try.func26, Try.ntmps26
        go_wp2_with fail
        rw [← hW0]
        clear hW0
        go_wp2_with fail
        refine (specPlayer_is HC.out _).mono ?_
        rintro e w1 ⟨rfl, hb1⟩
        (try clear X0 X1 X2 X3)
        have hX1 := hide (hX0.out.keep hb1)
        obtain ⟨X0, X1, X2, X3⟩ := hX1.out
        (try clear R0 R1 R2 R3 Rf0 Rf1 Rf2 Rf3)
        have hR1 := hide (box_keep hR0.out hb1)
        obtain ⟨R0, R1, R2, R3, Rf0, Rf1, Rf2, Rf3⟩ := row4 hR1.out
        have hB1 := hide (Below.trans' hB0.out hb1)
        clear hb1
        go_wp2_with fail
        refine (inn_is _ _ _ HP.out _).mono ?_
        rintro e w2 ⟨rfl, hb2⟩
        (try clear X0 X1 X2 X3)
        have hX2 := hide (hX1.out.keep hb2)
        obtain ⟨X0, X1, X2, X3⟩ := hX2.out
        (try clear R0 R1 R2 R3 Rf0 Rf1 Rf2 Rf3)
        have hR2 := hide (box_keep hR1.out hb2)
        obtain ⟨R0, R1, R2, R3, Rf0, Rf1, Rf2, Rf3⟩ := row4 hR2.out
        have hB2 := hide (Below.trans' hB1.out hb2)
        clear hb2
        go_wp2_with fail
        exact bodyPost_ret (v := fcV (0, 0, 0, 0, c)) (by simp [results, Try.results26, go_sem, R0, R1, R2, R3, fcV]) rfl ⟨rfl, below4 _ _ _ _ hB2.out (by omega)⟩
end Go.Proofs.Ytdimmlpnfghndaa
