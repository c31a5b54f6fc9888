/-
  Col and snort: l05Fair, the codes, IsFairField, both texts.
-/
import Derived.Test.YtdimmlpnfghndaaFr
namespace Go.Proofs.Ytdimmlpnfghndaa
open Go.RowKit
set_option linter.unusedVariables false

/-- A point's colour in the model's spelling. -/
theorem col_walk {R B : Int} (hr0 : 0 ≤ R) (hr1 : R < 256) (hb0 : 0 ≤ B) (hb1 : B < 256) (h : andI R B = 0) (i : Nat) :
    ∃ x y : Int, (0 ≤ x ∧ x ≤ 1) ∧ (0 ≤ y ∧ y ≤ 1) ∧ bits BinOp.and IntKind.i64 (R / 2 ^ i) 1 = x ∧ bits BinOp.and IntKind.i64 (B / 2 ^ i) 1 = y ∧ x + 2 * y = cl R B i := by
  have e1 := dg_walkL (E := R) (k := (i : Int)) hr0 (by omega)
  have e2 := dg_walkL (E := B) (k := (i : Int)) hb0 (by omega)
  rw [Int.toNat_natCast] at e1 e2
  have h1 := dg_01 R i
  have h2 := dg_01 B i
  exact ⟨dg R i, dg B i, by omega, by omega, e1, e2, cl_sum hr0 hb0 (by omega) h⟩

set_option maxRecDepth 100000 in
set_option maxHeartbeats 4000000 in
theorem specFair_any (n L R B game : Int) (hok : okF n L R B = true) (W : World) :
    Calls Try.prog 56 #[.agg #[.int .i64 n, .int .i64 L, .int .i64 R, .int .i64 B], .int .i64 game] W (RetB (.bool (fair n L R B game)) W) := by
  obtain ⟨k0, k1, k2, k3, k4, k5, k6, k7⟩ := okF_nums hok
  have HAND := hide (okF_parts hok).2.2.2.2
  have hB0 := hide (below_alloc W (.cells #[.int .i64 n, .int .i64 L, .int .i64 R, .int .i64 B] 25))
  have hX0 := hide (fieldIn_new W n L R B 25)
  obtain ⟨N, hN⟩ : ∃ N : Nat, n = N := ⟨n.toNat, by omega⟩
  subst hN
  have HF : Hid (fair N L R B game = fairJ L R B game N) := hide (by unfold fair; rw [Int.toNat_natCast])
  clear hok
  go_enter Try.func56, Try.ntmps56
  go_wp2_with fail
  go_loopw [5] (fun j wr => ∃ k : Nat, 1 ≤ k ∧ k ≤ N ∧ j = .int .i64 k ∧ Hid (fairJ L R B game k = true) ∧ FieldIn wr W.heap.size N L R B ∧ Below W.heap.size W wr) (fun j _ => N - (intOf j).toNat)
  case atStart => exact ⟨1, by omega, by omega, rfl, hide (fairJ_one _ _ _ _), hX0.out, hB0.out⟩
  case round =>
    obtain ⟨k, hk1, hk, rfl, hfk, hX, hB⟩ := hrel
    obtain ⟨wo, rfl⟩ : ∃ wo : World, wo = wr := ⟨_, rfl⟩
    obtain ⟨c0, c1, c2, c3⟩ := hX
    by_cases hlt : k < N
    · go_wp2_with fail
      go_loopw [6] (fun i wr => ∃ q : Nat, q ≤ k ∧ i = .int .i64 q ∧ Hid (fairI L R B game k q = true) ∧ FieldIn wr W.heap.size N L R B ∧ Below W.heap.size W wr) (fun i _ => k - (intOf i).toNat)
      case atStart => exact ⟨0, by omega, rfl, hide (fairI_zero _ _ _ _ _), ⟨c0, c1, c2, c3⟩, hB⟩
      case round =>
        clear c0 c1 c2 c3 hB
        obtain ⟨q, hq, rfl, hfq, hX, hB⟩ := hrel
        have HX := hide hX
        have HBW := hide hB
        obtain ⟨c0, c1, c2, c3⟩ := hX
        clear hB
        by_cases hql : q < k
        · cases hd : drawn L (lp q k)
          · have HD := hide hd
            have hnx : Hid (fairI L R B game k (q + 1) = true) := hide (by rw [fairI_succ, hfq.out, hd]; rfl)
            clear hd
            go_wp2_with fail
            refine (specJoined_lt N L R B q k k2 k3 (by omega) (by omega) (by omega) _).mono ?_
            rw [HD.out]
            rintro e w1 ⟨rfl, hb1⟩
            have HX1 := hide (HX.out.keep hb1)
            have HB1 := hide (Below.trans' HBW.out hb1)
            clear hb1 c0 c1 c2 c3
            go_wp2_with fail
            go_roundw
            case rel => exact ⟨q + 1, by omega, by go_num, hnx, HX1.out, HB1.out⟩
            case measure => simp [intOf]; omega
          · have HD := hide hd
            clear hd
            obtain ⟨x, y, ⟨x0, x1⟩, ⟨y0, y1⟩, e1, e2, ea⟩ := col_walk k4 k5 k6 k7 HAND.out q
            obtain ⟨x', y', ⟨x0', x1'⟩, ⟨y0', y1'⟩, e1', e2', eb⟩ := col_walk k4 k5 k6 k7 HAND.out k
            obtain ⟨a, ha⟩ : ∃ a, a = cl R B q := ⟨_, rfl⟩
            obtain ⟨b, hb⟩ : ∃ b, b = cl R B k := ⟨_, rfl⟩
            rw [← ha] at ea
            rw [← hb] at eb
            have hra := cl_range R B q
            have hrb := cl_range R B k
            rw [← ha] at hra
            rw [← hb] at hrb
            have s1 : IntKind.i64.wrap (2 * y) = 2 * y := wraps_i64 _ (by omega) (by omega)
            have s2 : IntKind.i64.wrap (2 * y') = 2 * y' := wraps_i64 _ (by omega) (by omega)
            have s3 : IntKind.i64.wrap (x + 2 * y) = a := by rw [wraps_i64 _ (by omega) (by omega)]; exact ea
            have s4 : IntKind.i64.wrap (x' + 2 * y') = b := by rw [wraps_i64 _ (by omega) (by omega)]; exact eb
            have u1 := u64_small (k := (q : Int)) (by omega) (by omega)
            have u2 := u64_small (k := (k : Int)) (by omega) (by omega)
            have HA := hide ha
            have HBB := hide hb
            have HRA := hide hra
            have HRB := hide hrb
            clear ha hb hra hrb
            have hyes : Hid (bad game a b = false → fairI L R B game k (q + 1) = true) := hide (fun h => by rw [fairI_succ, hfq.out, ← HA.out, ← HBB.out, h]; simp)
            have hno : Hid (bad game a b = true → fair N L R B game = false) := hide (fun h => by
              rw [HF.out]
              exact fairJ_false hlt (fairI_false hql HD.out (by rw [← HA.out, ← HBB.out]; exact h)))
            go_wp2_with fail
            refine (specJoined_lt N L R B q k k2 k3 (by omega) (by omega) (by omega) _).mono ?_
            rw [HD.out]
            rintro e w1 ⟨rfl, hb1⟩
            have HX1 := hide (HX.out.keep hb1)
            have HB1 := hide (Below.trans' HBW.out hb1)
            clear c0 c1 c2 c3
            obtain ⟨c0, c1, c2, c3⟩ := HX1.out
            clear hb1
            go_wp2_with fail
            go_quiet (fail)
            have HX2 := hide (HX1.out.keep (below_drewN (Below.refl _ _) nq))
            have HB2 := hide (below_drewN HB1.out nq)
            clear e1 e2 e1' e2' s1 s2 s3 s4 u1 u2 ea eb x0 x1 y0 y1 x0' x1' y0' y1' c0 c1 c2 c3
            by_cases a0 : 0 < a
            · have da : decide (0 < a) = true := decide_eq_true a0
              by_cases b0 : 0 < b
              · have db : decide (0 < b) = true := decide_eq_true b0
                cases hab : (a == b)
                · cases hg : (game == 0)
                  · have hb' : Hid (bad game a b = true) := hide (by simp only [beq_eq_false_iff_ne] at hab hg; simp [bad, a0, b0, hab, hg])
                    go_wp2_with fail
                    go_ret
                    exact ⟨ret_bool (hno.out hb'.out).symm, HB2.out⟩
                  · have hb' : Hid (bad game a b = false) := hide (by simp only [beq_eq_false_iff_ne] at hab; simp only [beq_iff_eq] at hg; simp [bad, a0, b0, hab, hg])
                    go_wp2_with fail
                    go_roundw
                    case rel => exact ⟨q + 1, by omega, by go_num, hyes.out hb'.out, HX2.out, HB2.out⟩
                    case measure => simp [intOf]; omega
                · cases hg : (game == 0)
                  · have hb' : Hid (bad game a b = false) := hide (by simp only [beq_eq_false_iff_ne] at hg; simp only [beq_iff_eq] at hab; simp [bad, hab, hg])
                    go_wp2_with fail
                    go_roundw
                    case rel => exact ⟨q + 1, by omega, by go_num, hyes.out hb'.out, HX2.out, HB2.out⟩
                    case measure => simp [intOf]; omega
                  · have hb' : Hid (bad game a b = true) := hide (by simp only [beq_iff_eq] at hab hg; simp [bad, ← hab, a0, hg])
                    go_wp2_with fail
                    go_ret
                    exact ⟨ret_bool (hno.out hb'.out).symm, HB2.out⟩
              · have db : decide (0 < b) = false := decide_eq_false b0
                have hb' : Hid (bad game a b = false) := hide (by simp [bad, b0])
                go_wp2_with fail
                go_roundw
                case rel => exact ⟨q + 1, by omega, by go_num, hyes.out hb'.out, HX2.out, HB2.out⟩
                case measure => simp [intOf]; omega
            · have da : decide (0 < a) = false := decide_eq_false a0
              have hb' : Hid (bad game a b = false) := hide (by simp [bad, a0])
              go_wp2_with fail
              go_roundw
              case rel => exact ⟨q + 1, by omega, by go_num, hyes.out hb'.out, HX2.out, HB2.out⟩
              case measure => simp [intOf]; omega
        · obtain rfl : q = k := by omega
          go_wp2_with fail
          go_roundw
          case rel => exact ⟨q + 1, by omega, by omega, by go_num, hide (by rw [fairJ_succ, hfk.out, hfq.out]; rfl), HX.out, HBW.out⟩
          case measure => simp [intOf]; omega
    · obtain rfl : k = N := by omega
      go_wp2_with fail
      go_ret
      exact ⟨ret_bool (by rw [HF.out, hfk.out]), hB⟩
end Go.Proofs.Ytdimmlpnfghndaa
