/-
  Col and snort: the points that a player may colour, both texts; PointsFor.
-/
import Derived.Test.YtdimmlpnfghndaaFm
namespace Go.Proofs.Ytdimmlpnfghndaa
open Go.RowKit
set_option linter.unusedVariables false

theorem pts_step_yes {n L R B game pl : Int} {k : Nat} (h : mayP n L R B game pl (k : Int) = true) : pre (mayP n L R B game pl) (k + 1) = pre (mayP n L R B game pl) k ++ [(k : Int)] := pre_yes h
theorem pts_step_no {n L R B game pl : Int} {k : Nat} (h : mayP n L R B game pl (k : Int) = false) : pre (mayP n L R B game pl) (k + 1) = pre (mayP n L R B game pl) k := pre_no h

set_option maxRecDepth 100000 in
set_option maxHeartbeats 2000000 in
theorem points_any (n L R B game pl : Int) (hok : okF n L R B = true) (hg : 0 ≤ game ∧ game ≤ 1) (hp : 0 ≤ pl ∧ pl ≤ 1) (W : World) :
    Calls Try.prog 54 #[.agg #[.int .i64 n, .int .i64 L, .int .i64 R, .int .i64 B, .int .i64 pl], ruleV game] W (NewL (pts n L R B game pl) W) := by
  obtain ⟨i0, hi0, hz0, hz1, hz2⟩ := info_parts Try.info2
  obtain ⟨k0, k1, k2, k3, k4, k5, k6, k7⟩ := okF_nums hok
  obtain ⟨N, hN⟩ : ∃ N : Nat, n = N := ⟨n.toNat, by omega⟩
  subst hN
  have HPT : Hid (pts N L R B game pl = pre (mayP N L R B game pl) N) := hide (by unfold pts; rw [Int.toNat_natCast])
  obtain ⟨q, hq⟩ : ∃ q, q = mayP N L R B game pl := ⟨_, rfl⟩
  rw [HPT.out, ← hq]
  have HQ : Hid (∀ k : Nat, q (k : Int) = (freeP R B k && fair N L (mvR R pl k) (mvB B pl k) game)) := hide (fun k => by rw [hq]; rfl)
  have HOK := hide hok
  have HG := hide hg
  obtain ⟨rv, hrv⟩ : ∃ rv, rv = ruleV game := ⟨_, rfl⟩
  rw [← hrv]
  have HRV := hide hrv
  obtain ⟨p0, p1⟩ := hp
  obtain ⟨W0, hW0⟩ : ∃ W0, W0 = W.alloc (.cells #[.int .i64 N, .int .i64 L, .int .i64 R, .int .i64 B, .int .i64 pl] 64) := ⟨_, rfl⟩
  have HB0 : Hid (Below W.heap.size W W0) := by rw [hW0]; exact hide (below_alloc _ _)
  have HX0 : Hid (W0.heap[W.heap.size]? = some (.cells #[.int .i64 N, .int .i64 L, .int .i64 R, .int .i64 B, .int .i64 pl] 64 (0, 0))) := by rw [hW0]; exact hide (alloc_row _ _ _)
  have HS0 : Hid (W.heap.size + 1 = W0.heap.size) := by rw [hW0]; exact hide (by simp)
  obtain ⟨c0, c1, c2, c3, c4, _⟩ := row5 HX0.out
  clear hok hg hrv hq HPT
  go_enter Try.func54, Try.ntmps54
  go_wp2_with fail
  rw [← hW0]
  have hO : Hid (Owns (W.heap.size + 1) W0 W0 (.slice none 0 0) (pre q 0)) := hide (Owns.nil (Below.refl _ _) (by rw [HS0.out]; exact Nat.le_refl _))
  clear hW0
  (try go_wp2_with fail)
  go_loopw [5, 10] (fun v i wr => ∃ (k : Nat) (v0 : Value), v0 = v ∧ k ≤ N ∧ i = .int .i64 k ∧ Owns (W.heap.size + 1) W0 wr v (pre q k)) (fun _ i _ => N - (intOf i).toNat)
  case atStart => exact ⟨0, _, rfl, Nat.zero_le _, rfl, hO.out⟩
  case round =>
    clear hO c0 c1 c2 c3 c4
    obtain ⟨k, v, rfl, hk, rfl, hO⟩ := hrel
    have hrow := (hO.old.block W.heap.size (by omega)).trans HX0.out
    obtain ⟨c0, c1, c2, c3, c4, _⟩ := row5 hrow
    have HRW := hide hrow
    clear hrow
    by_cases hlt : k < N
    · have hple := pre_le q k
      have HO := hide hO
      clear hO
      cases hf : freeP R B (k : Int)
      · have hne : (sgn (cl R B k) == 46) = false := by
          have : ¬ sgn (cl R B k) = 46 := fun e => by rw [sgn_46] at e; simp [freeP, e] at hf
          simpa using this
        have HN := hide (pre_no (p := q) (k := k) (by rw [HQ.out, hf]; rfl))
        clear hf
        go_wp2_with fail
        refine (colourOf_any N L R B k k4 k5 k6 k7 (by omega) (by omega) _).mono ?_
        rintro e w2 ⟨rfl, hb2⟩
        have HO2 := hide (HO.out.keep hb2)
        clear hb2 c0 c1 c2 c3 c4
        go_wp2_with fail
        go_roundw
        case rel => exact ⟨k + 1, _, rfl, by omega, by go_num, by rw [HN.out]; exact HO2.out⟩
        case measure => simp [intOf]; omega
      · have heq : (sgn (cl R B k) == 46) = true := by
          have : cl R B k = 0 := by simpa [freeP] using hf
          rw [this]; rfl
        have hmv := okF_move (pl := pl) HOK.out (by omega : (0 : Int) ≤ k) (by omega) hf
        have HMV := hide hmv
        obtain ⟨r, hr⟩ : ∃ r, r = mvR R pl k := ⟨_, rfl⟩
        obtain ⟨b, hb⟩ : ∃ b, b = mvB B pl k := ⟨_, rfl⟩
        have HAF : Hid (∀ V : World, Calls Try.prog 66 #[.agg #[.int .i64 N, .int .i64 L, .int .i64 R, .int .i64 B, .int .i64 pl], .int .i64 (k : Int)] V (RetB (.agg #[.int .i64 N, .int .i64 L, .int .i64 r, .int .i64 b, .int .i64 (1 - pl)]) V)) := hide (fun V => by rw [hr, hb]; exact after_any N L R B pl k k4 k5 k6 k7 (by omega) (by omega) p0 p1 V)
        cases hfa : fair N L (mvR R pl k) (mvB B pl k) game
        · have HFA : Hid (∀ V : World, Calls Try.prog 49 #[.agg #[.int .i64 N, .int .i64 L, .int .i64 r, .int .i64 b], rv] V (RetB (.bool false) V)) := hide (fun V => by rw [hr, hb, HRV.out]; exact isFair_is HMV.out HG.out hfa V)
          have HN := hide (pre_no (p := q) (k := k) (by rw [HQ.out, hf, hfa]; rfl))
          have hfd : ∀ w0 : World, (Instr.field 64 (.agg #[.int .i64 N, .int .i64 L, .int .i64 r, .int .i64 b, .int .i64 (1 - pl)]) 0).run Try.prog w0 = .ok (.agg #[.int .i64 N, .int .i64 L, .int .i64 r, .int .i64 b]) w0 := fun _ => by kernel_rfl
          clear hf hfa hr hb hmv
          go_wp2_with fail
          refine (colourOf_any N L R B k k4 k5 k6 k7 (by omega) (by omega) _).mono ?_
          rintro e w2 ⟨rfl, hb2⟩
          have HO2 := hide (HO.out.keep hb2)
          have HRW2 := hide (box_keep HRW.out hb2)
          clear hb2 c0 c1 c2 c3 c4
          obtain ⟨c0, c1, c2, c3, c4, _⟩ := row5 HRW2.out
          go_wp2_with fail
          refine (HAF.out _).mono ?_
          rintro e w3 ⟨rfl, hb3⟩
          have HO3 := hide (HO2.out.keep hb3)
          clear hb3 c0 c1 c2 c3 c4
          go_wp2_with fail
          refine (HFA.out _).mono ?_
          rintro e w4 ⟨rfl, hb4⟩
          have HO4 := hide (HO3.out.keep hb4)
          clear hb4
          go_wp2_with fail
          go_roundw
          case rel => exact ⟨k + 1, _, rfl, by omega, by go_num, by rw [HN.out]; exact HO4.out⟩
          case measure => simp [intOf]; omega
        · have HFA : Hid (∀ V : World, Calls Try.prog 49 #[.agg #[.int .i64 N, .int .i64 L, .int .i64 r, .int .i64 b], rv] V (RetB (.bool true) V)) := hide (fun V => by rw [hr, hb, HRV.out]; exact isFair_is HMV.out HG.out hfa V)
          have HY := hide (pre_yes (p := q) (k := k) (by rw [HQ.out, hf, hfa]; rfl))
          have hfd : ∀ w0 : World, (Instr.field 64 (.agg #[.int .i64 N, .int .i64 L, .int .i64 r, .int .i64 b, .int .i64 (1 - pl)]) 0).run Try.prog w0 = .ok (.agg #[.int .i64 N, .int .i64 L, .int .i64 r, .int .i64 b]) w0 := fun _ => by kernel_rfl
          clear hf hfa hr hb hmv
          go_wp2_with fail
          refine (colourOf_any N L R B k k4 k5 k6 k7 (by omega) (by omega) _).mono ?_
          rintro e w2 ⟨rfl, hb2⟩
          have HO2 := hide (HO.out.keep hb2)
          have HRW2 := hide (box_keep HRW.out hb2)
          clear hb2 c0 c1 c2 c3 c4
          obtain ⟨c0, c1, c2, c3, c4, _⟩ := row5 HRW2.out
          go_wp2_with fail
          refine (HAF.out _).mono ?_
          rintro e w3 ⟨rfl, hb3⟩
          have HO3 := hide (HO2.out.keep hb3)
          clear hb3 c0 c1 c2 c3 c4
          go_wp2_with fail
          refine (HFA.out _).mono ?_
          rintro e w4 ⟨rfl, hb4⟩
          have hO4 := HO3.out.keep hb4
          have HO4 := hide hO4
          have hown4 := hO4.own
          have hsz4 := hO4.size
          clear hb4 hO4
          go_wp2_with (at_builtin; refine wpList_append_own _ rfl _ _ 33 rfl (W.heap.size + 1) 2 i0 (.int .i64 0) 1 8 Try.underlying33 hi0 hz0 hz1 hz2 rfl (by decide) _ _ _ rfl (hown4.alloc _) ⟨w4.heap.size, 0, none⟩ 1 1 [.int .i64 k] rfl rfl (cell_one_new _ _ _) (by simp [Value.oneCell']) (by unfold maxLen; omega) (by omega) (by simp; omega) ?_)
          intro v' w5 hown' hgrow _
          have HO5 := hide (HO4.out.snoc (by simpa using hown') hgrow)
          clear hown' hgrow hown4
          go_wp2_with fail
          go_roundw
          case rel => exact ⟨k + 1, _, rfl, by omega, by go_num, by rw [HY.out]; exact HO5.out⟩
          case measure => simp [intOf]; omega
    · obtain rfl : k = N := by omega
      have HL := hide (hO.list HB0.out (by omega))
      clear hO
      go_wp2_with fail
      go_ret
      exact HL.out
end Go.Proofs.Ytdimmlpnfghndaa
