/-
  Col and snort: the model's points; PointsFor, ColourPoint, both texts.
-/
import Derived.Test.YtdimmlpnfghndaaFn
namespace Go.Proofs.Ytdimmlpnfghndaa
open Go.RowKit
set_option linter.unusedVariables false

theorem Owns.made {B : Nat} {W0 w : World} (h : Below B W0 w) (hs : B ≤ w.heap.size) : Owns B W0 (w.alloc (.cells #[] 2)) (.slice (some ⟨w.heap.size, 0, none⟩) 0 0) [] := by
  refine ⟨⟨rfl, .inr ⟨w.heap.size, 0, #[], rfl, hs, heap_alloc_new w _, Nat.le_refl _, by unfold maxLen; omega, rfl, rfl⟩⟩, h.alloc hs _, by simp; omega⟩

/-- A point that may be free, in the model's spelling. -/
theorem free_walk {R B : Int} (hr0 : 0 ≤ R) (hr1 : R < 256) (hb0 : 0 ≤ B) (hb1 : B < 256) (k : Nat) :
    ∃ o x : Int, 0 ≤ o ∧ o < 256 ∧ bits BinOp.or IntKind.i64 R B = o ∧ bits BinOp.and IntKind.i64 (o / 2 ^ k) 1 = x ∧ (x == 0) = freeP R B k ∧ (x == 1) = !freeP R B k := by
  have h1 := or_walkI (x := R) (y := B) hr0 (by omega) hb0 (by omega)
  have h2 := orI_range (n := 8) (x := R) (y := B) hr0 (by omega) hb0 (by omega)
  have h3 := dg_walkL (E := orI R B) (k := (k : Int)) h2.1 (by have := h2.2; omega)
  rw [Int.toNat_natCast] at h3
  have h4 := dg_orI_free (x := R) (y := B) (k := (k : Int)) hr0 hb0 (by omega)
  have e : freeP R B k = !decide (drawn R k = true ∨ drawn B k = true) := by
    unfold freeP cl
    cases drawn R (k : Int)
    · cases drawn B (k : Int) <;> rfl
    · rfl
  refine ⟨orI R B, dg (orI R B) k, h2.1, h2.2, h1, h3, ?_, ?_⟩
  · rw [h4, e]
    by_cases h : drawn R k = true ∨ drawn B k = true
    · rw [if_pos h]; simp only [h, decide_true]; rfl
    · rw [if_neg h]; simp only [h, decide_false]; rfl
  · rw [h4, e]
    by_cases h : drawn R k = true ∨ drawn B k = true
    · rw [if_pos h]; simp only [h, decide_true]; rfl
    · rw [if_neg h]; simp only [h, decide_false]; rfl

set_option maxRecDepth 100000 in
set_option maxHeartbeats 2000000 in
theorem specPoints_any (n L R B game pl : Int) (hok : okF n L R B = true) (W : World) :
    Calls Try.prog 52 #[.agg #[.int .i64 n, .int .i64 L, .int .i64 R, .int .i64 B], .int .i64 game, .int .i64 pl] W (NewL (pts n L R B game pl) W) := by
  obtain ⟨i0, hi0, hz0, hz1, hz2⟩ := info_parts Try.info2
  obtain ⟨k0, k1, k2, k3, k4, k5, k6, k7⟩ := okF_nums hok
  obtain ⟨N, hN⟩ : ∃ N : Nat, n = N := ⟨n.toNat, by omega⟩
  subst hN
  have HPT : Hid (pts N L R B game pl = pre (mayP N L R B game pl) N) := hide (by unfold pts; rw [Int.toNat_natCast])
  obtain ⟨q, hq⟩ : ∃ q, q = mayP N L R B game pl := ⟨_, rfl⟩
  rw [HPT.out, ← hq]
  have HQ : Hid (∀ k : Nat, q (k : Int) = (freeP R B k && fair N L (mvR R pl k) (mvB B pl k) game)) := hide (fun k => by rw [hq]; rfl)
  have HOK := hide hok
  obtain ⟨W0, hW0⟩ : ∃ W0, W0 = W.alloc (.cells #[.int .i64 N, .int .i64 L, .int .i64 R, .int .i64 B] 25) := ⟨_, rfl⟩
  have HB0 : Hid (Below W.heap.size W W0) := by rw [hW0]; exact hide (below_alloc _ _)
  have HX0 : Hid (W0.heap[W.heap.size]? = some (.cells #[.int .i64 N, .int .i64 L, .int .i64 R, .int .i64 B] 25 (0, 0))) := by rw [hW0]; exact hide (alloc_row _ _ _)
  have hs0 : W.heap.size + 1 = W0.heap.size := by rw [hW0]; simp
  have hO0 : Hid (Owns (W.heap.size + 1) W0 (W0.alloc (.cells #[] 2)) (.slice (some ⟨W.heap.size + 1, 0, none⟩) 0 0) (pre q 0)) := by rw [hs0]; exact hide (Owns.made (Below.refl _ _) (by omega))
  clear hok hq HPT hs0
  go_enter Try.func52, Try.ntmps52
  go_wp2_with fail
  rw [← hW0]
  clear hW0
  (try go_wp2_with fail)
  go_loopw [7, 8] (fun v i wr => ∃ (k : Nat) (v0 : Value), v0 = v ∧ k ≤ N ∧ i = .int .i64 k ∧ Owns (W.heap.size + 1) W0 wr v (pre q k)) (fun _ i _ => N - (intOf i).toNat)
  case atStart => exact ⟨0, _, rfl, Nat.zero_le _, rfl, hO0.out⟩
  case round =>
    clear hO0
    obtain ⟨k, v, rfl, hk, rfl, hO⟩ := hrel
    have hrow := (hO.old.block W.heap.size (by omega)).trans HX0.out
    obtain ⟨c0, c1, c2, c3, _⟩ := row4 hrow
    have HRW := hide hrow
    clear hrow
    by_cases hlt : k < N
    · have hple := pre_le q k
      have HO := hide hO
      clear hO
      obtain ⟨o, x, o0, o1, h1, h2, h3, _⟩ := free_walk k4 k5 k6 k7 k
      have hu := u64_small (k := (k : Int)) (by omega) (by omega)
      cases hf : freeP R B (k : Int)
      · rw [hf] at h3
        have HN := hide (pre_no (p := q) (k := k) (by rw [HQ.out, hf]; rfl))
        clear hf
        go_wp2_with fail
        clear h1 h2 h3 c0 c1 c2 c3
        go_roundw
        case rel => exact ⟨k + 1, _, rfl, by omega, by go_num, by rw [HN.out]; exact HO.out⟩
        case measure => simp [intOf]; omega
      · rw [hf] at h3
        have hmv := okF_move (pl := pl) HOK.out (by omega : (0 : Int) ≤ k) (by omega) hf
        obtain ⟨r, hr⟩ : ∃ r, r = mvR R pl k := ⟨_, rfl⟩
        obtain ⟨b, hb⟩ : ∃ b, b = mvB B pl k := ⟨_, rfl⟩
        have HMO : Hid (∀ V : World, Calls Try.prog 55 #[.agg #[.int .i64 N, .int .i64 L, .int .i64 R, .int .i64 B], .int .i64 pl, .int .i64 (k : Int)] V (RetB (.agg #[.int .i64 N, .int .i64 L, .int .i64 r, .int .i64 b]) V)) := hide (fun V => by rw [hr, hb]; exact specMove_any N L R B pl k k4 k5 k6 k7 (by omega) (by omega) V)
        cases hfa : fair N L (mvR R pl k) (mvB B pl k) game
        · have HFA : Hid (∀ V : World, Calls Try.prog 56 #[.agg #[.int .i64 N, .int .i64 L, .int .i64 r, .int .i64 b], .int .i64 game] V (RetB (.bool false) V)) := hide (fun V => by rw [hr, hb]; exact specFair_is hmv hfa V)
          have HN := hide (pre_no (p := q) (k := k) (by rw [HQ.out, hf, hfa]; rfl))
          clear hf hfa hr hb hmv
          go_wp2_with fail
          refine (HMO.out _).mono ?_
          rintro e w3 ⟨rfl, hb3⟩
          have HO3 := hide (HO.out.keep hb3)
          clear hb3 c0 c1 c2 c3 h1 h2 h3
          go_wp2_with fail
          refine (HFA.out _).mono ?_
          rintro e w4 ⟨rfl, hb4⟩
          have HO4 := hide (HO3.out.keep hb4)
          clear hb4
          go_wp2_with fail
          go_roundw
          case rel => exact ⟨k + 1, _, rfl, by omega, by go_num, by rw [HN.out]; exact HO4.out⟩
          case measure => simp [intOf]; omega
        · have HFA : Hid (∀ V : World, Calls Try.prog 56 #[.agg #[.int .i64 N, .int .i64 L, .int .i64 r, .int .i64 b], .int .i64 game] V (RetB (.bool true) V)) := hide (fun V => by rw [hr, hb]; exact specFair_is hmv hfa V)
          have HY := hide (pre_yes (p := q) (k := k) (by rw [HQ.out, hf, hfa]; rfl))
          clear hf hfa hr hb hmv
          go_wp2_with fail
          refine (HMO.out _).mono ?_
          rintro e w3 ⟨rfl, hb3⟩
          have HO3 := hide (HO.out.keep hb3)
          clear hb3 c0 c1 c2 c3 h1 h2 h3
          go_wp2_with fail
          refine (HFA.out _).mono ?_
          rintro e w4 ⟨rfl, hb4⟩
          have hO4 := HO3.out.keep hb4
          have HO4 := hide hO4
          have hown4 := hO4.own
          have hsz4 := hO4.size
          clear hb4 hO4
          go_wp2_with (at_builtin; refine wpList_append_own _ rfl _ _ 33 rfl (W.heap.size + 1) 2 i0 (.int .i64 0) 1 8 Try.underlying33 hi0 hz0 hz1 hz2 rfl (by decide) _ _ _ rfl (hown4.alloc _) ⟨w4.heap.size, 0, none⟩ 1 1 [.int .i64 k] rfl rfl (cell_one_new _ _ _) (by simp [Value.oneCell']) (by unfold maxLen; omega) (by omega) (by simp; omega) ?_)
          intro v' w5 hown' hgrow _
          have HO5 := hide (HO4.out.snoc (by simpa using hown') hgrow)
          clear hown' hgrow hown4
          go_wp2_with fail
          go_roundw
          case rel => exact ⟨k + 1, _, rfl, by omega, by go_num, by rw [HY.out]; exact HO5.out⟩
          case measure => simp [intOf]; omega
    · obtain rfl : k = N := by omega
      have HL := hide (hO.list HB0.out (by omega))
      clear hO
      go_wp2_with fail
      go_ret
      exact HL.out

/-! ### PointsFor -/
def ptR (n L R B game pl : Int) : List Int × Int := if codeP n L R B game pl = 0 then (pts n L R B game pl, 0) else ([], codeP n L R B game pl)
theorem rulesFor_bad {n L R B game pl c : Int} (h : codeP n L R B game pl = c) (hc : c ≠ 0) (W : World) : Calls Try.prog 53 #[.agg #[.int .i64 n, .int .i64 L, .int .i64 R, .int .i64 B], .int .i64 game, .int .i64 pl] W (RetB (.tuple #[.nilIface, .int .i64 c]) W) := by
  have := rulesFor_any n L R B game pl W
  unfold rfV at this
  rw [h, if_neg hc] at this
  exact this
theorem rulesFor_ok {n L R B game pl : Int} (h : codeP n L R B game pl = 0) (W : World) : Calls Try.prog 53 #[.agg #[.int .i64 n, .int .i64 L, .int .i64 R, .int .i64 B], .int .i64 game, .int .i64 pl] W (RetB (.tuple #[ruleV game, .int .i64 0]) W) := by
  have := rulesFor_any n L R B game pl W
  unfold rfV at this
  rw [h] at this
  exact this
theorem specPlayer_is {n L R B game pl c : Int} (h : codeP n L R B game pl = c) (W : World) : Calls Try.prog 51 #[.agg #[.int .i64 n, .int .i64 L, .int .i64 R, .int .i64 B], .int .i64 game, .int .i64 pl] W (RetB (.int .i64 c) W) := by rw [← h]; exact specPlayer_any n L R B game pl W

theorem newList_nil {W w : World} {c : Int} (hb : Below W.heap.size W w) : NewList ([], c) W (.returned (.tuple #[.slice none 0 0, .int .i64 c])) w := ⟨none, 0, rfl, World.ownsRow_nil _ _ _ _, hb⟩

set_option maxHeartbeats 1000000 in
theorem implPF_any (n L R B game pl : Int) (W : World) : Calls Try.prog 22 #[.agg #[.int .i64 n, .int .i64 L, .int .i64 R, .int .i64 B], .int .i64 game, .int .i64 pl] W (NewList (ptR n L R B game pl) W) := by
  have hB0 := hide (below_alloc W (.cells #[.int .i64 n, .int .i64 L, .int .i64 R, .int .i64 B] 25))
  have hX0 := hide (fieldIn_new W n L R B 25)
  by_cases hc : codeP n L R B game pl = 0
  · have HC := hide hc
    have HR : Hid (ptR n L R B game pl = (pts n L R B game pl, 0)) := hide (by unfold ptR; rw [if_pos hc])
    obtain ⟨rv, hrv⟩ : ∃ rv, rv = ruleV game := ⟨_, rfl⟩
    obtain ⟨zs, hzs⟩ : ∃ zs, zs = pts n L R B game pl := ⟨_, rfl⟩
    obtain ⟨g1, g2, g3, g4⟩ := codeP_zero hc
    have HRF : Hid (∀ V : World, Calls Try.prog 53 #[.agg #[.int .i64 n, .int .i64 L, .int .i64 R, .int .i64 B], .int .i64 game, .int .i64 pl] V (RetB (.tuple #[rv, .int .i64 0]) V)) := hide (fun V => by rw [hrv]; exact rulesFor_ok HC.out V)
    have HPT : Hid (∀ V : World, Calls Try.prog 54 #[.agg #[.int .i64 n, .int .i64 L, .int .i64 R, .int .i64 B, .int .i64 pl], rv] V (NewL zs V)) := hide (fun V => by rw [hrv, hzs]; exact points_any n L R B game pl g1 g2 g3 V)
    rw [HR.out, ← hzs]
    clear hc hrv hzs g1 g2 g3 g4
    go_enter Try.func22, Try.ntmps22
    go_wp2_with fail
    refine (HRF.out _).mono ?_
    rintro e w1 ⟨rfl, hb1⟩
    (try clear X0 X1 X2 X3)
    have hX1 := hide (hX0.out.keep hb1)
    obtain ⟨X0, X1, X2, X3⟩ := hX1.out
    have hB1 := hide (Below.trans' hB0.out hb1)
    clear hb1
    go_wp2_with fail
    refine (HPT.out _).mono ?_
    rintro e w2 ⟨a, c, rfl, ho, hb2⟩
    have HO := hide ho
    have hB2 := hide (Below.trans' hB1.out hb2)
    have hsz := hB1.out.size
    clear ho hb2
    go_wp2_with fail
    go_ret2
    exact ⟨a, c, rfl, ownsRow_base HO.out hsz, hB2.out⟩
  · have HR : Hid (ptR n L R B game pl = ([], codeP n L R B game pl)) := hide (by unfold ptR; rw [if_neg hc])
    rw [HR.out]
    obtain ⟨c, hcc⟩ : ∃ c, c = codeP n L R B game pl := ⟨_, rfl⟩
    rw [← hcc] at hc ⊢
    have HC := hide hcc.symm
    have HN := hide hc
    have hd : (c != 0) = true := by simp [hc]
    clear hcc hc
    go_enter Try.func22, Try.ntmps22
    go_wp2_with fail
    refine (rulesFor_bad HC.out HN.out _).mono ?_
    rintro e w1 ⟨rfl, hb1⟩
    (try clear X0 X1 X2 X3)
    have hX1 := hide (hX0.out.keep hb1)
    obtain ⟨X0, X1, X2, X3⟩ := hX1.out
    have hB1 := hide (Below.trans' hB0.out hb1)
    clear hb1
    go_wp2_with fail
    go_ret2
    exact newList_nil hB1.out
set_option maxHeartbeats 1000000 in
theorem specPF_any (n L R B game pl : Int) (W : World) : Calls Try.prog 21 #[.agg #[.int .i64 n, .int .i64 L, .int .i64 R, .int .i64 B], .int .i64 game, .int .i64 pl] W (NewList (ptR n L R B game pl) W) := by
  have hB0 := hide (below_alloc W (.cells #[.int .i64 n, .int .i64 L, .int .i64 R, .int .i64 B] 25))
  have hX0 := hide (fieldIn_new W n L R B 25)
  by_cases hc : codeP n L R B game pl = 0
  · have HC := hide hc
    have HR : Hid (ptR n L R B game pl = (pts n L R B game pl, 0)) := hide (by unfold ptR; rw [if_pos hc])
    obtain ⟨zs, hzs⟩ : ∃ zs, zs = pts n L R B game pl := ⟨_, rfl⟩
    obtain ⟨g1, g2, g3, g4⟩ := codeP_zero hc
    have HPT : Hid (∀ V : World, Calls Try.prog 52 #[.agg #[.int .i64 n, .int .i64 L, .int .i64 R, .int .i64 B], .int .i64 game, .int .i64 pl] V (NewL zs V)) := hide (fun V => by rw [hzs]; exact specPoints_any n L R B game pl g1 V)
    rw [HR.out, ← hzs]
    clear hc hzs g1 g2 g3 g4
    go_enter Try.func21, Try.ntmps21
    go_wp2_with fail
    refine (specPlayer_is HC.out _).mono ?_
    rintro e w1 ⟨rfl, hb1⟩
    (try clear X0 X1 X2 X3)
    have hX1 := hide (hX0.out.keep hb1)
    obtain ⟨X0, X1, X2, X3⟩ := hX1.out
    have hB1 := hide (Below.trans' hB0.out hb1)
    clear hb1
    go_wp2_with fail
    refine (HPT.out _).mono ?_
    rintro e w2 ⟨a, c, rfl, ho, hb2⟩
    have HO := hide ho
    have hB2 := hide (Below.trans' hB1.out hb2)
    have hsz := hB1.out.size
    clear ho hb2
    go_wp2_with fail
    go_ret2
    exact ⟨a, c, rfl, ownsRow_base HO.out hsz, hB2.out⟩
  · have HR : Hid (ptR n L R B game pl = ([], codeP n L R B game pl)) := hide (by unfold ptR; rw [if_neg hc])
    rw [HR.out]
    obtain ⟨c, hcc⟩ : ∃ c, c = codeP n L R B game pl := ⟨_, rfl⟩
    rw [← hcc] at hc ⊢
    have HC := hide hcc.symm
    have HN := hide hc
    have hd : (c != 0) = true := by simp [hc]
    clear hcc hc
    go_enter Try.func21, Try.ntmps21
    go_wp2_with fail
    refine (specPlayer_is HC.out _).mono ?_
    rintro e w1 ⟨rfl, hb1⟩
    (try clear X0 X1 X2 X3)
    have hX1 := hide (hX0.out.keep hb1)
    obtain ⟨X0, X1, X2, X3⟩ := hX1.out
    have hB1 := hide (Below.trans' hB0.out hb1)
    clear hb1
    go_wp2_with fail
    go_ret2
    exact newList_nil hB1.out
theorem ptR_le (n L R B game pl : Int) : (ptR n L R B game pl).1.length ≤ 1048576 := by
  unfold ptR
  split
  · rename_i h
    obtain ⟨h1, _⟩ := codeP_zero h
    obtain ⟨_, h8, _⟩ := okF_nums h1
    exact Nat.le_trans (pts_le h8) (by omega)
  · simp
end Go.Proofs.Ytdimmlpnfghndaa
