/-
  BestPoints: both texts.
-/
import Derived.Test.YtdimmlpnfghndaaGr
import Derived.Deep.RegionHeld3
namespace Go.Proofs.Ytdimmlpnfghndaa
open Go.RowKit Go.Maps
set_option linter.unusedVariables false

/-- The best points and their code. -/
def bsR (n L R B game pl : Int) : List Int × Int := if codeP n L R B game pl = 0 then (best n L R B game pl, 0) else ([], codeP n L R B game pl)
theorem bsR_le (n L R B game pl : Int) : (bsR n L R B game pl).1.length ≤ 1048576 := by
  unfold bsR
  split
  · rename_i h
    have h1 := (okF_nums (codeP_zero h).1).2.1
    have h2 := best_le (L := L) (R := R) (B := B) (game := game) (pl := pl) h1
    show (best n L R B game pl).length ≤ _
    omega
  · simp

set_option maxRecDepth 100000 in
set_option maxHeartbeats 2000000 in
theorem specBP_any (n L R B game pl : Int) (W : World) : Calls Try.prog 31 #[.agg #[.int .i64 n, .int .i64 L, .int .i64 R, .int .i64 B], .int .i64 game, .int .i64 pl] W (NewList (bsR n L R B game pl) W) := by
  have hB0 := hide (below_alloc W (.cells #[.int .i64 n, .int .i64 L, .int .i64 R, .int .i64 B] 25))
  have hX0 := hide (fieldIn_new W n L R B 25)
  by_cases hc : codeP n L R B game pl = 0
  · have HC := hide hc
    obtain ⟨zs, hzs⟩ : ∃ zs, zs = best n L R B game pl := ⟨_, rfl⟩
    have HR : Hid (bsR n L R B game pl = (zs, 0)) := hide (by unfold bsR; rw [if_pos hc, hzs])
    obtain ⟨g1, g2, g3, g4⟩ := codeP_zero hc
    have hn8 := (okF_nums g1).2.1
    have hn0 := (okF_nums g1).1
    have HV0 : Hid (∀ (bK M : Nat) (V : World), (M : Int) = 2 * pow3 n.toNat → KnT (valW n L game) n L bK V → Calls Try.prog 64 #[.agg #[.int .i64 n, .int .i64 L, .int .i64 R, .int .i64 B], .int .i64 game, .int .i64 pl, .slice (some ⟨bK, 0, none⟩) M M] V (NewLM bK (KnT (valW n L game) n L bK) zs V)) := hide (fun bK M V hM hk => by rw [hzs]; exact specBest_any n L game bK M hM R B pl ⟨g1, by omega, by omega⟩ V hk)
    have HTB := hide (fun V : World => table_any n L R B ⟨by omega, hn8⟩ V)
    rw [HR.out]
    clear hc hzs g1 g2 g3 g4
    go_enter Try.func31, Try.ntmps31
    go_wp2_with fail
    refine (specPlayer_is HC.out _).mono ?_
    rintro e w1 ⟨rfl, hb1⟩
    (try clear X0 X1 X2 X3)
    have hX1 := hide (hX0.out.keep hb1)
    obtain ⟨X0, X1, X2, X3⟩ := hX1.out
    have hB1 := hide (Below.trans' hB0.out hb1)
    clear hb1
    have hl1 := hX1.out.lt
    go_wp2_with fail
    go_region_held3 (fun W' => W'.cell? ⟨W.heap.size, 0, none⟩ = some (.int .i64 n) ∧ W'.cell? ⟨W.heap.size, 1, none⟩ = some (.int .i64 L) ∧ W'.cell? ⟨W.heap.size, 2, none⟩ = some (.int .i64 R) ∧ W'.cell? ⟨W.heap.size, 3, none⟩ = some (.int .i64 B)) (first | exact ⟨X0, X1, X2, X3⟩ | exact ⟨Y0, Y1, Y2, Y3⟩ | exact ⟨Z0, Z1, Z2, Z3⟩) ((first | (go_at_call 59; (with_reducible refine (HTB.out _).mono ?_); rintro e w2 ⟨bK, M, rfl, hM, hbK, hkt, hb2'⟩; have hb2 : Below w1.heap.size w1 w2 := Below.trans' (Below.drew (Below.refl _ _)) hb2'; have hbK2 : w1.heap.size ≤ bK := hbK; have HT2 := hide (hkt (valW n L game)); have HMM := hide hM; have hB2 := hide (Below.trans' hB1.out hb2); (obtain ⟨Y0, Y1, Y2, Y3⟩ := hX1.out.keep hb2); clear hkt hM hb2 hb2') | (go_at_call 64; (with_reducible refine (HV0.out _ _ _ HMM.out HT2.out).mono ?_); rintro e w3 ⟨⟨a3, c3, rfl, ho3, hb3⟩, _⟩; have nX : W.heap.size ≠ bK := (by omega); have Z0 := hb3.cell Y0 nX; have Z1 := hb3.cell Y1 nX; have Z2 := hb3.cell Y2 nX; have Z3 := hb3.cell Y3 nX; have HB3 := hide hb3; have HO3 := hide ho3; clear hb3 ho3)))
    all_goals
      go_wp2_with fail
      go_ret2
      exact ⟨a3, c3, rfl, ownsRow_base HO3.out hB2.out.size, below_but hB2.out HB3.out (by omega)⟩
  · have HR : Hid (bsR n L R B game pl = ([], codeP n L R B game pl)) := hide (by unfold bsR; rw [if_neg hc])
    rw [HR.out]
    obtain ⟨c, hcc⟩ : ∃ c, c = codeP n L R B game pl := ⟨_, rfl⟩
    rw [← hcc] at hc ⊢
    have HC := hide hcc.symm
    have HN := hide hc
    have hd : (c != 0) = true := by simp [hc]
    clear hcc hc
    go_enter Try.func31, Try.ntmps31
    go_wp2_with fail
    refine (specPlayer_is HC.out _).mono ?_
    rintro e w1 ⟨rfl, hb1⟩
    (try clear X0 X1 X2 X3)
    have hX1 := hide (hX0.out.keep hb1)
    obtain ⟨X0, X1, X2, X3⟩ := hX1.out
    have hB1 := hide (Below.trans' hB0.out hb1)
    clear hb1
    go_wp2_with fail
    go_ret2
    exact newList_nil hB1.out

set_option maxRecDepth 100000 in
set_option maxHeartbeats 2000000 in
theorem implBP_any (n L R B game pl : Int) (W : World) : Calls Try.prog 32 #[.agg #[.int .i64 n, .int .i64 L, .int .i64 R, .int .i64 B], .int .i64 game, .int .i64 pl] W (NewList (bsR n L R B game pl) W) := by
  have hB0 := hide (below_alloc W (.cells #[.int .i64 n, .int .i64 L, .int .i64 R, .int .i64 B] 25))
  have hX0 := hide (fieldIn_new W n L R B 25)
  by_cases hc : codeP n L R B game pl = 0
  · have HC := hide hc
    obtain ⟨zs, hzs⟩ : ∃ zs, zs = best n L R B game pl := ⟨_, rfl⟩
    have HR : Hid (bsR n L R B game pl = (zs, 0)) := hide (by unfold bsR; rw [if_pos hc, hzs])
    obtain ⟨g1, g2, g3, g4⟩ := codeP_zero hc
    obtain ⟨K, hrv⟩ := ruleV_form game
    have HRF : Hid (∀ V : World, Calls Try.prog 53 #[.agg #[.int .i64 n, .int .i64 L, .int .i64 R, .int .i64 B], .int .i64 game, .int .i64 pl] V (RetB (.tuple #[.iface K (.agg #[]), .int .i64 0]) V)) := hide (fun V => by rw [← hrv]; exact rulesFor_ok HC.out V)
    have HV0 : Hid (∀ (bm : Nat) (V : World), KnM (lvB n L game) 4 n L [] bm V → Calls Try.prog 65 #[.agg #[.int .i64 n, .int .i64 L, .int .i64 R, .int .i64 B, .int .i64 pl], .agg #[.iface K (.agg #[]), .func (.func 62) #[] #[], .map (some bm)]] V (NewLM bm (KnM (lvB n L game) 4 n L [] bm) zs V)) := hide (fun bm V hk => by rw [← hrv, hzs]; exact toWin_any n L game [] g2 bm R B pl ⟨g1, by omega, by omega⟩ V hk)
    have HNW : Hid (∀ V : World, Calls Try.prog 61 #[.iface K (.agg #[]), .func (.func 62) #[] #[]] V fun e W' => ∃ b, e = .returned (.agg #[.iface K (.agg #[]), .func (.func 62) #[] #[], .map (some b)]) ∧ KnM (lvB n L game) 4 n L [] b W' ∧ V.heap.size ≤ b ∧ Below V.heap.size V W') := hide (fun V => newB_any n L (lvB n L game) [] K V (fun p hp => by cases hp))
    rw [HR.out]
    clear hc hzs hrv g1 g2 g3 g4
    go_enter Try.func32, Try.ntmps32
    go_wp2_with fail
    refine (HRF.out _).mono ?_
    rintro e w1 ⟨rfl, hb1⟩
    (try clear X0 X1 X2 X3)
    have hX1 := hide (hX0.out.keep hb1)
    obtain ⟨X0, X1, X2, X3⟩ := hX1.out
    have hB1 := hide (Below.trans' hB0.out hb1)
    clear hb1
    go_wp2_with fail
    obtain ⟨w2, hw2⟩ : ∃ w2, w2 = w1.alloc (.cells #[.int .i64 n, .int .i64 L, .int .i64 R, .int .i64 B, .int .i64 pl] 64) := ⟨_, rfl⟩
    have hB2' : Below w1.heap.size w1 w2 := by rw [hw2]; exact below_alloc _ _
    have hT2 : w2.heap[w1.heap.size]? = some (.cells #[.int .i64 n, .int .i64 L, .int .i64 R, .int .i64 B, .int .i64 pl] 64 (0, 0)) := by rw [hw2]; exact heap_alloc_new _ _
    rw [← hw2]
    have HT2 := hide hT2
    have hB2 := hide (Below.trans' hB1.out hB2')
    have hl2 := (Array.getElem?_eq_some_iff.1 hT2).1
    have hw1 := hB1.out.size
    obtain ⟨X0', X1', X2', X3', X4', _⟩ := row5 hT2
    clear hw2 hB2' X0 X1 X2 X3 hT2
    (try go_wp2_with fail)
    go_region_held3 (fun W' => W'.cell? ⟨w1.heap.size, 0, none⟩ = some (.int .i64 n) ∧ W'.cell? ⟨w1.heap.size, 1, none⟩ = some (.int .i64 L) ∧ W'.cell? ⟨w1.heap.size, 2, none⟩ = some (.int .i64 R) ∧ W'.cell? ⟨w1.heap.size, 3, none⟩ = some (.int .i64 B) ∧ W'.cell? ⟨w1.heap.size, 4, none⟩ = some (.int .i64 pl)) (first | exact ⟨X0', X1', X2', X3', X4'⟩ | exact ⟨Y0, Y1, Y2, Y3, Y4⟩ | exact ⟨Z0, Z1, Z2, Z3, Z4⟩) ((first | (go_at_call 61; (with_reducible refine (HNW.out _).mono ?_); rintro e w3 ⟨bm, rfl, hkt, hbm, hb3'⟩; have hb3 : Below w2.heap.size w2 w3 := Below.trans' (Below.drew (Below.refl _ _)) hb3'; have hbm2 : w2.heap.size ≤ bm := hbm; have HK3 := hide hkt; have hB3 := hide (Below.trans' hB2.out hb3); (obtain ⟨Y0, Y1, Y2, Y3, Y4, _⟩ := row5 (box_keep HT2.out hb3)); clear hkt hb3 hb3') | (go_at_call 65; (with_reducible refine (HV0.out _ _ HK3.out).mono ?_); rintro e w4 ⟨⟨a4, c4, rfl, ho4, hb4⟩, _⟩; have nX : w1.heap.size ≠ bm := (by omega); have Z0 := hb4.cell Y0 nX; have Z1 := hb4.cell Y1 nX; have Z2 := hb4.cell Y2 nX; have Z3 := hb4.cell Y3 nX; have Z4 := hb4.cell Y4 nX; have HB4 := hide hb4; have HO4 := hide ho4; clear hb4 ho4)))
    all_goals
      go_wp2_with fail
      go_ret2
      exact ⟨a4, c4, rfl, ownsRow_base HO4.out hB3.out.size, below_but hB3.out HB4.out (by omega)⟩
  · have HR : Hid (bsR n L R B game pl = ([], codeP n L R B game pl)) := hide (by unfold bsR; rw [if_neg hc])
    rw [HR.out]
    obtain ⟨c, hcc⟩ : ∃ c, c = codeP n L R B game pl := ⟨_, rfl⟩
    rw [← hcc] at hc ⊢
    have HC := hide hcc.symm
    have HN := hide hc
    have hd : (c != 0) = true := by simp [hc]
    clear hcc hc
    go_enter Try.func32, Try.ntmps32
    go_wp2_with fail
    refine (rulesFor_bad HC.out HN.out _).mono ?_
    rintro e w1 ⟨rfl, hb1⟩
    (try clear X0 X1 X2 X3)
    have hX1 := hide (hX0.out.keep hb1)
    obtain ⟨X0, X1, X2, X3⟩ := hX1.out
    have hB1 := hide (Below.trans' hB0.out hb1)
    clear hb1
    go_wp2_with fail
    go_ret2
    exact newList_nil hB1.out
end Go.Proofs.Ytdimmlpnfghndaa
