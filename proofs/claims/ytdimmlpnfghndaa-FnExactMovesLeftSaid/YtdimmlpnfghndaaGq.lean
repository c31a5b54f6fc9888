/-
  MovesLeft: the model's text; both.
-/
import Derived.Test.YtdimmlpnfghndaaGp
import Derived.Test.YtdimmlpnfghndaaGo
import Derived.Test.YtdimmlpnfghndaaFz
import Derived.Deep.RegionHeld3
namespace Go.Proofs.Ytdimmlpnfghndaa
open Go.RowKit Go.Maps
set_option linter.unusedVariables false

set_option maxRecDepth 100000 in
set_option maxHeartbeats 2000000 in
theorem specLeft2_any (n L R B game : Int) (W : World) : Calls Try.prog 35 #[.agg #[.int .i64 n, .int .i64 L, .int .i64 R, .int .i64 B], .int .i64 game] W (RetB (leftR n L R B game) W) := by
  have hB0 := hide (below_alloc W (.cells #[.int .i64 n, .int .i64 L, .int .i64 R, .int .i64 B] 25))
  have hX0 := hide (fieldIn_new W n L R B 25)
  obtain ⟨c, hcc⟩ : ∃ c, c = codeF n L R B game := ⟨_, rfl⟩
  have HCD : Hid (∀ V : World, Calls Try.prog 48 #[.agg #[.int .i64 n, .int .i64 L, .int .i64 R, .int .i64 B], .int .i64 game] V (RetB (.int .i64 c) V)) := hide (fun V => by rw [hcc]; exact specCode_any n L R B game V)
  by_cases hc : c = 0
  · have hcz : codeF n L R B game = 0 := by rw [← hcc]; exact hc
    have hcp : codeP n L R B game 0 = 0 := by rw [codeP_red]; exact hcz
    obtain ⟨v1, hv1⟩ : ∃ b, b = left upMin n L R B game 0 := ⟨_, rfl⟩
    obtain ⟨v2, hv2⟩ : ∃ b, b = left upMax n L R B game 0 := ⟨_, rfl⟩
    have HR : Hid (leftR n L R B game = .tuple #[.int .i64 v1, .int .i64 v2, .int .i64 0]) := hide (by unfold leftR; rw [if_pos hcp, hv1, hv2])
    obtain ⟨g1, g2, g4⟩ := codeF_zero hcz
    have hn8 := (okF_nums g1).2.1
    have hn0 := (okF_nums g1).1
    have HV0 : Hid (∀ (bK M : Nat) (V : World), (M : Int) = 2 * pow3 n.toNat → KnT (valL n L game) n L bK V → Calls Try.prog 67 #[.agg #[.int .i64 n, .int .i64 L, .int .i64 R, .int .i64 B], .int .i64 game, .int .i64 0, .slice (some ⟨bK, 0, none⟩) M M] V (RetK bK (KnT (valL n L game) n L bK) (.tuple #[.int .i64 v1, .int .i64 v2]) V)) := hide (fun bK M V hM hk => by rw [hv1, hv2]; exact specLeft_any n L game bK M hM _ R B 0 V ⟨g1, by omega, by omega⟩ rfl hk)
    have HTB := hide (fun V : World => table_any n L R B ⟨by omega, hn8⟩ V)
    rw [HR.out]
    clear hcc hcz hcp hv1 hv2 g1 g2 g4
    subst hc
    go_enter Try.func35, Try.ntmps35
    go_wp2_with fail
    refine (HCD.out _).mono ?_
    rintro e w1 ⟨rfl, hb1⟩
    (try clear X0 X1 X2 X3)
    have hX1 := hide (hX0.out.keep hb1)
    obtain ⟨X0, X1, X2, X3⟩ := hX1.out
    have hB1 := hide (Below.trans' hB0.out hb1)
    clear hb1
    have hl1 := hX1.out.lt
    go_wp2_with fail
    go_region_held3 (fun W' => W'.cell? ⟨W.heap.size, 0, none⟩ = some (.int .i64 n) ∧ W'.cell? ⟨W.heap.size, 1, none⟩ = some (.int .i64 L) ∧ W'.cell? ⟨W.heap.size, 2, none⟩ = some (.int .i64 R) ∧ W'.cell? ⟨W.heap.size, 3, none⟩ = some (.int .i64 B)) (first | exact ⟨X0, X1, X2, X3⟩ | exact ⟨Y0, Y1, Y2, Y3⟩ | exact ⟨Z0, Z1, Z2, Z3⟩) ((first | (go_at_call 59; (with_reducible refine (HTB.out _).mono ?_); rintro e w2 ⟨bK, M, rfl, hM, hbK, hkt, hb2'⟩; have hb2 : Below w1.heap.size w1 w2 := Below.trans' (Below.drew (Below.refl _ _)) hb2'; have hbK2 : w1.heap.size ≤ bK := hbK; have HT2 := hide (hkt (valL n L game)); have HMM := hide hM; have hB2 := hide (Below.trans' hB1.out hb2); (obtain ⟨Y0, Y1, Y2, Y3⟩ := hX1.out.keep hb2); clear hkt hM hb2 hb2') | (go_at_call 67; (with_reducible refine (HV0.out _ _ _ HMM.out HT2.out).mono ?_); rintro e w3 ⟨rfl, hb3, _⟩; have nX : W.heap.size ≠ bK := (by omega); have Z0 := hb3.cell Y0 nX; have Z1 := hb3.cell Y1 nX; have Z2 := hb3.cell Y2 nX; have Z3 := hb3.cell Y3 nX; have HB3 := hide hb3; clear hb3)))
    all_goals
      go_wp2_with fail
      go_ret3
      exact ⟨rfl, below_but hB2.out HB3.out (by omega)⟩
  · have HR : Hid (leftR n L R B game = .tuple #[.int .i64 0, .int .i64 0, .int .i64 c]) := hide (by unfold leftR; rw [codeP_red, ← hcc, if_neg hc])
    rw [HR.out]
    have hd : (c != 0) = true := by simp [hc]
    clear hcc hc
    go_enter Try.func35, Try.ntmps35
    go_wp2_with fail
    refine (HCD.out _).mono ?_
    rintro e w1 ⟨rfl, hb1⟩
    (try clear X0 X1 X2 X3)
    have hX1 := hide (hX0.out.keep hb1)
    obtain ⟨X0, X1, X2, X3⟩ := hX1.out
    have hB1 := hide (Below.trans' hB0.out hb1)
    clear hb1
    go_wp2_with fail
    go_ret3
    exact ⟨rfl, hB1.out⟩

/-- The two numbers and the code, as one triple. -/
def lfO (n L R B game : Int) : Int × Int × Int := if codeP n L R B game 0 = 0 then (left upMin n L R B game 0, left upMax n L R B game 0, 0) else (0, 0, codeP n L R B game 0)
def lfV (r : Int × Int × Int) : Value := .tuple #[.int .i64 r.1, .int .i64 r.2.1, .int .i64 r.2.2]
theorem leftR_eq (n L R B game : Int) : leftR n L R B game = lfV (lfO n L R B game) := by
  unfold leftR lfO
  split <;> rfl
theorem specML_any (n L R B game : Int) (W : World) : Calls Try.prog 35 #[.agg #[.int .i64 n, .int .i64 L, .int .i64 R, .int .i64 B], .int .i64 game] W (RetB (lfV (lfO n L R B game)) W) := by rw [← leftR_eq]; exact specLeft2_any n L R B game W
theorem implML_any (n L R B game : Int) (W : World) : Calls Try.prog 36 #[.agg #[.int .i64 n, .int .i64 L, .int .i64 R, .int .i64 B], .int .i64 game] W (RetB (lfV (lfO n L R B game)) W) := by rw [← leftR_eq]; exact implLeft_any n L R B game W
end Go.Proofs.Ytdimmlpnfghndaa
