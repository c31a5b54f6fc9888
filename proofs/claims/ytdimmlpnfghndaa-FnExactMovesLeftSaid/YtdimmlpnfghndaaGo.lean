/-
  OutcomeOf and BestPoints: the model's text.
-/
import Derived.Test.YtdimmlpnfghndaaGn
import Derived.Test.YtdimmlpnfghndaaFy
namespace Go.Proofs.Ytdimmlpnfghndaa
open Go.RowKit Go.Maps
set_option linter.unusedVariables false

theorem codeP_red (n L R B game : Int) : codeP n L R B game 0 = codeF n L R B game := by
  rw [codeP_eq n L R B game 0]
  rw [if_neg (by omega)]

set_option maxRecDepth 100000 in
set_option maxHeartbeats 1000000 in
theorem specOut_any (n L R B game : Int) (W : World) : Calls Try.prog 29 #[.agg #[.int .i64 n, .int .i64 L, .int .i64 R, .int .i64 B], .int .i64 game] W (RetB (outR n L R B game) W) := by
  have hB0 := hide (below_alloc W (.cells #[.int .i64 n, .int .i64 L, .int .i64 R, .int .i64 B] 25))
  have hX0 := hide (fieldIn_new W n L R B 25)
  obtain ⟨c, hcc⟩ : ∃ c, c = codeF n L R B game := ⟨_, rfl⟩
  have HCD : Hid (∀ V : World, Calls Try.prog 48 #[.agg #[.int .i64 n, .int .i64 L, .int .i64 R, .int .i64 B], .int .i64 game] V (RetB (.int .i64 c) V)) := hide (fun V => by rw [hcc]; exact specCode_any n L R B game V)
  by_cases hc : c = 0
  · have hcz : codeF n L R B game = 0 := by rw [← hcc]; exact hc
    have hcp : codeP n L R B game 0 = 0 := by rw [codeP_red]; exact hcz
    obtain ⟨b0, hb0⟩ : ∃ b, b = win n L R B game 0 := ⟨_, rfl⟩
    obtain ⟨b1, hb1⟩ : ∃ b, b = win n L R B game 1 := ⟨_, rfl⟩
    have HR : Hid (outR n L R B game = .tuple #[.bool b0, .bool b1, .int .i64 0]) := hide (by unfold outR; rw [if_pos hcp, hb0, hb1])
    obtain ⟨g1, g2, g4⟩ := codeF_zero hcz
    have hn8 := (okF_nums g1).2.1
    have hn0 := (okF_nums g1).1
    have HV0 : Hid (∀ (bK M : Nat) (V : World), (M : Int) = 2 * pow3 n.toNat → KnT (valW n L game) n L bK V → Calls Try.prog 60 #[.agg #[.int .i64 n, .int .i64 L, .int .i64 R, .int .i64 B], .int .i64 game, .int .i64 0, .slice (some ⟨bK, 0, none⟩) M M] V (RetK bK (KnT (valW n L game) n L bK) (.bool b0) V)) := hide (fun bK M V hM hk => by rw [hb0]; exact specWins_any n L game bK M hM _ R B 0 V ⟨g1, by omega, by omega⟩ rfl hk)
    have HV1 : Hid (∀ (bK M : Nat) (V : World), (M : Int) = 2 * pow3 n.toNat → KnT (valW n L game) n L bK V → Calls Try.prog 60 #[.agg #[.int .i64 n, .int .i64 L, .int .i64 R, .int .i64 B], .int .i64 game, .int .i64 1, .slice (some ⟨bK, 0, none⟩) M M] V (RetK bK (KnT (valW n L game) n L bK) (.bool b1) V)) := hide (fun bK M V hM hk => by rw [hb1]; exact specWins_any n L game bK M hM _ R B 1 V ⟨g1, by omega, by omega⟩ rfl hk)
    have HTB := hide (fun V : World => table_any n L R B ⟨by omega, hn8⟩ V)
    rw [HR.out]
    clear hcc hcz hcp hb0 hb1 g1 g2 g4
    subst hc
    go_enter Try.func29, Try.ntmps29
    go_wp2_with fail
    refine (HCD.out _).mono ?_
    rintro e w1 ⟨rfl, hb1⟩
    (try clear X0 X1 X2 X3)
    have hX1 := hide (hX0.out.keep hb1)
    obtain ⟨X0, X1, X2, X3⟩ := hX1.out
    have hB1 := hide (Below.trans' hB0.out hb1)
    clear hb1
    go_wp2_with fail
    refine (HTB.out _).mono ?_
    rintro e w2 ⟨bK, M, rfl, hM, hbK, hkt, hb2⟩
    have HT2 := hide (hkt (valW n L game))
    have HMM := hide hM
    have hB2 := hide (Below.trans' hB1.out hb2)
    have hX2 := hX1.out.keep hb2
    have hl1 := hX1.out.lt
    have n0 : W.heap.size ≠ bK := by omega
    obtain ⟨x0, x1, x2, x3⟩ := hX2
    have q0 : ∀ p : PB bK (KnT (valW n L game) n L bK) w2, p.to.cell? ⟨W.heap.size, 0, none⟩ = some (.int .i64 n) := fun p => p.cell x0 n0
    have q1 : ∀ p : PB bK (KnT (valW n L game) n L bK) w2, p.to.cell? ⟨W.heap.size, 1, none⟩ = some (.int .i64 L) := fun p => p.cell x1 n0
    have q2 : ∀ p : PB bK (KnT (valW n L game) n L bK) w2, p.to.cell? ⟨W.heap.size, 2, none⟩ = some (.int .i64 R) := fun p => p.cell x2 n0
    have q3 : ∀ p : PB bK (KnT (valW n L game) n L bK) w2, p.to.cell? ⟨W.heap.size, 3, none⟩ = some (.int .i64 B) := fun p => p.cell x3 n0
    clear hkt hM hb2 X0 X1 X2 X3 x0 x1 x2 x3
    go_wp2_with fail
    refine wp_region_pb (bK) (KnT (valW n L game) n L bK) (fun _ _ h k => KnT.keep h k) (by kernel_rfl) (by kernel_rfl) ?_
    repeat (first | fail | go_big_quiet_step ((first | (go_at_call 60; with_reducible exact retK_pb (HV0.out _ _ _ HMM.out (PB.inv _ HT2.out))) | (go_at_call 60; with_reducible exact retK_pb (HV1.out _ _ _ HMM.out (PB.inv _ HT2.out))))) | quiet_step ((first | (go_at_call 60; with_reducible exact retK_pb (HV0.out _ _ _ HMM.out (PB.inv _ HT2.out))) | (go_at_call 60; with_reducible exact retK_pb (HV1.out _ _ _ HMM.out (PB.inv _ HT2.out))))))
    refine wpQuiet_nil ?_
    rintro _ ⟨pq, rfl⟩
    have HFIN := hide (below_but hB2.out pq.old (by omega))
    clear q0 q1 q2 q3
    go_wp2_with fail
    go_ret3
    exact ⟨rfl, HFIN.out⟩
  · have HR : Hid (outR n L R B game = .tuple #[.bool false, .bool false, .int .i64 c]) := hide (by unfold outR; rw [codeP_red, ← hcc, if_neg hc])
    rw [HR.out]
    have hd : (c != 0) = true := by simp [hc]
    clear hcc hc
    go_enter Try.func29, Try.ntmps29
    go_wp2_with fail
    refine (HCD.out _).mono ?_
    rintro e w1 ⟨rfl, hb1⟩
    (try clear X0 X1 X2 X3)
    have hX1 := hide (hX0.out.keep hb1)
    obtain ⟨X0, X1, X2, X3⟩ := hX1.out
    have hB1 := hide (Below.trans' hB0.out hb1)
    clear hb1
    go_wp2_with fail
    go_ret3
    exact ⟨rfl, hB1.out⟩

/-- The outcome and its code, as one triple. -/
def outO (n L R B game : Int) : Bool × Bool × Int := if codeP n L R B game 0 = 0 then (win n L R B game 0, win n L R B game 1, 0) else (false, false, codeP n L R B game 0)
def outV (r : Bool × Bool × Int) : Value := .tuple #[.bool r.1, .bool r.2.1, .int .i64 r.2.2]
theorem outR_eq (n L R B game : Int) : outR n L R B game = outV (outO n L R B game) := by
  unfold outR outO
  split <;> rfl
theorem specOutcome_any (n L R B game : Int) (W : World) : Calls Try.prog 29 #[.agg #[.int .i64 n, .int .i64 L, .int .i64 R, .int .i64 B], .int .i64 game] W (RetB (outV (outO n L R B game)) W) := by rw [← outR_eq]; exact specOut_any n L R B game W
theorem implOutcome_any (n L R B game : Int) (W : World) : Calls Try.prog 30 #[.agg #[.int .i64 n, .int .i64 L, .int .i64 R, .int .i64 B], .int .i64 game] W (RetB (outV (outO n L R B game)) W) := by rw [← outR_eq]; exact implOut_any n L R B game W
end Go.Proofs.Ytdimmlpnfghndaa
