/-
  Col and snort: the codes, IsFairField, rulesFor, both texts.
-/
import Derived.Test.YtdimmlpnfghndaaFs
namespace Go.Proofs.Ytdimmlpnfghndaa
open Go.RowKit
set_option linter.unusedVariables false

theorem specFair_is {n L R B game : Int} {b : Bool} (hok : okF n L R B = true) (h : fair n L R B game = b) (W : World) : Calls Try.prog 56 #[.agg #[.int .i64 n, .int .i64 L, .int .i64 R, .int .i64 B], .int .i64 game] W (RetB (.bool b) W) := by rw [← h]; exact specFair_any n L R B game hok W
theorem isFair_is {n L R B game : Int} {b : Bool} (hok : okF n L R B = true) (hg : 0 ≤ game ∧ game ≤ 1) (h : fair n L R B game = b) (W : World) : Calls Try.prog 49 #[.agg #[.int .i64 n, .int .i64 L, .int .i64 R, .int .i64 B], ruleV game] W (RetB (.bool b) W) := by rw [← h]; exact isFair_any n L R B game hok hg W

/-- What is known of a code. -/
theorem codeF_bad {n L R B game : Int} (h : okF n L R B = false) : codeF n L R B game = 1 := by simp [codeF, h]
theorem codeF_out {n L R B game : Int} (h : okF n L R B = true) (hg : ¬ (0 ≤ game ∧ game ≤ 1)) : codeF n L R B game = 2 := by simp [codeF, h, hg]
theorem codeF_unfair {n L R B game : Int} (h : okF n L R B = true) (hg : 0 ≤ game ∧ game ≤ 1) (hf : fair n L R B game = false) : codeF n L R B game = 5 := by simp [codeF, h, hg, hf]
theorem codeF_fair {n L R B game : Int} (h : okF n L R B = true) (hg : 0 ≤ game ∧ game ≤ 1) (hf : fair n L R B game = true) : codeF n L R B game = 0 := by simp [codeF, h, hg, hf]
theorem codeF_range (n L R B game : Int) : codeF n L R B game = 0 ∨ codeF n L R B game = 1 ∨ codeF n L R B game = 2 ∨ codeF n L R B game = 5 := by
  cases h : okF n L R B
  · rw [codeF_bad h]; omega
  · by_cases hg : 0 ≤ game ∧ game ≤ 1
    · cases hf : fair n L R B game
      · rw [codeF_unfair h hg hf]; omega
      · rw [codeF_fair h hg hf]; omega
    · rw [codeF_out h hg]; omega
theorem codeF_zero {n L R B game : Int} (h : codeF n L R B game = 0) : okF n L R B = true ∧ (0 ≤ game ∧ game ≤ 1) ∧ fair n L R B game = true := by
  cases hk : okF n L R B
  · rw [codeF_bad hk] at h; omega
  · by_cases hg : 0 ≤ game ∧ game ≤ 1
    · cases hf : fair n L R B game
      · rw [codeF_unfair hk hg hf] at h; omega
      · exact ⟨rfl, hg, rfl⟩
    · rw [codeF_out hk hg] at h; omega

set_option maxHeartbeats 1000000 in
theorem specCode_any (n L R B game : Int) (W : World) : Calls Try.prog 48 #[.agg #[.int .i64 n, .int .i64 L, .int .i64 R, .int .i64 B], .int .i64 game] W (RetB (.int .i64 (codeF n L R B game)) W) := by
  have hB0 := hide (below_alloc W (.cells #[.int .i64 n, .int .i64 L, .int .i64 R, .int .i64 B] 25))
  have hX0 := hide (fieldIn_new W n L R B 25)
  cases hok : okF n L R B
  · have HR := hide (codeF_bad (game := game) hok)
    have HOK := hide hok
    clear hok
    rw [HR.out]
    go_enter Try.func48, Try.ntmps48
    go_wp2_with fail
    refine (specIs_is HOK.out _).mono ?_
    rintro e w1 ⟨rfl, hb1⟩
    (try clear X0 X1 X2 X3)
    have hX1 := hide (hX0.out.keep hb1)
    obtain ⟨X0, X1, X2, X3⟩ := hX1.out
    have hB1 := hide (Below.trans' hB0.out hb1)
    clear hb1
    go_wp2_with fail
    go_ret
    exact ⟨rfl, hB1.out⟩
  · have HOK := hide hok
    cases hg : inn game 0 1
    · have HR := hide (codeF_out hok (inn_no hg))
      have HG := hide hg
      clear hok hg
      rw [HR.out]
      go_enter Try.func48, Try.ntmps48
      go_wp2_with fail
      refine (specIs_is HOK.out _).mono ?_
      rintro e w1 ⟨rfl, hb1⟩
      (try clear X0 X1 X2 X3)
      have hX1 := hide (hX0.out.keep hb1)
      obtain ⟨X0, X1, X2, X3⟩ := hX1.out
      have hB1 := hide (Below.trans' hB0.out hb1)
      clear hb1
      go_wp2_with fail
      refine (inn_is _ _ _ HG.out _).mono ?_
      rintro e w2 ⟨rfl, hb2⟩
      (try clear X0 X1 X2 X3)
      have hX2 := hide (hX1.out.keep hb2)
      obtain ⟨X0, X1, X2, X3⟩ := hX2.out
      have hB2 := hide (Below.trans' hB1.out hb2)
      clear hb2
      go_wp2_with fail
      go_ret
      exact ⟨rfl, hB2.out⟩
    · have HG := hide hg
      cases hf : fair n L R B game
      · have HR := hide (codeF_unfair hok (inn_yes hg) hf)
        have HFF := hide hf
        clear hok hg hf
        rw [HR.out]
        go_enter Try.func48, Try.ntmps48
        go_wp2_with fail
        refine (specIs_is HOK.out _).mono ?_
        rintro e w1 ⟨rfl, hb1⟩
        (try clear X0 X1 X2 X3)
        have hX1 := hide (hX0.out.keep hb1)
        obtain ⟨X0, X1, X2, X3⟩ := hX1.out
        have hB1 := hide (Below.trans' hB0.out hb1)
        clear hb1
        go_wp2_with fail
        refine (inn_is _ _ _ HG.out _).mono ?_
        rintro e w2 ⟨rfl, hb2⟩
        (try clear X0 X1 X2 X3)
        have hX2 := hide (hX1.out.keep hb2)
        obtain ⟨X0, X1, X2, X3⟩ := hX2.out
        have hB2 := hide (Below.trans' hB1.out hb2)
        clear hb2
        go_wp2_with fail
        refine (specFair_is HOK.out HFF.out _).mono ?_
        rintro e w3 ⟨rfl, hb3⟩
        (try clear X0 X1 X2 X3)
        have hX3 := hide (hX2.out.keep hb3)
        obtain ⟨X0, X1, X2, X3⟩ := hX3.out
        have hB3 := hide (Below.trans' hB2.out hb3)
        clear hb3
        go_wp2_with fail
        go_ret
        exact ⟨rfl, hB3.out⟩
      · have HR := hide (codeF_fair hok (inn_yes hg) hf)
        have HFF := hide hf
        clear hok hg hf
        rw [HR.out]
        go_enter Try.func48, Try.ntmps48
        go_wp2_with fail
        refine (specIs_is HOK.out _).mono ?_
        rintro e w1 ⟨rfl, hb1⟩
        (try clear X0 X1 X2 X3)
        have hX1 := hide (hX0.out.keep hb1)
        obtain ⟨X0, X1, X2, X3⟩ := hX1.out
        have hB1 := hide (Below.trans' hB0.out hb1)
        clear hb1
        go_wp2_with fail
        refine (inn_is _ _ _ HG.out _).mono ?_
        rintro e w2 ⟨rfl, hb2⟩
        (try clear X0 X1 X2 X3)
        have hX2 := hide (hX1.out.keep hb2)
        obtain ⟨X0, X1, X2, X3⟩ := hX2.out
        have hB2 := hide (Below.trans' hB1.out hb2)
        clear hb2
        go_wp2_with fail
        refine (specFair_is HOK.out HFF.out _).mono ?_
        rintro e w3 ⟨rfl, hb3⟩
        (try clear X0 X1 X2 X3)
        have hX3 := hide (hX2.out.keep hb3)
        obtain ⟨X0, X1, X2, X3⟩ := hX3.out
        have hB3 := hide (Below.trans' hB2.out hb3)
        clear hb3
        go_wp2_with fail
        go_ret
        exact ⟨rfl, hB3.out⟩

/-! ### IsFairField -/
def ffR (n L R B game : Int) : Bool × Int := if codeF n L R B game = 5 then (false, 0) else (decide (codeF n L R B game = 0), codeF n L R B game)

set_option maxHeartbeats 1000000 in
theorem specFF_any (n L R B game : Int) (W : World) : Calls Try.prog 19 #[.agg #[.int .i64 n, .int .i64 L, .int .i64 R, .int .i64 B], .int .i64 game] W (RetB (biV (ffR n L R B game)) W) := by
  have hB0 := hide (below_alloc W (.cells #[.int .i64 n, .int .i64 L, .int .i64 R, .int .i64 B] 25))
  have hX0 := hide (fieldIn_new W n L R B 25)
  obtain ⟨c, hc⟩ : ∃ c, c = codeF n L R B game := ⟨_, rfl⟩
  have hr : c = 0 ∨ c = 1 ∨ c = 2 ∨ c = 5 := by rw [hc]; exact codeF_range _ _ _ _ _
  have HC := hide hc.symm
  have HR : Hid (ffR n L R B game = if c = 5 then (false, 0) else (decide (c = 0), c)) := hide (by rw [hc]; rfl)
  clear hc
  rw [HR.out]
  rcases hr with rfl | rfl | rfl | rfl
  all_goals
    go_enter Try.func19, Try.ntmps19
    go_wp2_with fail
    refine (specCode_any n L R B game _).mono ?_
    rw [HC.out]
    rintro e w1 ⟨rfl, hb1⟩
    (try clear X0 X1 X2 X3)
    have hX1 := hide (hX0.out.keep hb1)
    obtain ⟨X0, X1, X2, X3⟩ := hX1.out
    have hB1 := hide (Below.trans' hB0.out hb1)
    clear hb1
    go_wp2_with fail
    go_ret2
    exact ⟨rfl, hB1.out⟩

set_option maxHeartbeats 1000000 in
theorem implFF_any (n L R B game : Int) (W : World) : Calls Try.prog 20 #[.agg #[.int .i64 n, .int .i64 L, .int .i64 R, .int .i64 B], .int .i64 game] W (RetB (biV (ffR n L R B game)) W) := by
  have hB0 := hide (below_alloc W (.cells #[.int .i64 n, .int .i64 L, .int .i64 R, .int .i64 B] 25))
  have hX0 := hide (fieldIn_new W n L R B 25)
  cases hok : okF n L R B
  · have HR : Hid (ffR n L R B game = (false, 1)) := hide (by simp [ffR, codeF_bad hok])
    have HOK := hide hok
    clear hok
    rw [HR.out]
    go_enter Try.func20, Try.ntmps20
    go_wp2_with fail
    refine (implIs_is HOK.out _).mono ?_
    rintro e w1 ⟨rfl, hb1⟩
    (try clear X0 X1 X2 X3)
    have hX1 := hide (hX0.out.keep hb1)
    obtain ⟨X0, X1, X2, X3⟩ := hX1.out
    have hB1 := hide (Below.trans' hB0.out hb1)
    clear hb1
    go_wp2_with fail
    go_ret2
    exact ⟨rfl, hB1.out⟩
  · have HOK := hide hok
    by_cases g0 : game < 0
    · have HR : Hid (ffR n L R B game = (false, 2)) := hide (by simp [ffR, codeF_out hok (show ¬ (0 ≤ game ∧ game ≤ 1) by omega)])
      have hd : decide (game < 0) = true := decide_eq_true g0
      clear hok
      rw [HR.out]
      go_enter Try.func20, Try.ntmps20
      go_wp2_with fail
      refine (implIs_is HOK.out _).mono ?_
      rintro e w1 ⟨rfl, hb1⟩
      (try clear X0 X1 X2 X3)
      have hX1 := hide (hX0.out.keep hb1)
      obtain ⟨X0, X1, X2, X3⟩ := hX1.out
      have hB1 := hide (Below.trans' hB0.out hb1)
      clear hb1
      go_wp2_with fail
      go_ret2
      exact ⟨rfl, hB1.out⟩
    · have hd : decide (game < 0) = false := decide_eq_false g0
      by_cases g1 : 2 ≤ game
      · have HR : Hid (ffR n L R B game = (false, 2)) := hide (by simp [ffR, codeF_out hok (show ¬ (0 ≤ game ∧ game ≤ 1) by omega)])
        have hd2 : decide (2 ≤ game) = true := decide_eq_true g1
        clear hok
        rw [HR.out]
        go_enter Try.func20, Try.ntmps20
        go_wp2_with fail
        refine (implIs_is HOK.out _).mono ?_
        rintro e w1 ⟨rfl, hb1⟩
        (try clear X0 X1 X2 X3)
        have hX1 := hide (hX0.out.keep hb1)
        obtain ⟨X0, X1, X2, X3⟩ := hX1.out
        have hB1 := hide (Below.trans' hB0.out hb1)
        clear hb1
        go_wp2_with fail
        go_ret2
        exact ⟨rfl, hB1.out⟩
      · have hd2 : decide (2 ≤ game) = false := decide_eq_false g1
        have hg : 0 ≤ game ∧ game ≤ 1 := by omega
        have HG := hide hg
        obtain ⟨f, hf⟩ : ∃ f, f = fair n L R B game := ⟨_, rfl⟩
        have HR : Hid (ffR n L R B game = (f, 0)) := hide (by
          cases h : fair n L R B game
          · simp [ffR, codeF_unfair hok hg h, hf, h]
          · simp [ffR, codeF_fair hok hg h, hf, h])
        have HFF := hide hf.symm
        obtain ⟨rv, hrv⟩ : ∃ rv, rv = ruleV game := ⟨_, rfl⟩
        have hru : Hid (∀ V : World, Calls Try.prog 50 #[.int .i64 game] V (RetB rv V)) := hide (fun V => by rw [hrv]; exact rulesOf_any game V)
        have hfa : Hid (∀ V : World, Calls Try.prog 49 #[.agg #[.int .i64 n, .int .i64 L, .int .i64 R, .int .i64 B], rv] V (RetB (.bool f) V)) := hide (fun V => by rw [hrv]; exact isFair_is HOK.out HG.out HFF.out V)
        clear hok hg hf hrv
        rw [HR.out]
        go_enter Try.func20, Try.ntmps20
        go_wp2_with fail
        refine (implIs_is HOK.out _).mono ?_
        rintro e w1 ⟨rfl, hb1⟩
        (try clear X0 X1 X2 X3)
        have hX1 := hide (hX0.out.keep hb1)
        obtain ⟨X0, X1, X2, X3⟩ := hX1.out
        have hB1 := hide (Below.trans' hB0.out hb1)
        clear hb1
        go_wp2_with fail
        obtain ⟨p0, p1, p2, p3⟩ := hX1.out.past
        refine wp_region_past (by kernel_rfl) (by kernel_rfl) ?_
        repeat (first | go_big_quiet_step ((first | (go_at_call 50; (with_reducible exact ret_past (hru.out _))) | (go_at_call 49; (with_reducible exact ret_past (hfa.out _))))) | quiet_step ((first | (go_at_call 50; (with_reducible exact ret_past (hru.out _))) | (go_at_call 49; (with_reducible exact ret_past (hfa.out _))))))
        refine wpQuiet_nil ?_
        rintro _ ⟨pq, rfl⟩
        clear p0 p1 p2 p3 X0 X1 X2 X3
        go_wp2_with fail
        go_ret2
        exact ⟨rfl, Below.trans' hB1.out pq.old⟩
theorem implFF_is {n L R B game : Int} {b : Bool} {c : Int} (h : ffR n L R B game = (b, c)) (W : World) : Calls Try.prog 20 #[.agg #[.int .i64 n, .int .i64 L, .int .i64 R, .int .i64 B], .int .i64 game] W (RetB (.tuple #[.bool b, .int .i64 c]) W) := by
  have := implFF_any n L R B game W
  rw [h] at this
  exact this

/-! ### a player, too -/
def plB (pl : Int) : Bool := decide (0 ≤ pl ∧ pl ≤ 1)
theorem codeP_eq (n L R B game pl : Int) : codeP n L R B game pl = if codeF n L R B game ≠ 1 ∧ ¬ (0 ≤ pl ∧ pl ≤ 1) then 2 else codeF n L R B game := by
  unfold codeP
  cases h : okF n L R B
  · rw [codeF_bad h]; simp
  · by_cases hg : 0 ≤ game ∧ game ≤ 1
    · cases hf : fair n L R B game
      · rw [codeF_unfair h hg hf]
        by_cases hp : 0 ≤ pl ∧ pl ≤ 1
        · simp [hg, hp]
        · simp [hp]
      · rw [codeF_fair h hg hf]
        by_cases hp : 0 ≤ pl ∧ pl ≤ 1
        · simp [hg, hp]
        · simp [hp]
    · rw [codeF_out h hg]
      simp [hg]
theorem codeP_zero {n L R B game pl : Int} (h : codeP n L R B game pl = 0) : okF n L R B = true ∧ (0 ≤ game ∧ game ≤ 1) ∧ (0 ≤ pl ∧ pl ≤ 1) ∧ fair n L R B game = true := by
  rw [codeP_eq] at h
  split at h
  · omega
  · rename_i hn
    obtain ⟨h1, h2, h3⟩ := codeF_zero h
    refine ⟨h1, h2, ?_, h3⟩
    by_cases hp : 0 ≤ pl ∧ pl ≤ 1
    · exact hp
    · exact absurd ⟨by omega, hp⟩ hn
theorem codeP_range (n L R B game pl : Int) : codeP n L R B game pl = 0 ∨ codeP n L R B game pl = 1 ∨ codeP n L R B game pl = 2 ∨ codeP n L R B game pl = 5 := by
  rw [codeP_eq]
  split
  · omega
  · exact codeF_range _ _ _ _ _

set_option maxHeartbeats 1000000 in
theorem specPlayer_any (n L R B game pl : Int) (W : World) : Calls Try.prog 51 #[.agg #[.int .i64 n, .int .i64 L, .int .i64 R, .int .i64 B], .int .i64 game, .int .i64 pl] W (RetB (.int .i64 (codeP n L R B game pl)) W) := by
  have hB0 := hide (below_alloc W (.cells #[.int .i64 n, .int .i64 L, .int .i64 R, .int .i64 B] 25))
  have hX0 := hide (fieldIn_new W n L R B 25)
  obtain ⟨c, hc⟩ : ∃ c, c = codeF n L R B game := ⟨_, rfl⟩
  have HR : Hid (codeP n L R B game pl = if c ≠ 1 ∧ ¬ (0 ≤ pl ∧ pl ≤ 1) then 2 else c) := hide (by rw [hc]; exact codeP_eq _ _ _ _ _ _)
  have HC := hide hc.symm
  clear hc
  by_cases h1 : c = 1
  · subst h1
    rw [HR.out, if_neg (by simp)]
    go_enter Try.func51, Try.ntmps51
    go_wp2_with fail
    refine (specCode_any n L R B game _).mono ?_
    rw [HC.out]
    rintro e w1 ⟨rfl, hb1⟩
    (try clear X0 X1 X2 X3)
    have hX1 := hide (hX0.out.keep hb1)
    obtain ⟨X0, X1, X2, X3⟩ := hX1.out
    have hB1 := hide (Below.trans' hB0.out hb1)
    clear hb1
    go_wp2_with fail
    go_ret
    exact ⟨rfl, hB1.out⟩
  · have hd : (c != 1) = true := by simp [h1]
    cases hp : inn pl 0 1
    · have HP := hide hp
      rw [HR.out, if_pos ⟨h1, inn_no hp⟩]
      clear hp h1
      go_enter Try.func51, Try.ntmps51
      go_wp2_with fail
      refine (specCode_any n L R B game _).mono ?_
      rw [HC.out]
      rintro e w1 ⟨rfl, hb1⟩
      (try clear X0 X1 X2 X3)
      have hX1 := hide (hX0.out.keep hb1)
      obtain ⟨X0, X1, X2, X3⟩ := hX1.out
      have hB1 := hide (Below.trans' hB0.out hb1)
      clear hb1
      go_wp2_with fail
      refine (inn_is _ _ _ HP.out _).mono ?_
      rintro e w2 ⟨rfl, hb2⟩
      (try clear X0 X1 X2 X3)
      have hX2 := hide (hX1.out.keep hb2)
      obtain ⟨X0, X1, X2, X3⟩ := hX2.out
      have hB2 := hide (Below.trans' hB1.out hb2)
      clear hb2
      go_wp2_with fail
      go_ret
      exact ⟨rfl, hB2.out⟩
    · have HP := hide hp
      rw [HR.out, if_neg (fun h => h.2 (inn_yes hp))]
      clear hp h1
      go_enter Try.func51, Try.ntmps51
      go_wp2_with fail
      refine (specCode_any n L R B game _).mono ?_
      rw [HC.out]
      rintro e w1 ⟨rfl, hb1⟩
      (try clear X0 X1 X2 X3)
      have hX1 := hide (hX0.out.keep hb1)
      obtain ⟨X0, X1, X2, X3⟩ := hX1.out
      have hB1 := hide (Below.trans' hB0.out hb1)
      clear hb1
      go_wp2_with fail
      refine (inn_is _ _ _ HP.out _).mono ?_
      rintro e w2 ⟨rfl, hb2⟩
      (try clear X0 X1 X2 X3)
      have hX2 := hide (hX1.out.keep hb2)
      obtain ⟨X0, X1, X2, X3⟩ := hX2.out
      have hB2 := hide (Below.trans' hB1.out hb2)
      clear hb2
      go_wp2_with fail
      go_ret
      exact ⟨rfl, hB2.out⟩

/-- What rulesFor hands back. -/
def rfV (n L R B game pl : Int) : Value := .tuple #[if codeP n L R B game pl = 0 then ruleV game else .nilIface, .int .i64 (codeP n L R B game pl)]
set_option maxHeartbeats 1000000 in
theorem rulesFor_any (n L R B game pl : Int) (W : World) : Calls Try.prog 53 #[.agg #[.int .i64 n, .int .i64 L, .int .i64 R, .int .i64 B], .int .i64 game, .int .i64 pl] W (RetB (rfV n L R B game pl) W) := by
  have hB0 := hide (below_alloc W (.cells #[.int .i64 n, .int .i64 L, .int .i64 R, .int .i64 B] 25))
  have hX0 := hide (fieldIn_new W n L R B 25)
  obtain ⟨c, hc⟩ : ∃ c, c = codeF n L R B game := ⟨_, rfl⟩
  have HCP : Hid (codeP n L R B game pl = if c ≠ 1 ∧ ¬ (0 ≤ pl ∧ pl ≤ 1) then 2 else c) := hide (by rw [hc]; exact codeP_eq _ _ _ _ _ _)
  have HFR : Hid (ffR n L R B game = if c = 5 then (false, 0) else (decide (c = 0), c)) := hide (by rw [hc]; rfl)
  have hr : c = 0 ∨ c = 1 ∨ c = 2 ∨ c = 5 := by rw [hc]; exact codeF_range _ _ _ _ _
  clear hc
  by_cases hbad : c = 1 ∨ c = 2
  · have HR : Hid (rfV n L R B game pl = .tuple #[.nilIface, .int .i64 c]) := hide (by
      have : codeP n L R B game pl = c := by
        rw [HCP.out]
        split
        · rcases hbad with h | h
          · rename_i h2; exact absurd h h2.1
          · omega
        · rfl
      unfold rfV
      rw [this, if_neg (by omega)])
    have HF2 : Hid (ffR n L R B game = (false, c)) := hide (by rw [HFR.out, if_neg (by omega)]; simp; omega)
    have hd : (c != 0) = true := by simp; omega
    rw [HR.out]
    clear hr hbad
    go_enter Try.func53, Try.ntmps53
    go_wp2_with fail
    refine (implFF_is HF2.out _).mono ?_
    rintro e w1 ⟨rfl, hb1⟩
    (try clear X0 X1 X2 X3)
    have hX1 := hide (hX0.out.keep hb1)
    obtain ⟨X0, X1, X2, X3⟩ := hX1.out
    have hB1 := hide (Below.trans' hB0.out hb1)
    clear hb1
    go_wp2_with fail
    go_ret2
    exact ⟨rfl, hB1.out⟩
  · have h05 : c = 0 ∨ c = 5 := by omega
    have HF2 : Hid (ffR n L R B game = (decide (c = 0), 0)) := hide (by rw [HFR.out]; rcases h05 with h | h <;> simp [h])
    clear hr hbad
    by_cases p0 : pl < 0
    · have HR : Hid (rfV n L R B game pl = .tuple #[.nilIface, .int .i64 2]) := hide (by
        have : codeP n L R B game pl = 2 := by rw [HCP.out, if_pos ⟨by omega, by omega⟩]
        unfold rfV; rw [this]; rfl)
      have hd : decide (pl < 0) = true := decide_eq_true p0
      rw [HR.out]
      clear h05
      go_enter Try.func53, Try.ntmps53
      go_wp2_with fail
      refine (implFF_is HF2.out _).mono ?_
      rintro e w1 ⟨rfl, hb1⟩
      (try clear X0 X1 X2 X3)
      have hX1 := hide (hX0.out.keep hb1)
      obtain ⟨X0, X1, X2, X3⟩ := hX1.out
      have hB1 := hide (Below.trans' hB0.out hb1)
      clear hb1
      go_wp2_with fail
      go_ret2
      exact ⟨rfl, hB1.out⟩
    · have hd : decide (pl < 0) = false := decide_eq_false p0
      by_cases p1 : 2 ≤ pl
      · have HR : Hid (rfV n L R B game pl = .tuple #[.nilIface, .int .i64 2]) := hide (by
          have : codeP n L R B game pl = 2 := by rw [HCP.out, if_pos ⟨by omega, by omega⟩]
          unfold rfV; rw [this]; rfl)
        have hd2 : decide (2 ≤ pl) = true := decide_eq_true p1
        rw [HR.out]
        clear h05
        go_enter Try.func53, Try.ntmps53
        go_wp2_with fail
        refine (implFF_is HF2.out _).mono ?_
        rintro e w1 ⟨rfl, hb1⟩
        (try clear X0 X1 X2 X3)
        have hX1 := hide (hX0.out.keep hb1)
        obtain ⟨X0, X1, X2, X3⟩ := hX1.out
        have hB1 := hide (Below.trans' hB0.out hb1)
        clear hb1
        go_wp2_with fail
        go_ret2
        exact ⟨rfl, hB1.out⟩
      · have hd2 : decide (2 ≤ pl) = false := decide_eq_false p1
        have hcp : codeP n L R B game pl = c := by rw [HCP.out, if_neg (fun h => h.2 (by omega))]
        rcases h05 with rfl | rfl
        · have HR : Hid (rfV n L R B game pl = .tuple #[ruleV game, .int .i64 0]) := hide (by unfold rfV; rw [hcp]; rfl)
          have HF3 : Hid (ffR n L R B game = (true, 0)) := hide (by rw [HF2.out]; rfl)
          rw [HR.out]
          clear hcp
          go_enter Try.func53, Try.ntmps53
          go_wp2_with fail
          refine (implFF_is HF3.out _).mono ?_
          rintro e w1 ⟨rfl, hb1⟩
          (try clear X0 X1 X2 X3)
          have hX1 := hide (hX0.out.keep hb1)
          obtain ⟨X0, X1, X2, X3⟩ := hX1.out
          have hB1 := hide (Below.trans' hB0.out hb1)
          clear hb1
          go_wp2_with fail
          refine (rulesOf_any game _).mono ?_
          rintro e w2 ⟨rfl, hb2⟩
          have hB2 := hide (Below.trans' hB1.out hb2)
          clear hb2
          go_wp2_with fail
          go_ret2
          exact ⟨rfl, hB2.out⟩
        · have HR : Hid (rfV n L R B game pl = .tuple #[.nilIface, .int .i64 5]) := hide (by unfold rfV; rw [hcp]; rfl)
          have HF3 : Hid (ffR n L R B game = (false, 0)) := hide (by rw [HF2.out]; rfl)
          rw [HR.out]
          clear hcp
          go_enter Try.func53, Try.ntmps53
          go_wp2_with fail
          refine (implFF_is HF3.out _).mono ?_
          rintro e w1 ⟨rfl, hb1⟩
          (try clear X0 X1 X2 X3)
          have hX1 := hide (hX0.out.keep hb1)
          obtain ⟨X0, X1, X2, X3⟩ := hX1.out
          have hB1 := hide (Below.trans' hB0.out hb1)
          clear hb1
          go_wp2_with fail
          go_ret2
          exact ⟨rfl, hB1.out⟩
end Go.Proofs.Ytdimmlpnfghndaa
