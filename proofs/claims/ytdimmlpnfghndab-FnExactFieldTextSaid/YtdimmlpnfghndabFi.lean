/-
  Col and snort: the box of a field; what isSetOf, linePlace, l01In do; IsField, both texts.
-/
import Derived.Test.YtdimmlpnfghndabFp
import Derived.Test.YtdimmlpnfghndabCo
namespace Go.Proofs.Ytdimmlpnfghndab
open Go.RowKit
set_option linter.unusedVariables false

/-- The box of a field, in whatever has come of its world. -/
def FieldIn (W : World) (b : Nat) (n L R B : Int) : Prop := W.cell? ⟨b, 0, none⟩ = some (.int .i64 n) ∧ W.cell? ⟨b, 1, none⟩ = some (.int .i64 L) ∧ W.cell? ⟨b, 2, none⟩ = some (.int .i64 R) ∧ W.cell? ⟨b, 3, none⟩ = some (.int .i64 B)
theorem fieldIn_new (W : World) (n L R B : Int) (t : TypeId) : FieldIn (W.alloc (.cells #[.int .i64 n, .int .i64 L, .int .i64 R, .int .i64 B] t)) W.heap.size n L R B := by
  refine ⟨?_, ?_, ?_, ?_⟩ <;> simp [go_sem]
theorem FieldIn.keep {W W' : World} {b : Nat} {n L R B : Int} (hx : FieldIn W b n L R B) (hb : Below W.heap.size W W') : FieldIn W' b n L R B := ⟨cell_keep hb hx.1, cell_keep hb hx.2.1, cell_keep hb hx.2.2.1, cell_keep hb hx.2.2.2⟩
theorem FieldIn.past {W : World} {b : Nat} {n L R B : Int} (hx : FieldIn W b n L R B) : (∀ p : Past W, p.to.cell? ⟨b, 0, none⟩ = some (.int .i64 n)) ∧ (∀ p : Past W, p.to.cell? ⟨b, 1, none⟩ = some (.int .i64 L)) ∧ (∀ p : Past W, p.to.cell? ⟨b, 2, none⟩ = some (.int .i64 R)) ∧ (∀ p : Past W, p.to.cell? ⟨b, 3, none⟩ = some (.int .i64 B)) :=
  ⟨fun p => p.cell hx.1, fun p => p.cell hx.2.1, fun p => p.cell hx.2.2.1, fun p => p.cell hx.2.2.2⟩
theorem FieldIn.lt {W : World} {b : Nat} {n L R B : Int} (hx : FieldIn W b n L R B) : b < W.heap.size := World.block_lt_of_cell? W _ hx.1

def setB (x : Int) (c : Nat) : Bool := decide (0 ≤ x) && decide (x < 2 ^ c)
theorem setB_yes {x : Int} {c : Nat} (h : setB x c = true) : 0 ≤ x ∧ x < 2 ^ c := by simpa [setB] using h
theorem setB_no {x : Int} {c : Nat} (h : setB x c = false) : ¬ (0 ≤ x ∧ x < 2 ^ c) := by
  intro ⟨h1, h2⟩
  simp [setB, h1, h2] at h

theorem pow_28 {k : Int} (hk : k.toNat ≤ 28) : (0 : Int) ≤ 2 ^ k.toNat ∧ (2 : Int) ^ k.toNat ≤ 268435456 := by
  refine ⟨Int.le_of_lt (Int.pow_pos (by decide)), ?_⟩
  have := pow_mono hk
  simpa using this
theorem shl_walkL {k : Int} (hk : k.toNat ≤ 28) : wrap64 ((2 : Int) ^ k.toNat) = 2 ^ k.toNat := by
  have := pow_28 hk
  unfold wrap64
  omega

set_option maxHeartbeats 400000 in
theorem isSet_any (x c : Int) (h0 : 0 ≤ c) (h1 : c ≤ 28) (W : World) : Calls Try.prog 16 #[.int .i64 x, .int .i64 c] W (RetB (.bool (setB x c.toNat)) W) := by
  have hs := shl_walkL (k := c) (by omega)
  by_cases h : 0 ≤ x
  · have hd : decide (0 ≤ x) = true := decide_eq_true h
    have hfin : Hid (setB x c.toNat = decide (x < 2 ^ c.toNat)) := hide (by simp [setB, h])
    go_enter Try.func16, Try.ntmps16
    go_wp2
    go_ret
    exact ⟨ret_bool hfin.out.symm, Below.refl _ _⟩
  · have hd : decide (0 ≤ x) = false := decide_eq_false h
    have hfin : Hid (setB x c.toNat = false) := hide (by simp [setB]; omega)
    go_enter Try.func16, Try.ntmps16
    go_wp2
    go_ret
    exact ⟨ret_bool hfin.out.symm, Below.refl _ _⟩
theorem isSet_is {b : Bool} (x c : Int) (h0 : 0 ≤ c) (h1 : c ≤ 28) (h : setB x c.toNat = b) (W : World) : Calls Try.prog 16 #[.int .i64 x, .int .i64 c] W (RetB (.bool b) W) := by
  rw [← h]; exact isSet_any x c h0 h1 W

set_option maxHeartbeats 400000 in
theorem linePlace_any (i j : Int) (hi0 : 0 ≤ i) (hi1 : i ≤ 8) (h0 : 0 ≤ j) (h1 : j ≤ 8) (W : World) : Calls Try.prog 17 #[.int .i64 i, .int .i64 j] W (RetB (.int .i64 (lp i j)) W) := by
  obtain ⟨a0, a1, a2, a3⟩ := lp_nums h0 h1
  have hq : wrap64 ((j * (j - 1)).tdiv 2) = j * (j - 1) / 2 := by rw [Int.tdiv_eq_ediv_of_nonneg a0]; exact wrap64_small a2 (by omega)
  have hfin : Hid (lp i j = j * (j - 1) / 2 + i) := hide rfl
  go_enter Try.func17, Try.ntmps17
  go_wp2
  go_ret
  exact ⟨ret_int hfin.out.symm, Below.refl _ _⟩

def inn (n lo hi : Int) : Bool := decide (lo ≤ n) && decide (n ≤ hi)
set_option maxHeartbeats 400000 in
theorem inn_any (n lo hi : Int) (W : World) : Calls Try.prog 14 #[.int .i64 n, .int .i64 lo, .int .i64 hi] W (RetB (.bool (inn n lo hi)) W) := by
  by_cases h1 : lo ≤ n
  · by_cases h2 : n ≤ hi
    · go_enter Try.func14, Try.ntmps14
      go_wp2
      go_ret
      exact ⟨ret_bool (by simp [inn, h1, h2]), Below.refl _ _⟩
    · go_enter Try.func14, Try.ntmps14
      go_wp2
      go_ret
      exact ⟨ret_bool (by simp [inn, h2]), Below.refl _ _⟩
  · go_enter Try.func14, Try.ntmps14
    go_wp2
    go_ret
    exact ⟨ret_bool (by simp [inn]; omega), Below.refl _ _⟩
theorem inn_is {b : Bool} (n lo hi : Int) (h : inn n lo hi = b) (W : World) : Calls Try.prog 14 #[.int .i64 n, .int .i64 lo, .int .i64 hi] W (RetB (.bool b) W) := by
  rw [← h]
  exact inn_any n lo hi W
theorem inn_yes {n lo hi : Int} (h : inn n lo hi = true) : lo ≤ n ∧ n ≤ hi := by simpa [inn] using h
theorem inn_no {n lo hi : Int} (h : inn n lo hi = false) : ¬ (lo ≤ n ∧ n ≤ hi) := by
  intro ⟨h1, h2⟩
  simp [inn, h1, h2] at h
theorem u64_small {k : Int} (h0 : 0 ≤ k) (h1 : k ≤ 64) : IntKind.u64.wrap k = k := by
  rw [IntKind.wrap_u64]
  omega

/-! ### IsField -/
theorem okF_step1 {n L R B : Int} (h : ¬ (1 ≤ n ∧ n ≤ 8)) : okF n L R B = false := by simp [okF, h]
theorem okF_step2 {n L R B : Int} (h1 : 1 ≤ n ∧ n ≤ 8) (h : ¬ (0 ≤ L ∧ L < 2 ^ (lp 0 n).toNat)) : okF n L R B = false := by simp [okF, h]
theorem okF_step3 {n L R B : Int} (h : ¬ (0 ≤ R ∧ R < 2 ^ n.toNat)) : okF n L R B = false := by simp [okF, h]
theorem okF_step4 {n L R B : Int} (h : ¬ (0 ≤ B ∧ B < 2 ^ n.toNat)) : okF n L R B = false := by simp [okF, h]
theorem okF_step5 {n L R B : Int} (h1 : 1 ≤ n ∧ n ≤ 8) (h2 : 0 ≤ L ∧ L < 2 ^ (lp 0 n).toNat) (h3 : 0 ≤ R ∧ R < 2 ^ n.toNat) (h4 : 0 ≤ B ∧ B < 2 ^ n.toNat) : okF n L R B = decide (andI R B = 0) := by simp [okF, h1, h2, h3, h4]

set_option maxHeartbeats 1000000 in
theorem implIs_any (n L R B : Int) (W : World) : Calls Try.prog 9 #[.agg #[.int .i64 n, .int .i64 L, .int .i64 R, .int .i64 B]] W (RetB (.bool (okF n L R B)) W) := by
  have hB0 := hide (below_alloc W (.cells #[.int .i64 n, .int .i64 L, .int .i64 R, .int .i64 B] 26))
  obtain ⟨c0, c1, c2, c3⟩ := (fieldIn_new W n L R B 26).past
  by_cases h1 : 1 ≤ n
  · by_cases h2 : n ≤ 8
    · obtain ⟨a0, a1, a2⟩ := lp_n ⟨h1, h2⟩
      have d1 : decide (1 ≤ n) = true := decide_eq_true h1
      have d2 : decide (n ≤ 8) = true := decide_eq_true h2
      cases hL : setB L (lp 0 n).toNat
      · have HK : Hid (okF n L R B = false) := hide (okF_step2 ⟨h1, h2⟩ (setB_no hL))
        have H1 := hide hL
        clear hL
        go_enter Try.func9, Try.ntmps9
        go_wp2
        refine wp_region_past (by kernel_rfl) (by kernel_rfl) ?_
        repeat (first | go_big_quiet_step ((first | (go_at_call 17; (with_reducible exact ret_past (linePlace_any _ _ (by omega) (by omega) (by omega) (by omega) _))) | (go_at_call 16; (with_reducible exact ret_past (isSet_is _ _ a0 a1 H1.out _))))) | quiet_step ((first | (go_at_call 17; (with_reducible exact ret_past (linePlace_any _ _ (by omega) (by omega) (by omega) (by omega) _))) | (go_at_call 16; (with_reducible exact ret_past (isSet_is _ _ a0 a1 H1.out _))))))
        refine wpQuiet_nil ?_
        rintro _ ⟨pq, rfl⟩
        go_wp2
        go_ret
        exact ⟨ret_bool HK.out.symm, Below.trans' hB0.out pq.old⟩
      · cases hR : setB R n.toNat
        · have HK : Hid (okF n L R B = false) := hide (okF_step3 (setB_no hR))
          have H1 := hide hL
          have H2 := hide hR
          clear hL hR
          go_enter Try.func9, Try.ntmps9
          go_wp2
          refine wp_region_past (by kernel_rfl) (by kernel_rfl) ?_
          repeat (first | go_big_quiet_step ((first | (go_at_call 17; (with_reducible exact ret_past (linePlace_any _ _ (by omega) (by omega) (by omega) (by omega) _))) | (go_at_call 16; (with_reducible exact ret_past (isSet_is _ _ a0 a1 H1.out _))) | (go_at_call 16; (with_reducible exact ret_past (isSet_is _ _ (by omega) (by omega) H2.out _))))) | quiet_step ((first | (go_at_call 17; (with_reducible exact ret_past (linePlace_any _ _ (by omega) (by omega) (by omega) (by omega) _))) | (go_at_call 16; (with_reducible exact ret_past (isSet_is _ _ a0 a1 H1.out _))) | (go_at_call 16; (with_reducible exact ret_past (isSet_is _ _ (by omega) (by omega) H2.out _))))))
          refine wpQuiet_nil ?_
          rintro _ ⟨pq, rfl⟩
          go_wp2
          go_ret
          exact ⟨ret_bool HK.out.symm, Below.trans' hB0.out pq.old⟩
        · cases hBl : setB B n.toNat
          · have HK : Hid (okF n L R B = false) := hide (okF_step4 (setB_no hBl))
            have H1 := hide hL
            have H2 := hide hR
            have H3 := hide hBl
            clear hL hR hBl
            go_enter Try.func9, Try.ntmps9
            go_wp2
            refine wp_region_past (by kernel_rfl) (by kernel_rfl) ?_
            repeat (first | go_big_quiet_step ((first | (go_at_call 17; (with_reducible exact ret_past (linePlace_any _ _ (by omega) (by omega) (by omega) (by omega) _))) | (go_at_call 16; (with_reducible exact ret_past (isSet_is _ _ a0 a1 H1.out _))) | (go_at_call 16; (with_reducible exact ret_past (isSet_is _ _ (by omega) (by omega) H2.out _))) | (go_at_call 16; (with_reducible exact ret_past (isSet_is _ _ (by omega) (by omega) H3.out _))))) | quiet_step ((first | (go_at_call 17; (with_reducible exact ret_past (linePlace_any _ _ (by omega) (by omega) (by omega) (by omega) _))) | (go_at_call 16; (with_reducible exact ret_past (isSet_is _ _ a0 a1 H1.out _))) | (go_at_call 16; (with_reducible exact ret_past (isSet_is _ _ (by omega) (by omega) H2.out _))) | (go_at_call 16; (with_reducible exact ret_past (isSet_is _ _ (by omega) (by omega) H3.out _))))))
            refine wpQuiet_nil ?_
            rintro _ ⟨pq, rfl⟩
            go_wp2
            go_ret
            exact ⟨ret_bool HK.out.symm, Below.trans' hB0.out pq.old⟩
          · have HK : Hid (okF n L R B = decide (andI R B = 0)) := hide (okF_step5 ⟨h1, h2⟩ (setB_yes hL) (setB_yes hR) (setB_yes hBl))
            obtain ⟨r0, r1⟩ := setB_yes hR
            obtain ⟨b0, b1⟩ := setB_yes hBl
            have e2 : (2 : Int) ^ n.toNat ≤ 2 ^ 8 := pow_mono (by omega)
            have e4 : (2 : Int) ^ 8 = 256 := by decide
            have hand := and_walkI (x := R) (y := B) r0 (by omega) b0 (by omega)
            have H1 := hide hL
            have H2 := hide hR
            have H3 := hide hBl
            clear hL hR hBl r1 b1 e2 e4
            go_enter Try.func9, Try.ntmps9
            go_wp2
            refine wp_region_past (by kernel_rfl) (by kernel_rfl) ?_
            repeat (first | go_big_quiet_step ((first | (go_at_call 17; (with_reducible exact ret_past (linePlace_any _ _ (by omega) (by omega) (by omega) (by omega) _))) | (go_at_call 16; (with_reducible exact ret_past (isSet_is _ _ a0 a1 H1.out _))) | (go_at_call 16; (with_reducible exact ret_past (isSet_is _ _ (by omega) (by omega) H2.out _))) | (go_at_call 16; (with_reducible exact ret_past (isSet_is _ _ (by omega) (by omega) H3.out _))))) | quiet_step ((first | (go_at_call 17; (with_reducible exact ret_past (linePlace_any _ _ (by omega) (by omega) (by omega) (by omega) _))) | (go_at_call 16; (with_reducible exact ret_past (isSet_is _ _ a0 a1 H1.out _))) | (go_at_call 16; (with_reducible exact ret_past (isSet_is _ _ (by omega) (by omega) H2.out _))) | (go_at_call 16; (with_reducible exact ret_past (isSet_is _ _ (by omega) (by omega) H3.out _))))))
            refine wpQuiet_nil ?_
            rintro _ ⟨pq, rfl⟩
            go_wp2
            go_ret
            exact ⟨ret_bool (by rw [HK.out]; rfl), Below.trans' hB0.out pq.old⟩
    · have d1 : decide (1 ≤ n) = true := decide_eq_true h1
      have d2 : decide (n ≤ 8) = false := decide_eq_false h2
      have HK : Hid (okF n L R B = false) := hide (okF_step1 (by omega))
      go_enter Try.func9, Try.ntmps9
      go_wp2
      refine wp_region_past (by kernel_rfl) (by kernel_rfl) ?_
      repeat (first | go_big_quiet_step (fail) | quiet_step (fail))
      refine wpQuiet_nil ?_
      rintro _ ⟨pq, rfl⟩
      go_wp2
      go_ret
      exact ⟨ret_bool HK.out.symm, Below.trans' hB0.out pq.old⟩
  · have d1 : decide (1 ≤ n) = false := decide_eq_false h1
    have HK : Hid (okF n L R B = false) := hide (okF_step1 (by omega))
    go_enter Try.func9, Try.ntmps9
    go_wp2
    refine wp_region_past (by kernel_rfl) (by kernel_rfl) ?_
    repeat (first | go_big_quiet_step (fail) | quiet_step (fail))
    refine wpQuiet_nil ?_
    rintro _ ⟨pq, rfl⟩
    go_wp2
    go_ret
    exact ⟨ret_bool HK.out.symm, Below.trans' hB0.out pq.old⟩

set_option maxHeartbeats 1000000 in
theorem specIs_any (n L R B : Int) (W : World) : Calls Try.prog 7 #[.agg #[.int .i64 n, .int .i64 L, .int .i64 R, .int .i64 B]] W (RetB (.bool (okF n L R B)) W) := by
  have hB0 := hide (below_alloc W (.cells #[.int .i64 n, .int .i64 L, .int .i64 R, .int .i64 B] 26))
  have hF0 := fieldIn_new W n L R B 26
  cases h1 : inn n 1 8
  · have HK : Hid (okF n L R B = false) := hide (okF_step1 (inn_no h1))
    have H1 := hide h1
    obtain ⟨c0, c1, c2, c3⟩ := hF0
    clear h1
    go_enter Try.func7, Try.ntmps7
    go_wp2_with fail
    refine (inn_is _ _ _ H1.out _).mono ?_
    rintro e w1 ⟨rfl, hb1⟩
    have hB1 := hide (Below.trans' hB0.out hb1)
    clear hb1
    go_wp2_with fail
    go_ret
    exact ⟨ret_bool HK.out.symm, hB1.out⟩
  · obtain ⟨k1, k2⟩ := inn_yes h1
    obtain ⟨a0, a1, a2⟩ := lp_n ⟨k1, k2⟩
    obtain ⟨m0, m1, m2, m3⟩ := lp_nums (j := n) (by omega) k2
    obtain ⟨q, hq0⟩ : ∃ q, q = n * (n - 1) / 2 := ⟨_, rfl⟩
    rw [← hq0] at m2 m3
    have hlq : Hid (lp 0 n = q) := hide (by rw [hq0]; simp [lp])
    have hq : (n * (n - 1)).tdiv 2 = q := by rw [Int.tdiv_eq_ediv_of_nonneg m0, ← hq0]
    have hq2 : wrap64 ((n * (n - 1)).tdiv 2) = q := by rw [hq]; exact wrap64_small m2 (by omega)
    have hu := u64_small m2 (by omega)
    have hu2 := u64_small (k := n) (by omega) (by omega)
    have hs1 := shl_walkL (k := q) (by omega)
    have hs2 := shl_walkL (k := n) (by omega)
    have p1 := pow_28 (k := q) (by omega)
    have p2 := pow_28 (k := n) (by omega)
    have H1 := hide h1
    have HF := hide hF0
    obtain ⟨c0, c1, c2, c3⟩ := hF0
    clear h1 hq0
    have hp0 : Hid (∀ x : Int, ∀ c : Nat, inn x 0 (2 ^ c - 1) = setB x c) := hide (fun x c => by simp only [inn, setB]; congr 1; apply decide_eq_decide.2; omega)
    cases hL : setB L q.toNat
    · have HK : Hid (okF n L R B = false) := hide (okF_step2 ⟨k1, k2⟩ (by rw [hlq.out]; exact setB_no hL))
      have H2 := hide ((hp0.out L q.toNat).trans hL)
      clear hL
      go_enter Try.func7, Try.ntmps7
      go_wp2_with fail
      refine (inn_is _ _ _ H1.out _).mono ?_
      rintro e w1 ⟨rfl, hb1⟩
      have hB1 := hide (Below.trans' hB0.out hb1)
      obtain ⟨d0, d1, d2, d3⟩ := HF.out.keep hb1
      have HF1 := hide (HF.out.keep hb1)
      clear hb1 c0 c1 c2 c3
      go_wp2_with fail
      go_quiet (fail)
      go_wp2_with fail
      refine (inn_is _ _ _ H2.out _).mono ?_
      rintro e w2 ⟨rfl, hb2⟩
      have hB2 := hide (Below.trans' (below_drewN hB1.out _) hb2)
      obtain ⟨d0, d1, d2, d3⟩ := (HF1.out.keep (below_drewN (Below.refl _ _) nq)).keep hb2
      have HF2 := hide ((HF1.out.keep (below_drewN (Below.refl _ _) nq)).keep hb2)
      clear hb2
      go_wp2_with fail
      go_ret
      exact ⟨ret_bool HK.out.symm, hB2.out⟩
    · cases hR : setB R n.toNat
      · have HK : Hid (okF n L R B = false) := hide (okF_step3 (setB_no hR))
        have H2 := hide ((hp0.out L q.toNat).trans hL)
        have H3 := hide ((hp0.out R n.toNat).trans hR)
        clear hL hR
        go_enter Try.func7, Try.ntmps7
        go_wp2_with fail
        refine (inn_is _ _ _ H1.out _).mono ?_
        rintro e w1 ⟨rfl, hb1⟩
        have hB1 := hide (Below.trans' hB0.out hb1)
        obtain ⟨d0, d1, d2, d3⟩ := HF.out.keep hb1
        have HF1 := hide (HF.out.keep hb1)
        clear hb1 c0 c1 c2 c3
        go_wp2_with fail
        go_quiet (fail)
        go_wp2_with fail
        refine (inn_is _ _ _ H2.out _).mono ?_
        rintro e w2 ⟨rfl, hb2⟩
        have hB2 := hide (Below.trans' (below_drewN hB1.out _) hb2)
        obtain ⟨d0, d1, d2, d3⟩ := (HF1.out.keep (below_drewN (Below.refl _ _) nq)).keep hb2
        have HF2 := hide ((HF1.out.keep (below_drewN (Below.refl _ _) nq)).keep hb2)
        clear hb2
        go_wp2_with fail
        refine (inn_is _ _ _ H3.out _).mono ?_
        rintro e w3 ⟨rfl, hb3⟩
        have hB3 := hide (Below.trans' hB2.out hb3)
        obtain ⟨d0, d1, d2, d3⟩ := HF2.out.keep hb3
        have HF3 := hide (HF2.out.keep hb3)
        clear hb3
        go_wp2_with fail
        go_ret
        exact ⟨ret_bool HK.out.symm, hB3.out⟩
      · cases hBl : setB B n.toNat
        · have HK : Hid (okF n L R B = false) := hide (okF_step4 (setB_no hBl))
          have H2 := hide ((hp0.out L q.toNat).trans hL)
          have H3 := hide ((hp0.out R n.toNat).trans hR)
          have H4 := hide ((hp0.out B n.toNat).trans hBl)
          clear hL hR hBl
          go_enter Try.func7, Try.ntmps7
          go_wp2_with fail
          refine (inn_is _ _ _ H1.out _).mono ?_
          rintro e w1 ⟨rfl, hb1⟩
          have hB1 := hide (Below.trans' hB0.out hb1)
          obtain ⟨d0, d1, d2, d3⟩ := HF.out.keep hb1
          have HF1 := hide (HF.out.keep hb1)
          clear hb1 c0 c1 c2 c3
          go_wp2_with fail
          go_quiet (fail)
          go_wp2_with fail
          refine (inn_is _ _ _ H2.out _).mono ?_
          rintro e w2 ⟨rfl, hb2⟩
          have hB2 := hide (Below.trans' (below_drewN hB1.out _) hb2)
          obtain ⟨d0, d1, d2, d3⟩ := (HF1.out.keep (below_drewN (Below.refl _ _) nq)).keep hb2
          have HF2 := hide ((HF1.out.keep (below_drewN (Below.refl _ _) nq)).keep hb2)
          clear hb2
          go_wp2_with fail
          refine (inn_is _ _ _ H3.out _).mono ?_
          rintro e w3 ⟨rfl, hb3⟩
          have hB3 := hide (Below.trans' hB2.out hb3)
          obtain ⟨d0, d1, d2, d3⟩ := HF2.out.keep hb3
          have HF3 := hide (HF2.out.keep hb3)
          clear hb3
          go_wp2_with fail
          refine (inn_is _ _ _ H4.out _).mono ?_
          rintro e w4 ⟨rfl, hb4⟩
          have hB4 := hide (Below.trans' hB3.out hb4)
          obtain ⟨d0, d1, d2, d3⟩ := HF3.out.keep hb4
          have HF4 := hide (HF3.out.keep hb4)
          clear hb4
          go_wp2_with fail
          go_ret
          exact ⟨ret_bool HK.out.symm, hB4.out⟩
        · have HK : Hid (okF n L R B = decide (andI R B = 0)) := hide (okF_step5 ⟨k1, k2⟩ (by rw [hlq.out]; exact setB_yes hL) (setB_yes hR) (setB_yes hBl))
          obtain ⟨r0, r1⟩ := setB_yes hR
          obtain ⟨b0, b1⟩ := setB_yes hBl
          have e2 : (2 : Int) ^ n.toNat ≤ 2 ^ 8 := pow_mono (by omega)
          have e4 : (2 : Int) ^ 8 = 256 := by decide
          have hand := and_walkI (x := R) (y := B) r0 (by omega) b0 (by omega)
          have H2 := hide ((hp0.out L q.toNat).trans hL)
          have H3 := hide ((hp0.out R n.toNat).trans hR)
          have H4 := hide ((hp0.out B n.toNat).trans hBl)
          clear hL hR hBl r1 b1 e2 e4
          go_enter Try.func7, Try.ntmps7
          go_wp2_with fail
          refine (inn_is _ _ _ H1.out _).mono ?_
          rintro e w1 ⟨rfl, hb1⟩
          have hB1 := hide (Below.trans' hB0.out hb1)
          obtain ⟨d0, d1, d2, d3⟩ := HF.out.keep hb1
          have HF1 := hide (HF.out.keep hb1)
          clear hb1 c0 c1 c2 c3
          go_wp2_with fail
          go_quiet (fail)
          go_wp2_with fail
          refine (inn_is _ _ _ H2.out _).mono ?_
          rintro e w2 ⟨rfl, hb2⟩
          have hB2 := hide (Below.trans' (below_drewN hB1.out _) hb2)
          obtain ⟨d0, d1, d2, d3⟩ := (HF1.out.keep (below_drewN (Below.refl _ _) nq)).keep hb2
          have HF2 := hide ((HF1.out.keep (below_drewN (Below.refl _ _) nq)).keep hb2)
          clear hb2
          go_wp2_with fail
          refine (inn_is _ _ _ H3.out _).mono ?_
          rintro e w3 ⟨rfl, hb3⟩
          have hB3 := hide (Below.trans' hB2.out hb3)
          obtain ⟨d0, d1, d2, d3⟩ := HF2.out.keep hb3
          have HF3 := hide (HF2.out.keep hb3)
          clear hb3
          go_wp2_with fail
          refine (inn_is _ _ _ H4.out _).mono ?_
          rintro e w4 ⟨rfl, hb4⟩
          have hB4 := hide (Below.trans' hB3.out hb4)
          obtain ⟨d0, d1, d2, d3⟩ := HF3.out.keep hb4
          have HF4 := hide (HF3.out.keep hb4)
          clear hb4
          go_wp2_with fail
          go_ret
          exact ⟨ret_bool (by rw [HK.out]; rfl), hB4.out⟩
end Go.Proofs.Ytdimmlpnfghndab
