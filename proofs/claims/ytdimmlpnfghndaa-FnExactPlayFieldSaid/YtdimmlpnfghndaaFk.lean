/-
  Col and snort: slices.Index, slices.Contains over numbers; ColourPoint, both texts.
-/
import Derived.Test.YtdimmlpnfghndaaFq
namespace Go.Proofs.Ytdimmlpnfghndaa
open Go.RowKit
set_option linter.unusedVariables false

/-- The first place of a number. -/
def ixI : List Int → Int → Nat → Int
  | [], _, _ => -1
  | y :: r, x, k => if x = y then k else ixI r x (k + 1)
theorem ixI_step {zs : List Int} {k : Nat} {x y : Int} (h : zs[k]? = some y) : ixI (zs.drop k) x k = if x = y then (k : Int) else ixI (zs.drop (k + 1)) x (k + 1) := by
  rw [drop_of_get h]
  rfl
set_option maxRecDepth 100000 in
set_option maxHeartbeats 1000000 in
theorem indexI_any (a : Option Addr) (c : Nat) (zs : List Int) (x : Int) (W : World) (ha : IntsAt W a zs) (hl : zs.length ≤ 1048576) :
    Calls Try.prog 76 #[.slice a zs.length c, .int .i64 x] W (RetB (.int .i64 (ixI zs x 0)) W) := by
  obtain ⟨n, hn⟩ : ∃ n, n = zs.length := ⟨_, rfl⟩
  obtain ⟨r, hr⟩ : ∃ r, r = ixI zs x 0 := ⟨_, rfl⟩
  rw [← hn] at hl ⊢
  rw [← hr]
  have HN := hide hn
  have HR := hide hr
  have HA := hide ha
  clear hn hr ha
  go_enter Try.func76, Try.ntmps76
  go_wp2
  go_loop [8] (fun i => ∃ k : Nat, k ≤ n ∧ i = .int .i64 k ∧ Hid (r = ixI (zs.drop k) x k)) (fun i => n - (intOf i).toNat)
  case atStart => exact ⟨0, Nat.zero_le _, rfl, hide (by rw [List.drop_zero]; exact HR.out)⟩
  case round =>
    obtain ⟨k, hk, rfl, hrk⟩ := hrel
    by_cases hlt : k < n
    · obtain ⟨b, off, y, rfl, cy, hy⟩ := HA.out.one (k := k) (by rw [← HN.out]; exact hlt)
      have hstep := hide (ixI_step (x := x) hy.out)
      by_cases hxy : x = y
      · have hf : Hid (r = (k : Int)) := hide (by rw [hrk.out, hstep.out, if_pos hxy])
        subst hxy
        go_wp2
        go_ret
        exact ⟨by rw [hf.out]; rfl, Below.refl _ _⟩
      · have hne : (x == y) = false := by simpa using hxy
        have hf : Hid (r = ixI (zs.drop (k + 1)) x (k + 1)) := hide (by rw [hrk.out, hstep.out, if_neg hxy])
        clear hxy
        go_wp2
        go_round
        case rel => exact ⟨k + 1, by omega, by go_num, hf⟩
        case measure => simp [intOf]; omega
    · obtain rfl : k = n := by omega
      have hf : Hid (r = -1) := hide (by rw [hrk.out, HN.out, List.drop_length]; rfl)
      go_wp2
      go_ret
      exact ⟨by rw [hf.out]; rfl, Below.refl _ _⟩
theorem ixI_mem (x : Int) : ∀ (zs : List Int) (k : Nat), (0 ≤ ixI zs x k) ↔ x ∈ zs
  | [], k => by simp [ixI]
  | y :: r, k => by
    rw [ixI]
    by_cases h : x = y
    · rw [if_pos h, h]; simp
    · rw [if_neg h, ixI_mem x r (k + 1)]
      simp [h]
set_option maxHeartbeats 400000 in
theorem contains_any (a : Option Addr) (c : Nat) (zs : List Int) (x : Int) (W : World) (ha : IntsAt W a zs) (hl : zs.length ≤ 1048576) :
    Calls Try.prog 57 #[.slice a zs.length c, .int .i64 x] W (RetB (.bool (decide (x ∈ zs))) W) := by
  have hfin : Hid (decide (x ∈ zs) = decide (0 ≤ ixI zs x 0)) := hide (decide_eq_decide.2 (ixI_mem x zs 0).symm)
  have HA := hide ha
  clear ha
  go_enter Try.func57, Try.ntmps57
  go_wp2_with fail
  refine (indexI_any _ _ zs x _ HA.out hl).mono ?_
  rintro e w1 ⟨rfl, hb1⟩
  have hB1 := hide hb1
  clear hb1
  go_wp2_with fail
  go_ret
  exact ⟨ret_bool (by rw [hfin.out]), hB1.out⟩

/-! ### ColourPoint -/
def codeC (n L R B game pl i : Int) : Int := if okF n L R B = true ∧ ptB n i = false then 2 else codeP n L R B game pl
def cpR (n L R B game pl i : Int) : Int × Int × Int × Int × Int :=
  if codeC n L R B game pl i = 0 then if mayP n L R B game pl i = true then (n, L, mvR R pl i, mvB B pl i, 0) else (0, 0, 0, 0, 5) else (0, 0, 0, 0, codeC n L R B game pl i)
theorem codeP_one {n L R B game pl : Int} : codeP n L R B game pl = 1 ↔ okF n L R B = false := by
  unfold codeP
  cases okF n L R B
  · simp
  · simp only [if_true]
    split
    · split <;> simp
    · simp
theorem codeC_spec (n L R B game pl i : Int) : codeC n L R B game pl i = if codeP n L R B game pl ≠ 1 ∧ ptB n i = false then 2 else codeP n L R B game pl := by
  unfold codeC
  by_cases h : okF n L R B = true
  · have : codeP n L R B game pl ≠ 1 := fun e => by rw [codeP_one.1 e] at h; cases h
    simp [h, this]
  · have h2 : codeP n L R B game pl = 1 := codeP_one.2 (by simpa using h)
    simp [h, h2]
theorem pts_of_mem {n L R B game pl i : Int} (h : ptB n i = true) : (i ∈ pts n L R B game pl) ↔ mayP n L R B game pl i = true := by
  obtain ⟨h0, h1⟩ := ptB_yes h
  obtain ⟨k, rfl⟩ := Int.eq_ofNat_of_zero_le h0
  simp only [pts, pre, List.mem_map, List.mem_filter, List.mem_range]
  constructor
  · rintro ⟨j, ⟨_, hj⟩, e⟩
    obtain rfl : j = k := by omega
    exact hj
  · intro hm
    exact ⟨k, ⟨by omega, hm⟩, rfl⟩

set_option maxHeartbeats 2000000 in
theorem implCP_any (n L R B game pl i : Int) (W : World) : Calls Try.prog 27 #[.agg #[.int .i64 n, .int .i64 L, .int .i64 R, .int .i64 B], .int .i64 game, .int .i64 pl, .int .i64 i] W (RetB (fcV (cpR n L R B game pl i)) W) := by
  obtain ⟨W0, hW0⟩ : ∃ W0, W0 = (W.alloc (.cells #[.int .i64 n, .int .i64 L, .int .i64 R, .int .i64 B] 25)).alloc (.cells #[.int .i64 0, .int .i64 0, .int .i64 0, .int .i64 0] 25) := ⟨_, rfl⟩
  have hB0 : Hid (Below W.heap.size W W0) := by rw [hW0]; exact hide ((below_alloc _ _).alloc (by simp) _)
  have hX0 : Hid (FieldIn W0 W.heap.size n L R B) := by rw [hW0]; exact hide ((fieldIn_new W n L R B 25).keep (below_alloc _ _))
  have hR0 : Hid (W0.heap[W.heap.size + 1]? = some (.cells #[.int .i64 0, .int .i64 0, .int .i64 0, .int .i64 0] 25 (0, 0))) := by rw [hW0]; exact hide (alloc_row2 _ _ _ _)
  obtain ⟨X0, X1, X2, X3⟩ := hX0.out
  obtain ⟨r, hr⟩ : ∃ r, r = cpR n L R B game pl i := ⟨_, rfl⟩
  rw [← hr]
  cases hok : okF n L R B
  · have hc1 : codeP n L R B game pl = 1 := codeP_one.2 hok
    have hcc : codeC n L R B game pl i = 1 := by unfold codeC; rw [hok, hc1]; rfl
    have HR : Hid (r = (0, 0, 0, 0, 1)) := hide (by rw [hr]; unfold cpR; rw [hcc]; rfl)
    have HPF : Hid (ptR n L R B game pl = ([], 1)) := hide (by unfold ptR; rw [hc1]; rfl)
    have HOK := hide hok
    rw [HR.out]
    clear hok hc1 hcc hr
    go_enter Try.func27, Try.ntmps27
    go_wp2_with fail
    rw [← hW0]
    clear hW0
    go_wp2_with fail
    refine (implIs_is HOK.out _).mono ?_
    rintro e w1 ⟨rfl, hb1⟩
    (try clear X0 X1 X2 X3)
    have hX1 := hide (hX0.out.keep hb1)
    obtain ⟨X0, X1, X2, X3⟩ := hX1.out
    (try clear R0 R1 R2 R3 Rf0 Rf1 Rf2 Rf3)
    have hR1 := hide (box_keep hR0.out hb1)
    obtain ⟨R0, R1, R2, R3, Rf0, Rf1, Rf2, Rf3⟩ := row4 hR1.out
    have hB1 := hide (Below.trans' hB0.out hb1)
    clear hb1
    go_wp2_with fail
    refine (implPF_any n L R B game pl _).mono ?_
    rw [HPF.out]
    rintro e w2 ⟨a2, c2, rfl, ho2, hb2⟩
    have hR2 := hide (box_keep hR1.out hb2)
    have hB2 := hide (Below.trans' hB1.out hb2)
    clear ho2 hb2 X0 X1 X2 X3 R0 R1 R2 R3 Rf0 Rf1 Rf2 Rf3
    obtain ⟨R0, R1, R2, R3, Rf0, Rf1, Rf2, Rf3⟩ := row4 hR2.out
    go_wp2_with fail
    exact bodyPost_ret (v := fcV (0, 0, 0, 0, 1)) (by simp [results, Try.results27, go_sem, R0, R1, R2, R3, fcV]) rfl ⟨rfl, below4 _ _ _ _ hB2.out (by omega)⟩
  · have HOK := hide hok
    cases hpt : ptB n i
    · have hcc : codeC n L R B game pl i = 2 := by unfold codeC; rw [hok, hpt]; rfl
      have HR : Hid (r = (0, 0, 0, 0, 2)) := hide (by rw [hr]; unfold cpR; rw [hcc]; rfl)
      have HP := hide hpt
      rw [HR.out]
      clear hok hpt hcc hr
      go_enter Try.func27, Try.ntmps27
      go_wp2_with fail
      rw [← hW0]
      clear hW0
      go_wp2_with fail
      refine (implIs_is HOK.out _).mono ?_
      rintro e w1 ⟨rfl, hb1⟩
      (try clear X0 X1 X2 X3)
      have hX1 := hide (hX0.out.keep hb1)
      obtain ⟨X0, X1, X2, X3⟩ := hX1.out
      (try clear R0 R1 R2 R3 Rf0 Rf1 Rf2 Rf3)
      have hR1 := hide (box_keep hR0.out hb1)
      obtain ⟨R0, R1, R2, R3, Rf0, Rf1, Rf2, Rf3⟩ := row4 hR1.out
      have hB1 := hide (Below.trans' hB0.out hb1)
      clear hb1
      go_wp2_with fail
      refine (isPoint_is HP.out _ _ _ _).mono ?_
      rintro e w2 ⟨rfl, hb2⟩
      (try clear X0 X1 X2 X3)
      have hX2 := hide (hX1.out.keep hb2)
      obtain ⟨X0, X1, X2, X3⟩ := hX2.out
      (try clear R0 R1 R2 R3 Rf0 Rf1 Rf2 Rf3)
      have hR2 := hide (box_keep hR1.out hb2)
      obtain ⟨R0, R1, R2, R3, Rf0, Rf1, Rf2, Rf3⟩ := row4 hR2.out
      have hB2 := hide (Below.trans' hB1.out hb2)
      clear hb2
      go_wp2_with fail
      exact bodyPost_ret (v := fcV (0, 0, 0, 0, 2)) (by simp [results, Try.results27, go_sem, R0, R1, R2, R3, fcV]) rfl ⟨rfl, below4 _ _ _ _ hB2.out (by omega)⟩
    · have HP := hide hpt
      have hcc : codeC n L R B game pl i = codeP n L R B game pl := by unfold codeC; rw [hpt]; simp
      by_cases hc : codeP n L R B game pl = 0
      · obtain ⟨g1, g2, g3, g4⟩ := codeP_zero hc
        obtain ⟨k0, k1, k2, k3, k4, k5, k6, k7⟩ := okF_nums g1
        obtain ⟨i0, i1⟩ := ptB_yes hpt
        have HMEM : Hid (decide (i ∈ pts n L R B game pl) = mayP n L R B game pl i) := hide (by
          cases hm : mayP n L R B game pl i
          · simp only [pts_of_mem hpt, hm]; rfl
          · simp only [pts_of_mem hpt, hm]; rfl)
        have HPF : Hid (ptR n L R B game pl = (pts n L R B game pl, 0)) := hide (by unfold ptR; rw [if_pos hc])
        have HRR : Hid (r = if mayP n L R B game pl i = true then (n, L, mvR R pl i, mvB B pl i, 0) else (0, 0, 0, 0, 5)) := hide (by rw [hr]; unfold cpR; rw [hcc, if_pos hc])
        have hpl : (pts n L R B game pl).length ≤ 1048576 := Nat.le_trans (pts_le k1) (by omega)
        cases hm : mayP n L R B game pl i
        · have HR : Hid (r = (0, 0, 0, 0, 5)) := hide (by rw [HRR.out, hm]; rfl)
          have HM : Hid (decide (i ∈ pts n L R B game pl) = false) := hide (HMEM.out.trans hm)
          obtain ⟨zs, hzs⟩ : ∃ zs, zs = pts n L R B game pl := ⟨_, rfl⟩
          rw [← hzs] at HPF HM hpl
          rw [HR.out]
          clear hok hpt hcc hr hc g1 g2 g3 g4 hm hzs
          go_enter Try.func27, Try.ntmps27
          go_wp2_with fail
          rw [← hW0]
          clear hW0
          go_wp2_with fail
          refine (implIs_is HOK.out _).mono ?_
          rintro e w1 ⟨rfl, hb1⟩
          (try clear X0 X1 X2 X3)
          have hX1 := hide (hX0.out.keep hb1)
          obtain ⟨X0, X1, X2, X3⟩ := hX1.out
          (try clear R0 R1 R2 R3 Rf0 Rf1 Rf2 Rf3)
          have hR1 := hide (box_keep hR0.out hb1)
          obtain ⟨R0, R1, R2, R3, Rf0, Rf1, Rf2, Rf3⟩ := row4 hR1.out
          have hB1 := hide (Below.trans' hB0.out hb1)
          clear hb1
          go_wp2_with fail
          refine (isPoint_is HP.out _ _ _ _).mono ?_
          rintro e w2 ⟨rfl, hb2⟩
          (try clear X0 X1 X2 X3)
          have hX2 := hide (hX1.out.keep hb2)
          obtain ⟨X0, X1, X2, X3⟩ := hX2.out
          (try clear R0 R1 R2 R3 Rf0 Rf1 Rf2 Rf3)
          have hR2 := hide (box_keep hR1.out hb2)
          obtain ⟨R0, R1, R2, R3, Rf0, Rf1, Rf2, Rf3⟩ := row4 hR2.out
          have hB2 := hide (Below.trans' hB1.out hb2)
          clear hb2
          go_wp2_with fail
          refine (implPF_any n L R B game pl _).mono ?_
          rw [HPF.out]
          rintro e w3 ⟨a3, c3, rfl, ho3, hb3⟩
          have hO3 := hide (intsAt_of_ownsRow ho3)
          have hX3 := hide (hX2.out.keep hb3)
          have hR3 := hide (box_keep hR2.out hb3)
          have hB3 := hide (Below.trans' hB2.out hb3)
          clear ho3 hb3 X0 X1 X2 X3
          obtain ⟨X0, X1, X2, X3⟩ := hX3.out
          go_wp2_with fail
          refine (contains_any _ _ zs i _ hO3.out hpl).mono ?_
          rw [HM.out]
          rintro e w4 ⟨rfl, hb4⟩
          (try clear R0 R1 R2 R3 Rf0 Rf1 Rf2 Rf3)
          have hR4 := hide (box_keep hR3.out hb4)
          obtain ⟨R0, R1, R2, R3, Rf0, Rf1, Rf2, Rf3⟩ := row4 hR4.out
          have hB4 := hide (Below.trans' hB3.out hb4)
          clear hb4
          go_wp2_with fail
          exact bodyPost_ret (v := fcV (0, 0, 0, 0, 5)) (by simp [results, Try.results27, go_sem, R0, R1, R2, R3, fcV]) rfl ⟨rfl, below4 _ _ _ _ hB4.out (by omega)⟩
        · obtain ⟨x, hx⟩ : ∃ x, x = mvR R pl i := ⟨_, rfl⟩
          obtain ⟨b, hb⟩ : ∃ b, b = mvB B pl i := ⟨_, rfl⟩
          have HR : Hid (r = (n, L, x, b, 0)) := hide (by rw [HRR.out, hm, hx, hb]; rfl)
          have HM : Hid (decide (i ∈ pts n L R B game pl) = true) := hide (HMEM.out.trans hm)
          have HCO : Hid (∀ V : World, Calls Try.prog 58 #[.agg #[.int .i64 n, .int .i64 L, .int .i64 R, .int .i64 B], .int .i64 pl, .int .i64 i] V (RetB (.agg #[.int .i64 n, .int .i64 L, .int .i64 x, .int .i64 b]) V)) := hide (fun V => by rw [hx, hb]; exact coloured_any n L R B pl i k4 k5 k6 k7 i0 (by omega) V)
          obtain ⟨zs, hzs⟩ : ∃ zs, zs = pts n L R B game pl := ⟨_, rfl⟩
          rw [← hzs] at HPF HM hpl
          rw [HR.out]
          clear hok hpt hcc hr hc g1 g2 g3 g4 hm hzs hx hb
          go_enter Try.func27, Try.ntmps27
          go_wp2_with fail
          rw [← hW0]
          clear hW0
          go_wp2_with fail
          refine (implIs_is HOK.out _).mono ?_
          rintro e w1 ⟨rfl, hb1⟩
          (try clear X0 X1 X2 X3)
          have hX1 := hide (hX0.out.keep hb1)
          obtain ⟨X0, X1, X2, X3⟩ := hX1.out
          (try clear R0 R1 R2 R3 Rf0 Rf1 Rf2 Rf3)
          have hR1 := hide (box_keep hR0.out hb1)
          obtain ⟨R0, R1, R2, R3, Rf0, Rf1, Rf2, Rf3⟩ := row4 hR1.out
          have hB1 := hide (Below.trans' hB0.out hb1)
          clear hb1
          go_wp2_with fail
          refine (isPoint_is HP.out _ _ _ _).mono ?_
          rintro e w2 ⟨rfl, hb2⟩
          (try clear X0 X1 X2 X3)
          have hX2 := hide (hX1.out.keep hb2)
          obtain ⟨X0, X1, X2, X3⟩ := hX2.out
          (try clear R0 R1 R2 R3 Rf0 Rf1 Rf2 Rf3)
          have hR2 := hide (box_keep hR1.out hb2)
          obtain ⟨R0, R1, R2, R3, Rf0, Rf1, Rf2, Rf3⟩ := row4 hR2.out
          have hB2 := hide (Below.trans' hB1.out hb2)
          clear hb2
          go_wp2_with fail
          refine (implPF_any n L R B game pl _).mono ?_
          rw [HPF.out]
          rintro e w3 ⟨a3, c3, rfl, ho3, hb3⟩
          have hO3 := hide (intsAt_of_ownsRow ho3)
          have hX3 := hide (hX2.out.keep hb3)
          have hR3 := hide (box_keep hR2.out hb3)
          have hB3 := hide (Below.trans' hB2.out hb3)
          clear ho3 hb3 X0 X1 X2 X3
          obtain ⟨X0, X1, X2, X3⟩ := hX3.out
          go_wp2_with fail
          refine (contains_any _ _ zs i _ hO3.out hpl).mono ?_
          rw [HM.out]
          rintro e w4 ⟨rfl, hb4⟩
          (try clear X0 X1 X2 X3)
          have hX4 := hide (hX3.out.keep hb4)
          obtain ⟨X0, X1, X2, X3⟩ := hX4.out
          (try clear R0 R1 R2 R3 Rf0 Rf1 Rf2 Rf3)
          have hR4 := hide (box_keep hR3.out hb4)
          obtain ⟨R0, R1, R2, R3, Rf0, Rf1, Rf2, Rf3⟩ := row4 hR4.out
          have hB4 := hide (Below.trans' hB3.out hb4)
          clear hb4
          go_wp2_with fail
          refine (HCO.out _).mono ?_
          rintro e w5 ⟨rfl, hb5⟩
          (try clear R0 R1 R2 R3 Rf0 Rf1 Rf2 Rf3)
          have hR5 := hide (box_keep hR4.out hb5)
          obtain ⟨R0, R1, R2, R3, Rf0, Rf1, Rf2, Rf3⟩ := row4 hR5.out
          have hB5 := hide (Below.trans' hB4.out hb5)
          clear hb5
          go_wp2_with fail
          exact bodyPost_ret (v := fcV (n, L, x, b, 0)) (by simp [results, Try.results27, go_sem, R0, R1, R2, R3, fcV]) rfl ⟨rfl, below4 _ _ _ _ hB5.out (by omega)⟩
      · obtain ⟨c, hce⟩ : ∃ c, c = codeP n L R B game pl := ⟨_, rfl⟩
        have HPF : Hid (ptR n L R B game pl = ([], c)) := hide (by unfold ptR; rw [if_neg hc, hce])
        have HR : Hid (r = (0, 0, 0, 0, c)) := hide (by rw [hr]; unfold cpR; rw [hcc, if_neg hc, hce])
        rw [← hce] at hc
        have hd : (c != 0) = true := by simp [hc]
        rw [HR.out]
        clear hok hpt hcc hr hc hce
        go_enter Try.func27, Try.ntmps27
        go_wp2_with fail
        rw [← hW0]
        clear hW0
        go_wp2_with fail
        refine (implIs_is HOK.out _).mono ?_
        rintro e w1 ⟨rfl, hb1⟩
        (try clear X0 X1 X2 X3)
        have hX1 := hide (hX0.out.keep hb1)
        obtain ⟨X0, X1, X2, X3⟩ := hX1.out
        (try clear R0 R1 R2 R3 Rf0 Rf1 Rf2 Rf3)
        have hR1 := hide (box_keep hR0.out hb1)
        obtain ⟨R0, R1, R2, R3, Rf0, Rf1, Rf2, Rf3⟩ := row4 hR1.out
        have hB1 := hide (Below.trans' hB0.out hb1)
        clear hb1
        go_wp2_with fail
        refine (isPoint_is HP.out _ _ _ _).mono ?_
        rintro e w2 ⟨rfl, hb2⟩
        (try clear X0 X1 X2 X3)
        have hX2 := hide (hX1.out.keep hb2)
        obtain ⟨X0, X1, X2, X3⟩ := hX2.out
        (try clear R0 R1 R2 R3 Rf0 Rf1 Rf2 Rf3)
        have hR2 := hide (box_keep hR1.out hb2)
        obtain ⟨R0, R1, R2, R3, Rf0, Rf1, Rf2, Rf3⟩ := row4 hR2.out
        have hB2 := hide (Below.trans' hB1.out hb2)
        clear hb2
        go_wp2_with fail
        refine (implPF_any n L R B game pl _).mono ?_
        rw [HPF.out]
        rintro e w3 ⟨a3, c3, rfl, ho3, hb3⟩
        have hR3 := hide (box_keep hR2.out hb3)
        have hB3 := hide (Below.trans' hB2.out hb3)
        clear ho3 hb3 X0 X1 X2 X3 R0 R1 R2 R3 Rf0 Rf1 Rf2 Rf3
        obtain ⟨R0, R1, R2, R3, Rf0, Rf1, Rf2, Rf3⟩ := row4 hR3.out
        go_wp2_with fail
        exact bodyPost_ret (v := fcV (0, 0, 0, 0, c)) (by simp [results, Try.results27, go_sem, R0, R1, R2, R3, fcV]) rfl ⟨rfl, below4 _ _ _ _ hB3.out (by omega)⟩
end Go.Proofs.Ytdimmlpnfghndaa
