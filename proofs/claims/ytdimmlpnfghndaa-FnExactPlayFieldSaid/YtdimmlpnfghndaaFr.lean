/-
  Col and snort: colours and rules, the program's text.
-/
import Derived.Test.YtdimmlpnfghndaaFl
import Derived.Test.YtdimmlpnfghndaaQr
namespace Go.Proofs.Ytdimmlpnfghndaa
open Go.RowKit Go.Shelf
attribute [local go_sem] Oper.semAt_some
set_option linter.unusedVariables false

/-- The sign of a colour. -/
def sgn (c : Int) : Int := if c = 1 then 114 else if c = 2 then 98 else 46
theorem sgn_46 {R B i : Int} : sgn (cl R B i) = 46 ↔ cl R B i = 0 := by
  rcases cl_range R B i with h | h | h <;> rw [h] <;> simp [sgn]
theorem sgn_eq {R B i j : Int} : sgn (cl R B i) = sgn (cl R B j) ↔ cl R B i = cl R B j := by
  rcases cl_range R B i with h | h | h <;> rcases cl_range R B j with h2 | h2 | h2 <;> rw [h, h2] <;> simp [sgn]
theorem cl_red {R B i : Int} (h : drawn R i = true) : cl R B i = 1 := by simp [cl, h]
theorem cl_blue {R B i : Int} (h : drawn R i = false) (h2 : drawn B i = true) : cl R B i = 2 := by simp [cl, h, h2]
theorem cl_none {R B i : Int} (h : drawn R i = false) (h2 : drawn B i = false) : cl R B i = 0 := by simp [cl, h, h2]

set_option maxHeartbeats 1000000 in
theorem colourOf_any (n L R B i : Int) (hr0 : 0 ≤ R) (hr1 : R < 256) (hb0 : 0 ≤ B) (hb1 : B < 256) (hi : 0 ≤ i) (hi8 : i < 8) (W : World) :
    Calls Try.prog 75 #[.agg #[.int .i64 n, .int .i64 L, .int .i64 R, .int .i64 B], .int .i64 i] W (RetB (.int .u8 (sgn (cl R B i))) W) := by
  have hR := dg_walkL (E := R) (k := i) hr0 (by omega)
  have hBl := dg_walkL (E := B) (k := i) hb0 (by omega)
  cases h : drawn R i
  · have e1 := dg_of_free h
    rw [e1] at hR
    cases h2 : drawn B i
    · have e2 := dg_of_free h2
      rw [e2] at hBl
      have HF : Hid (sgn (cl R B i) = 46) := hide (by rw [cl_none h h2]; rfl)
      clear h h2 e1 e2
      go_enter Try.func75, Try.ntmps75
      go_wp2
      go_ret
      exact ⟨ret_int HF.out.symm, below_alloc _ _⟩
    · have e2 := dg_of_drawn h2
      rw [e2] at hBl
      have HF : Hid (sgn (cl R B i) = 98) := hide (by rw [cl_blue h h2]; rfl)
      clear h h2 e1 e2
      go_enter Try.func75, Try.ntmps75
      go_wp2
      go_ret
      exact ⟨ret_int HF.out.symm, below_alloc _ _⟩
  · have e1 := dg_of_drawn h
    rw [e1] at hR
    have HF : Hid (sgn (cl R B i) = 114) := hide (by rw [cl_red h]; rfl)
    clear h e1 hBl
    go_enter Try.func75, Try.ntmps75
    go_wp2
    go_ret
    exact ⟨ret_int HF.out.symm, below_alloc _ _⟩

/-- The rules of a game. -/
def ruleV (game : Int) : Value := if game = 0 then .iface 99 (.agg #[]) else .iface 100 (.agg #[])
set_option maxHeartbeats 400000 in
theorem rulesOf_any (game : Int) (W : World) : Calls Try.prog 50 #[.int .i64 game] W (RetB (ruleV game) W) := by
  by_cases h : game = 0
  · subst h
    have HF : Hid (ruleV 0 = .iface 99 (.agg #[])) := hide rfl
    rw [HF.out]
    go_enter Try.func50, Try.ntmps50
    go_wp2
    go_ret
    exact ⟨rfl, Below.refl _ _⟩
  · have HF : Hid (ruleV game = .iface 100 (.agg #[])) := hide (by simp [ruleV, h])
    have hd : (game == 0) = false := by simp [h]
    rw [HF.out]
    clear h
    go_enter Try.func50, Try.ntmps50
    go_wp2
    go_ret
    exact ⟨rfl, Below.refl _ _⟩
set_option maxHeartbeats 400000 in
theorem colClash_any (a b : Int) (W : World) : Calls Try.prog 97 #[.agg #[], .int .u8 a, .int .u8 b] W (RetB (.bool (a == b)) W) := by
  go_enter Try.func97, Try.ntmps97
  go_wp2
  go_ret
  exact ⟨rfl, below_alloc _ _⟩
set_option maxHeartbeats 400000 in
theorem snortClash_any (a b : Int) (W : World) : Calls Try.prog 98 #[.agg #[], .int .u8 a, .int .u8 b] W (RetB (.bool (a != b)) W) := by
  go_enter Try.func98, Try.ntmps98
  go_wp2
  go_ret
  exact ⟨rfl, below_alloc _ _⟩

theorem colMethod (k : Nat) (w : World) : (method (k + 1) 99 (.agg #[]) "loop.example/g01388/impl.clash").run Try.prog w = .ok (97, .agg #[]) w := by kernel_rfl
theorem snortMethod (k : Nat) (w : World) : (method (k + 1) 100 (.agg #[]) "loop.example/g01388/impl.clash").run Try.prog w = .ok (98, .agg #[]) w := by kernel_rfl

/-! ### isFair -/
/-- All lines handed on so far are fair. -/
def okL (game R B : Int) {n L : Int} (pre : List (Ln n L)) : Bool := pre.all fun x => !bad game (cl R B x.1.1) (cl R B x.1.2)
theorem okL_snoc (game R B : Int) {n L : Int} (pre : List (Ln n L)) (x : Ln n L) : okL game R B (pre ++ [x]) = (okL game R B pre && !bad game (cl R B x.1.1) (cl R B x.1.2)) := by simp [okL]
theorem okL_append (game R B : Int) {n L : Int} (a b : List (Ln n L)) : okL game R B (a ++ b) = (okL game R B a && okL game R B b) := by simp [okL]
theorem okL_lnI (game R B : Int) {n L : Int} (j : Nat) (hj : (j : Int) < n) : ∀ (i : Nat) (h : i ≤ j), okL game R B (lnI n L j hj i h) = fairI L R B game j i
  | 0, _ => rfl
  | i + 1, h => by
    have ih := okL_lnI game R B (L := L) j hj i (by omega)
    rw [lnI, fairI_succ]
    split
    · rename_i hd
      rw [okL_snoc, ih]
      simp [hd]
    · rename_i hd
      rw [ih]
      simp only [Bool.not_eq_true] at hd
      simp [hd]
theorem okL_lnJ (game R B : Int) {n L : Int} : ∀ (j : Nat) (h : (j : Int) ≤ n), okL game R B (lnJ n L j h) = fairJ L R B game j
  | 0, _ => rfl
  | j + 1, h => by
    rw [lnJ, okL_append, okL_lnJ game R B j (by omega), okL_lnI, fairJ_succ]
theorem okL_lns (game R B : Int) {n L : Int} (h : 0 ≤ n) : okL game R B (lns n L h) = fair n L R B game := okL_lnJ game R B _ _
/-- A line that is not fair. -/
theorem fair_false {n L R B game : Int} (h : 0 ≤ n) (x : Ln n L) (hb : bad game (cl R B x.1.1) (cl R B x.1.2) = true) : fair n L R B game = false := by
  obtain ⟨⟨i, j⟩, h1, h2, h3⟩ := x
  exact fairJ_false (k := j) (by simp only at h2; omega) (fairI_false (k := i) (j := (j : Int)) h1 h3 hb)

/-- Between two rounds of the loop in isFair: the boxes that it reads; all that was there as it was. -/
def MidF (n L R B : Int) (rv : Value) (B0 : Nat) (W0 W : World) : Prop :=
  B0 + 4 ≤ W.heap.size ∧ W.heap[B0]? = some (.cells #[.int .i64 n, .int .i64 L, .int .i64 R, .int .i64 B] 25 (0, 0)) ∧ W.heap[B0 + 1]? = some (.cells #[rv] 57 (0, 0)) ∧ (∃ v, W.heap[B0 + 1 + 1]? = some (.cells #[v] 4 (0, 0))) ∧ Below B0 W0 W
theorem MidF.below {n L R B : Int} {rv : Value} {B0 : Nat} {W0 W W' : World} (h : MidF n L R B rv B0 W0 W) (hb : Below (B0 + 4) W W') : MidF n L R B rv B0 W0 W' := by
  obtain ⟨h1, h2, h3, ⟨v, h4⟩, h5⟩ := h
  exact ⟨Nat.le_trans h1 hb.size, (hb.block _ (by omega)).trans h2, (hb.block _ (by omega)).trans h3, ⟨v, (hb.block _ (by omega)).trans h4⟩, h5.trans (hb.mono (by omega))⟩

/-- The loop has been left in the middle: the result has been stored. -/
def MidX (B0 : Nat) (W0 W : World) : Prop := B0 + 4 ≤ W.heap.size ∧ W.heap[B0 + 1 + 1]? = some (.cells #[.bool false] 4 (0, 0)) ∧ Below B0 W0 W
theorem MidX.below {B0 : Nat} {W0 W W' : World} (h : MidX B0 W0 W) (hb : Below (B0 + 4) W W') : MidX B0 W0 W' :=
  ⟨Nat.le_trans h.1 hb.size, (hb.block _ (by omega)).trans h.2.1, h.2.2.trans (hb.mono (by omega))⟩
theorem box_set1 {w : World} {b : Nat} {x : Value} (y : Value) {t : TypeId} (h : w.heap[b]? = some (.cells #[x] t (0, 0))) : (w.setCell ⟨b, 0, none⟩ y).heap[b]? = some (.cells #[y] t (0, 0)) := heap_setCell_same _ b 0 _ t y h

set_option maxRecDepth 100000 in
set_option maxHeartbeats 4000000 in
theorem isFair_col (n L R B : Int) (hok : okF n L R B = true) (W : World) :
    Calls Try.prog 49 #[.agg #[.int .i64 n, .int .i64 L, .int .i64 R, .int .i64 B], .iface 99 (.agg #[])] W (RetB (.bool (fair n L R B 0)) W) := by
  obtain ⟨k0, k1, k2, k3, k4, k5, k6, k7⟩ := okF_nums hok
  clear hok
  refine (callsIn_wide (n := 6)).1 ?_
  refine callsIn_of_wp_marks Try.func49 rfl trivial ?_ rfl
  simp only [Try.ntmps49, List.size_toArray, List.length_cons, List.length_nil, Nat.reduceAdd, Nat.reduceSub, Array.replicate_succ, Array.replicate_zero, List.push_toArray, List.append_toArray, List.nil_append, List.cons_append]
  gi_wp2_with (refine ⟨trivial, ?_⟩; gi_at_call 74; refine (callsIn_wide.2 (lines_any n L R B _)).mono ?_; rintro e w1 ⟨rfl, rfl⟩)
  obtain ⟨W0, hW0⟩ : ∃ W0, W0 = (((W.alloc (.cells #[.int .i64 n, .int .i64 L, .int .i64 R, .int .i64 B] 25)).alloc (.cells #[.iface 99 (.agg #[])] 57)).alloc (.cells #[.bool false] 4)).alloc (.cells #[.int .i64 n, .int .i64 L, .int .i64 R, .int .i64 B] 25) := ⟨_, rfl⟩
  have hs0 : W0.heap.size = W.heap.size + 4 := by rw [hW0]; simp
  have hB0 : Hid (Below W.heap.size W W0) := by rw [hW0]; exact hide ((((below_alloc _ _).alloc (by simp) _).alloc (by simp; omega) _).alloc (by simp; omega) _)
  have hr0 : W0.heap[W.heap.size]? = some (.cells #[.int .i64 n, .int .i64 L, .int .i64 R, .int .i64 B] 25 (0, 0)) := by rw [hW0]; exact row_alloc (row_alloc (row_alloc (alloc_row _ _ _) _) _) _
  have hr1 : W0.heap[W.heap.size + 1]? = some (.cells #[.iface 99 (.agg #[])] 57 (0, 0)) := by rw [hW0]; exact row_alloc (row_alloc (alloc_row2 _ _ _ _) _) _
  have hr2 : W0.heap[W.heap.size + 1 + 1]? = some (.cells #[.bool false] 4 (0, 0)) := by rw [hW0]; exact row_alloc (alloc_row3 _ _ _ _ _) _
  have hr3 : W0.heap[W.heap.size + 1 + 1 + 1]? = some (.cells #[.int .i64 n, .int .i64 L, .int .i64 R, .int .i64 B] 25 (0, 0)) := by
    rw [hW0]
    have := alloc_row (((W.alloc (.cells #[.int .i64 n, .int .i64 L, .int .i64 R, .int .i64 B] 25)).alloc (.cells #[.iface 99 (.agg #[])] 57)).alloc (.cells #[.bool false] 4)) #[.int .i64 n, .int .i64 L, .int .i64 R, .int .i64 B] 25
    simpa using this
  have hM0 : MidF n L R B (.iface 99 (.agg #[])) W.heap.size W W0 := ⟨by omega, hr0, hr1, ⟨_, hr2⟩, hB0.out⟩
  rw [← hW0]
  clear hW0 hr0 hr1 hr2
  refine wpIn_rangeFunc_ownF (F := Fence.wide) rfl (by omega) (gf := 80) (lb := #[.pointer (some ⟨W.heap.size + 1 + 1 + 1, 0, none⟩)]) rfl trivial (enters_of Try.func80 (by kernel_rfl) rfl)
    (lines_stops 5 (by omega) (W.heap.size + 1 + 1 + 1) W.heap.size n L R B k0 k1 k2 k3 W0 hr3 (by omega)) KeepB.trans (keepB_b (by omega) (by omega)) (Below.refl _ _) (fun _ => rfl)
    (fun pre V => MidF n L R B (.iface 99 (.agg #[])) W.heap.size W V ∧ okL 0 R B pre = true)
    (fun c pre V => c = .ret ∧ MidX W.heap.size W V ∧ fair n L R B 0 = false)
    (ownFrom_of_below (fun s V h => by rw [hs0]; exact h.1.1) (fun s V V' h hb => ⟨h.1.below (by rw [← hs0]; exact hb), h.2⟩))
    (fun c => ownFrom_of_below (fun s V h => by rw [hs0]; exact h.2.1.1) (fun s V V' h hb => ⟨h.1, h.2.1.below (by rw [← hs0]; exact hb), h.2.2⟩))
    ⟨hM0, rfl⟩
    (fun x => { tmps := #[.agg #[.int .i64 n, .int .i64 L, .int .i64 R, .int .i64 B], .iface 99 (.agg #[]), .pointer (some ⟨W.heap.size, 0, none⟩), .pointer (some ⟨W.heap.size + 1, 0, none⟩), .pointer (some ⟨W.heap.size + 1 + 1, 0, none⟩), .int .i64 (x.1.1 : Int), .int .i64 (x.1.2 : Int), undef, undef, .agg #[.int .i64 n, .int .i64 L, .int .i64 R, .int .i64 B], .func (.func 80) #[] #[.pointer (some ⟨W.heap.size + 1 + 1 + 1, 0, none⟩)], .int .i64 (x.1.1 : Int), .int .i64 (x.1.2 : Int), undef, undef, undef, undef, undef, undef, undef, undef, undef, undef, undef, undef, undef, undef, undef, undef, undef, undef], defers := [] }) ?assign ?body ?done ?stop
  case assign =>
    intro l x V K hK
    gi_wp2
    exact hK
  case body =>
    rintro l pre ⟨⟨i, j⟩, hij, hjn, hdr⟩ V ⟨hM, hpre⟩ hlt
    simp only at hij hjn hdr
    dsimp only
    have HM := hide hM
    obtain ⟨m0, m1, m2, ⟨mv, m3⟩, m4⟩ := hM
    obtain ⟨c0, c1, c2, c3, _⟩ := row4 m1
    obtain ⟨d0, _⟩ := row1 m2
    clear m1 m2 m3 m4
    obtain ⟨a, ha⟩ : ∃ a, a = sgn (cl R B i) := ⟨_, rfl⟩
    obtain ⟨b, hb⟩ : ∃ b, b = sgn (cl R B j) := ⟨_, rfl⟩
    have hcA : Hid (∀ V' : World, Calls Try.prog 75 #[.agg #[.int .i64 n, .int .i64 L, .int .i64 R, .int .i64 B], .int .i64 (i : Int)] V' (RetB (.int .u8 a) V')) := hide (fun V' => by rw [ha]; exact colourOf_any n L R B i k4 k5 k6 k7 (by omega) (by omega) V')
    have hcB : Hid (∀ V' : World, Calls Try.prog 75 #[.agg #[.int .i64 n, .int .i64 L, .int .i64 R, .int .i64 B], .int .i64 (j : Int)] V' (RetB (.int .u8 b) V')) := hide (fun V' => by rw [hb]; exact colourOf_any n L R B j k4 k5 k6 k7 (by omega) (by omega) V')
    have HA := hide ha
    have HBB := hide hb
    clear ha hb
    gi_wp2_with fail
    obtain ⟨p0, p1, p2, p3⟩ := FieldIn.past ⟨c0, c1, c2, c3⟩
    refine wpIn_region_pastR (by kernel_rfl) (by kernel_rfl) (by kernel_rfl) ?_
    repeat (first | go_big_quiet_step ((first | (go_at_call 75; (with_reducible exact ret_past (hcA.out _))) | (go_at_call 75; (with_reducible exact ret_past (hcB.out _))))) | quiet_step ((first | (go_at_call 75; (with_reducible exact ret_past (hcA.out _))) | (go_at_call 75; (with_reducible exact ret_past (hcB.out _))))))
    refine wpQuiet_nil ?_
    rintro _ ⟨pq, rfl⟩
    have HM1 := hide (HM.out.below (pq.old.mono m0))
    have d1 : pq.to.cell? ⟨W.heap.size + 1, 0, none⟩ = _ := pq.cell d0
    have HB1 := hide pq.old
    clear p0 p1 p2 p3 c0 c1 c2 c3 d0
    have HSKIP : Hid (∀ V' : World, Below V.heap.size V V' → bad 0 (cl R B i) (cl R B j) = false → KeepsOthers V V' ∧ KeepB W.heap.size (W.heap.size + 1 + 1 + 1) V V' ∧ MidF n L R B (.iface 99 (.agg #[])) W.heap.size W V' ∧ okL 0 R B (pre ++ [(⟨(i, j), hij, hjn, hdr⟩ : Ln n L)]) = true) := hide (fun V' hb hbad => by
      refine ⟨keepsOthers_below hb, KeepB.of_below hb (by omega) (by omega), HM.out.below (hb.mono m0), ?_⟩
      rw [okL_snoc, hpre]
      simp [hbad])
    have HV1 := hide pq.old
    by_cases ha46 : a = 46
    · have hbad : Hid (bad 0 (cl R B i) (cl R B j) = false) := hide (by
        have : cl R B i = 0 := sgn_46.1 (by rw [← HA.out]; exact ha46)
        simp [bad, this])
      have ea : (a != 46) = false := by simp [ha46]
      clear ha46
      gi_wp2_with (with_reducible refine leadAny _ ?_)
      exact HSKIP.out _ HV1.out hbad.out
    · have ea : (a != 46) = true := by simp [ha46]
      have ha0 : Hid (cl R B i ≠ 0) := hide (fun e => ha46 (by rw [HA.out]; exact sgn_46.2 e))
      clear ha46
      by_cases hb46 : b = 46
      · have hbad : Hid (bad 0 (cl R B i) (cl R B j) = false) := hide (by
          have : cl R B j = 0 := sgn_46.1 (by rw [← HBB.out]; exact hb46)
          simp [bad, this])
        have eb : (b != 46) = false := by simp [hb46]
        clear hb46
        gi_wp2_with (with_reducible refine leadAny _ ?_)
        exact HSKIP.out _ HV1.out hbad.out
      · have eb : (b != 46) = true := by simp [hb46]
        have hb0 : Hid (cl R B j ≠ 0) := hide (fun e => hb46 (by rw [HBB.out]; exact sgn_46.2 e))
        clear hb46
        gi_wp2_with (with_reducible refine leadAny _ ?_)
        cases hab : (a == b)
        · have hbad : Hid (bad 0 (cl R B i) (cl R B j) = false) := hide (by
            have : ¬ cl R B i = cl R B j := fun e => by
              rw [HA.out, HBB.out, sgn_eq.2 e] at hab
              simp at hab
            simp [bad, this])
          have HAB := hide hab
          clear hab
          gi_wp2_with (first | (with_reducible refine leadAny _ ?_) | (rw [colMethod]) | (gi_at_call 97; refine (CallsIn.inRound l (callsIn_wide.2 (colClash_any a b _))).mono ?_; rw [HAB.out]; rintro e w5 ⟨rfl, hb5⟩; have HV5 := hide (Below.trans' HV1.out hb5); clear hb5))
          exact HSKIP.out _ HV5.out hbad.out
        · have hbad : Hid (bad 0 (cl R B i) (cl R B j) = true) := hide (by
            have h1 : cl R B i = cl R B j := sgn_eq.1 (by rw [← HA.out, ← HBB.out]; simpa using hab)
            have h2 := ha0.out
            rcases cl_range R B i with h3 | h3 | h3
            · exact absurd h3 h2
            · simp [bad, ← h1, h3]
            · simp [bad, ← h1, h3])
          have HAB := hide hab
          clear hab
          gi_wp2_with (first | (with_reducible refine leadAny _ ?_) | (rw [colMethod]) | (gi_at_call 97; refine (CallsIn.inRound l (callsIn_wide.2 (colClash_any a b _))).mono ?_; rw [HAB.out]; rintro e w5 ⟨rfl, hb5⟩; have HV5 := hide (Below.trans' HV1.out hb5); have HM5 := hide (HM1.out.below (hb5.mono HM1.out.1)); obtain ⟨v5, hv5⟩ := HM5.out.2.2.2.1; have HR5 := hide hv5; obtain ⟨r5, f5⟩ := row1 hv5; clear hb5 hv5))
          refine ⟨(keepsOthers_below HV5.out).trans (KeepsOthers.setCell _ _ _), rfl, ⟨by simp [World.setCell]; exact HM5.out.1, box_set1 _ HR5.out, HM5.out.2.2.2.2.setCell (p := ⟨W.heap.size + 1 + 1, 0, none⟩) (by simp; omega) _⟩, ?_⟩
          exact fair_false (by omega) ⟨(i, j), hij, hjn, hdr⟩ hbad.out
  case done =>
    rintro D ys V hD rfl ⟨hM, hok⟩ hK
    rw [okL_lns] at hok
    have HM := hide hM
    obtain ⟨v5, hv5⟩ := HM.out.2.2.2.1
    have HR5 := hide hv5
    obtain ⟨r5, f5⟩ := row1 hv5
    have hne : W.heap.size + 1 + 1 ≠ D := by omega
    have hK2 : (V.setCell ⟨W.heap.size + 1 + 1, 0, none⟩ (.bool true)).heap[D]? = some (.deferred (some [])) := (Below.heap_setCell _ _ _ _ (by simpa using hne.symm)).trans hK
    have HFIN : Hid (Below W.heap.size W ((V.setCell ⟨W.heap.size + 1 + 1, 0, none⟩ (.bool true)).putObj D (.deferred none))) := hide
      ((hM.2.2.2.2.setCell (p := ⟨W.heap.size + 1 + 1, 0, none⟩) (by simp; omega) _).trans (belowK_b (w := W0) (by omega) _ D _ _ hD hK2 rfl rfl))
    have hres : ((V.setCell ⟨W.heap.size + 1 + 1, 0, none⟩ (.bool true)).putObj D (.deferred none)).cell? ⟨W.heap.size + 1 + 1, 0, none⟩ = some (.bool true) :=
      (World.cell?_of_block (a := ⟨W.heap.size + 1 + 1, 0, none⟩) (World.putObj_heap_other (by simpa using hne))).trans ((cell_of_row _ _ 0 _ _ (0, 0) (box_set1 (.bool true) HR5.out)).trans rfl)
    have HOK := hide hok
    clear hM hok hv5
    gi_wp2
    refine ⟨by simp, .inl ⟨_, _, rfl, run_takeDeferred hK2, ?_⟩⟩
    refine ⟨.bool true, by simp [results, Try.results49, go_sem, hres], ?_⟩
    exact ⟨ret_bool HOK.out.symm, HFIN.out⟩
  case stop =>
    rintro D c pre V hD _ ⟨rfl, hX, hfl⟩ hK
    have hne : W.heap.size + 1 + 1 ≠ D := by omega
    have HFIN : Hid (Below W.heap.size W (V.putObj D (.deferred none))) := hide (hX.2.2.trans (belowK_b (w := W0) (by omega) _ D _ _ hD hK rfl rfl))
    have hres : (V.putObj D (.deferred none)).cell? ⟨W.heap.size + 1 + 1, 0, none⟩ = some (.bool false) :=
      (World.cell?_of_block (a := ⟨W.heap.size + 1 + 1, 0, none⟩) (World.putObj_heap_other (by simpa using hne))).trans ((cell_of_row _ _ 0 _ _ (0, 0) hX.2.1).trans rfl)
    have HFL := hide hfl
    clear hX hfl
    gi_wp2
    refine ⟨by simp, .inl ⟨_, _, rfl, run_takeDeferred hK, ?_⟩⟩
    refine ⟨.bool false, by simp [results, Try.results49, go_sem, hres], ?_⟩
    exact ⟨ret_bool HFL.out.symm, HFIN.out⟩
set_option maxRecDepth 100000 in
set_option maxHeartbeats 4000000 in
theorem isFair_snort (n L R B : Int) (hok : okF n L R B = true) (W : World) :
    Calls Try.prog 49 #[.agg #[.int .i64 n, .int .i64 L, .int .i64 R, .int .i64 B], .iface 100 (.agg #[])] W (RetB (.bool (fair n L R B 1)) W) := by
  obtain ⟨k0, k1, k2, k3, k4, k5, k6, k7⟩ := okF_nums hok
  clear hok
  refine (callsIn_wide (n := 6)).1 ?_
  refine callsIn_of_wp_marks Try.func49 rfl trivial ?_ rfl
  simp only [Try.ntmps49, List.size_toArray, List.length_cons, List.length_nil, Nat.reduceAdd, Nat.reduceSub, Array.replicate_succ, Array.replicate_zero, List.push_toArray, List.append_toArray, List.nil_append, List.cons_append]
  gi_wp2_with (refine ⟨trivial, ?_⟩; gi_at_call 74; refine (callsIn_wide.2 (lines_any n L R B _)).mono ?_; rintro e w1 ⟨rfl, rfl⟩)
  obtain ⟨W0, hW0⟩ : ∃ W0, W0 = (((W.alloc (.cells #[.int .i64 n, .int .i64 L, .int .i64 R, .int .i64 B] 25)).alloc (.cells #[.iface 100 (.agg #[])] 57)).alloc (.cells #[.bool false] 4)).alloc (.cells #[.int .i64 n, .int .i64 L, .int .i64 R, .int .i64 B] 25) := ⟨_, rfl⟩
  have hs0 : W0.heap.size = W.heap.size + 4 := by rw [hW0]; simp
  have hB0 : Hid (Below W.heap.size W W0) := by rw [hW0]; exact hide ((((below_alloc _ _).alloc (by simp) _).alloc (by simp; omega) _).alloc (by simp; omega) _)
  have hr0 : W0.heap[W.heap.size]? = some (.cells #[.int .i64 n, .int .i64 L, .int .i64 R, .int .i64 B] 25 (0, 0)) := by rw [hW0]; exact row_alloc (row_alloc (row_alloc (alloc_row _ _ _) _) _) _
  have hr1 : W0.heap[W.heap.size + 1]? = some (.cells #[.iface 100 (.agg #[])] 57 (0, 0)) := by rw [hW0]; exact row_alloc (row_alloc (alloc_row2 _ _ _ _) _) _
  have hr2 : W0.heap[W.heap.size + 1 + 1]? = some (.cells #[.bool false] 4 (0, 0)) := by rw [hW0]; exact row_alloc (alloc_row3 _ _ _ _ _) _
  have hr3 : W0.heap[W.heap.size + 1 + 1 + 1]? = some (.cells #[.int .i64 n, .int .i64 L, .int .i64 R, .int .i64 B] 25 (0, 0)) := by
    rw [hW0]
    have := alloc_row (((W.alloc (.cells #[.int .i64 n, .int .i64 L, .int .i64 R, .int .i64 B] 25)).alloc (.cells #[.iface 100 (.agg #[])] 57)).alloc (.cells #[.bool false] 4)) #[.int .i64 n, .int .i64 L, .int .i64 R, .int .i64 B] 25
    simpa using this
  have hM0 : MidF n L R B (.iface 100 (.agg #[])) W.heap.size W W0 := ⟨by omega, hr0, hr1, ⟨_, hr2⟩, hB0.out⟩
  rw [← hW0]
  clear hW0 hr0 hr1 hr2
  refine wpIn_rangeFunc_ownF (F := Fence.wide) rfl (by omega) (gf := 80) (lb := #[.pointer (some ⟨W.heap.size + 1 + 1 + 1, 0, none⟩)]) rfl trivial (enters_of Try.func80 (by kernel_rfl) rfl)
    (lines_stops 5 (by omega) (W.heap.size + 1 + 1 + 1) W.heap.size n L R B k0 k1 k2 k3 W0 hr3 (by omega)) KeepB.trans (keepB_b (by omega) (by omega)) (Below.refl _ _) (fun _ => rfl)
    (fun pre V => MidF n L R B (.iface 100 (.agg #[])) W.heap.size W V ∧ okL 1 R B pre = true)
    (fun c pre V => c = .ret ∧ MidX W.heap.size W V ∧ fair n L R B 1 = false)
    (ownFrom_of_below (fun s V h => by rw [hs0]; exact h.1.1) (fun s V V' h hb => ⟨h.1.below (by rw [← hs0]; exact hb), h.2⟩))
    (fun c => ownFrom_of_below (fun s V h => by rw [hs0]; exact h.2.1.1) (fun s V V' h hb => ⟨h.1, h.2.1.below (by rw [← hs0]; exact hb), h.2.2⟩))
    ⟨hM0, rfl⟩
    (fun x => { tmps := #[.agg #[.int .i64 n, .int .i64 L, .int .i64 R, .int .i64 B], .iface 100 (.agg #[]), .pointer (some ⟨W.heap.size, 0, none⟩), .pointer (some ⟨W.heap.size + 1, 0, none⟩), .pointer (some ⟨W.heap.size + 1 + 1, 0, none⟩), .int .i64 (x.1.1 : Int), .int .i64 (x.1.2 : Int), undef, undef, .agg #[.int .i64 n, .int .i64 L, .int .i64 R, .int .i64 B], .func (.func 80) #[] #[.pointer (some ⟨W.heap.size + 1 + 1 + 1, 0, none⟩)], .int .i64 (x.1.1 : Int), .int .i64 (x.1.2 : Int), undef, undef, undef, undef, undef, undef, undef, undef, undef, undef, undef, undef, undef, undef, undef, undef, undef, undef], defers := [] }) ?assign ?body ?done ?stop
  case assign =>
    intro l x V K hK
    gi_wp2
    exact hK
  case body =>
    rintro l pre ⟨⟨i, j⟩, hij, hjn, hdr⟩ V ⟨hM, hpre⟩ hlt
    simp only at hij hjn hdr
    dsimp only
    have HM := hide hM
    obtain ⟨m0, m1, m2, ⟨mv, m3⟩, m4⟩ := hM
    obtain ⟨c0, c1, c2, c3, _⟩ := row4 m1
    obtain ⟨d0, _⟩ := row1 m2
    clear m1 m2 m3 m4
    obtain ⟨a, ha⟩ : ∃ a, a = sgn (cl R B i) := ⟨_, rfl⟩
    obtain ⟨b, hb⟩ : ∃ b, b = sgn (cl R B j) := ⟨_, rfl⟩
    have hcA : Hid (∀ V' : World, Calls Try.prog 75 #[.agg #[.int .i64 n, .int .i64 L, .int .i64 R, .int .i64 B], .int .i64 (i : Int)] V' (RetB (.int .u8 a) V')) := hide (fun V' => by rw [ha]; exact colourOf_any n L R B i k4 k5 k6 k7 (by omega) (by omega) V')
    have hcB : Hid (∀ V' : World, Calls Try.prog 75 #[.agg #[.int .i64 n, .int .i64 L, .int .i64 R, .int .i64 B], .int .i64 (j : Int)] V' (RetB (.int .u8 b) V')) := hide (fun V' => by rw [hb]; exact colourOf_any n L R B j k4 k5 k6 k7 (by omega) (by omega) V')
    have HA := hide ha
    have HBB := hide hb
    clear ha hb
    gi_wp2_with fail
    obtain ⟨p0, p1, p2, p3⟩ := FieldIn.past ⟨c0, c1, c2, c3⟩
    refine wpIn_region_pastR (by kernel_rfl) (by kernel_rfl) (by kernel_rfl) ?_
    repeat (first | go_big_quiet_step ((first | (go_at_call 75; (with_reducible exact ret_past (hcA.out _))) | (go_at_call 75; (with_reducible exact ret_past (hcB.out _))))) | quiet_step ((first | (go_at_call 75; (with_reducible exact ret_past (hcA.out _))) | (go_at_call 75; (with_reducible exact ret_past (hcB.out _))))))
    refine wpQuiet_nil ?_
    rintro _ ⟨pq, rfl⟩
    have HM1 := hide (HM.out.below (pq.old.mono m0))
    have d1 : pq.to.cell? ⟨W.heap.size + 1, 0, none⟩ = _ := pq.cell d0
    have HB1 := hide pq.old
    clear p0 p1 p2 p3 c0 c1 c2 c3 d0
    have HSKIP : Hid (∀ V' : World, Below V.heap.size V V' → bad 1 (cl R B i) (cl R B j) = false → KeepsOthers V V' ∧ KeepB W.heap.size (W.heap.size + 1 + 1 + 1) V V' ∧ MidF n L R B (.iface 100 (.agg #[])) W.heap.size W V' ∧ okL 1 R B (pre ++ [(⟨(i, j), hij, hjn, hdr⟩ : Ln n L)]) = true) := hide (fun V' hb hbad => by
      refine ⟨keepsOthers_below hb, KeepB.of_below hb (by omega) (by omega), HM.out.below (hb.mono m0), ?_⟩
      rw [okL_snoc, hpre]
      simp [hbad])
    have HV1 := hide pq.old
    by_cases ha46 : a = 46
    · have hbad : Hid (bad 1 (cl R B i) (cl R B j) = false) := hide (by
        have : cl R B i = 0 := sgn_46.1 (by rw [← HA.out]; exact ha46)
        simp [bad, this])
      have ea : (a != 46) = false := by simp [ha46]
      clear ha46
      gi_wp2_with (with_reducible refine leadAny _ ?_)
      exact HSKIP.out _ HV1.out hbad.out
    · have ea : (a != 46) = true := by simp [ha46]
      have ha0 : Hid (cl R B i ≠ 0) := hide (fun e => ha46 (by rw [HA.out]; exact sgn_46.2 e))
      clear ha46
      by_cases hb46 : b = 46
      · have hbad : Hid (bad 1 (cl R B i) (cl R B j) = false) := hide (by
          have : cl R B j = 0 := sgn_46.1 (by rw [← HBB.out]; exact hb46)
          simp [bad, this])
        have eb : (b != 46) = false := by simp [hb46]
        clear hb46
        gi_wp2_with (with_reducible refine leadAny _ ?_)
        exact HSKIP.out _ HV1.out hbad.out
      · have eb : (b != 46) = true := by simp [hb46]
        have hb0 : Hid (cl R B j ≠ 0) := hide (fun e => hb46 (by rw [HBB.out]; exact sgn_46.2 e))
        clear hb46
        gi_wp2_with (with_reducible refine leadAny _ ?_)
        cases hab : (a != b)
        · have hbad : Hid (bad 1 (cl R B i) (cl R B j) = false) := hide (by
            have h1 : cl R B i = cl R B j := sgn_eq.1 (by rw [← HA.out, ← HBB.out]; simpa using hab)
            simp [bad, h1])
          have HAB := hide hab
          clear hab
          gi_wp2_with (first | (with_reducible refine leadAny _ ?_) | (rw [snortMethod]) | (gi_at_call 98; refine (CallsIn.inRound l (callsIn_wide.2 (snortClash_any a b _))).mono ?_; rw [HAB.out]; rintro e w5 ⟨rfl, hb5⟩; have HV5 := hide (Below.trans' HV1.out hb5); clear hb5))
          exact HSKIP.out _ HV5.out hbad.out
        · have hbad : Hid (bad 1 (cl R B i) (cl R B j) = true) := hide (by
            have h1 : ¬ cl R B i = cl R B j := fun e => by
              rw [HA.out, HBB.out, sgn_eq.2 e] at hab
              simp at hab
            have h2 := ha0.out
            have h3 := hb0.out
            have h4 := cl_range R B i
            have h5 := cl_range R B j
            have h6 : cl R B i > 0 := by omega
            have h7 : cl R B j > 0 := by omega
            simp [bad, h1, h6, h7])
          have HAB := hide hab
          clear hab
          gi_wp2_with (first | (with_reducible refine leadAny _ ?_) | (rw [snortMethod]) | (gi_at_call 98; refine (CallsIn.inRound l (callsIn_wide.2 (snortClash_any a b _))).mono ?_; rw [HAB.out]; rintro e w5 ⟨rfl, hb5⟩; have HV5 := hide (Below.trans' HV1.out hb5); have HM5 := hide (HM1.out.below (hb5.mono HM1.out.1)); obtain ⟨v5, hv5⟩ := HM5.out.2.2.2.1; have HR5 := hide hv5; obtain ⟨r5, f5⟩ := row1 hv5; clear hb5 hv5))
          refine ⟨(keepsOthers_below HV5.out).trans (KeepsOthers.setCell _ _ _), rfl, ⟨by simp [World.setCell]; exact HM5.out.1, box_set1 _ HR5.out, HM5.out.2.2.2.2.setCell (p := ⟨W.heap.size + 1 + 1, 0, none⟩) (by simp; omega) _⟩, ?_⟩
          exact fair_false (by omega) ⟨(i, j), hij, hjn, hdr⟩ hbad.out
  case done =>
    rintro D ys V hD rfl ⟨hM, hok⟩ hK
    rw [okL_lns] at hok
    have HM := hide hM
    obtain ⟨v5, hv5⟩ := HM.out.2.2.2.1
    have HR5 := hide hv5
    obtain ⟨r5, f5⟩ := row1 hv5
    have hne : W.heap.size + 1 + 1 ≠ D := by omega
    have hK2 : (V.setCell ⟨W.heap.size + 1 + 1, 0, none⟩ (.bool true)).heap[D]? = some (.deferred (some [])) := (Below.heap_setCell _ _ _ _ (by simpa using hne.symm)).trans hK
    have HFIN : Hid (Below W.heap.size W ((V.setCell ⟨W.heap.size + 1 + 1, 0, none⟩ (.bool true)).putObj D (.deferred none))) := hide
      ((hM.2.2.2.2.setCell (p := ⟨W.heap.size + 1 + 1, 0, none⟩) (by simp; omega) _).trans (belowK_b (w := W0) (by omega) _ D _ _ hD hK2 rfl rfl))
    have hres : ((V.setCell ⟨W.heap.size + 1 + 1, 0, none⟩ (.bool true)).putObj D (.deferred none)).cell? ⟨W.heap.size + 1 + 1, 0, none⟩ = some (.bool true) :=
      (World.cell?_of_block (a := ⟨W.heap.size + 1 + 1, 0, none⟩) (World.putObj_heap_other (by simpa using hne))).trans ((cell_of_row _ _ 0 _ _ (0, 0) (box_set1 (.bool true) HR5.out)).trans rfl)
    have HOK := hide hok
    clear hM hok hv5
    gi_wp2
    refine ⟨by simp, .inl ⟨_, _, rfl, run_takeDeferred hK2, ?_⟩⟩
    refine ⟨.bool true, by simp [results, Try.results49, go_sem, hres], ?_⟩
    exact ⟨ret_bool HOK.out.symm, HFIN.out⟩
  case stop =>
    rintro D c pre V hD _ ⟨rfl, hX, hfl⟩ hK
    have hne : W.heap.size + 1 + 1 ≠ D := by omega
    have HFIN : Hid (Below W.heap.size W (V.putObj D (.deferred none))) := hide (hX.2.2.trans (belowK_b (w := W0) (by omega) _ D _ _ hD hK rfl rfl))
    have hres : (V.putObj D (.deferred none)).cell? ⟨W.heap.size + 1 + 1, 0, none⟩ = some (.bool false) :=
      (World.cell?_of_block (a := ⟨W.heap.size + 1 + 1, 0, none⟩) (World.putObj_heap_other (by simpa using hne))).trans ((cell_of_row _ _ 0 _ _ (0, 0) hX.2.1).trans rfl)
    have HFL := hide hfl
    clear hX hfl
    gi_wp2
    refine ⟨by simp, .inl ⟨_, _, rfl, run_takeDeferred hK, ?_⟩⟩
    refine ⟨.bool false, by simp [results, Try.results49, go_sem, hres], ?_⟩
    exact ⟨ret_bool HFL.out.symm, HFIN.out⟩

theorem isFair_any (n L R B game : Int) (hok : okF n L R B = true) (hg : 0 ≤ game ∧ game ≤ 1) (W : World) :
    Calls Try.prog 49 #[.agg #[.int .i64 n, .int .i64 L, .int .i64 R, .int .i64 B], ruleV game] W (RetB (.bool (fair n L R B game)) W) := by
  rcases (by omega : game = 0 ∨ game = 1) with rfl | rfl
  · exact isFair_col n L R B hok W
  · exact isFair_snort n L R B hok W
end Go.Proofs.Ytdimmlpnfghndaa
