/-
  Col and snort: who wins, the model's text, beside its table.
-/
import Derived.Test.YtdimmlpnfghndaaGm
namespace Go.Proofs.Ytdimmlpnfghndaa
open Go.RowKit Go.Maps
set_option linter.unusedVariables false

theorem KnT.turn {val : Int → Int → Int → Int} {N L : Int} {b : Nat} {w w' : World} (h : KnT val N L b w) (e : w'.heap[b]? = w.heap[b]?) : KnT val N L b w' := by
  obtain ⟨ts, h1, h2⟩ := h
  exact ⟨ts, e.trans h1, h2⟩
/-- A store into the table. -/
theorem KnT.stored {val : Int → Int → Int → Int} {N L : Int} {b p : Nat} {w : World} (h : KnT val N L b w) {R B pl : Int} (ho : okT N L R B pl) (hp : place N R B pl = (p : Int)) (u : Value) :
    (w.setCell ⟨b, p, none⟩ u).cell? ⟨b, p, none⟩ = some u ∧ (w.setCell ⟨b, p, none⟩ u).frozen? ⟨b, p, none⟩ = false ∧ KnT val N L b ((w.setCell ⟨b, p, none⟩ u).setCell ⟨b, p, none⟩ (.int .i8 (val R B pl))) := by
  obtain ⟨ts, h1, h2, h3⟩ := h
  have hk := KnT.set ⟨ts, h1, h2, h3⟩ ho hp
  have hb := heap_setCell_same _ b p _ _ u h1
  have hpl : p < ts.length := by
    have := (place_range (L := L) ho.1 ho.2).2
    omega
  refine ⟨(cell_of_row _ _ p _ _ (0, 0) hb).trans ?_, frozen_of_row _ _ _ _ _ hb, hk.turn (setCell_twice _ _ _ _ _ h1)⟩
  simp [hpl]

def valW (N L game : Int) (R B pl : Int) : Int := if win N L R B game pl = true then 2 else 1
theorem any_take {q : Int → Bool} {zs : List Int} {j : Nat} {z : Int} (h : zs[j]? = some z) : (zs.take (j + 1)).any q = ((zs.take j).any q || q z) := by
  rw [List.take_add_one, h, List.any_append]
  simp
theorem any_of_take {q : Int → Bool} {zs : List Int} {j : Nat} (h : (zs.take j).any q = true) : zs.any q = true := by
  obtain ⟨x, hx, h2⟩ := List.any_eq_true.1 h
  exact List.any_eq_true.2 ⟨x, List.mem_of_mem_take hx, h2⟩

set_option maxRecDepth 100000 in
set_option maxHeartbeats 4000000 in
theorem specWins_walk (N L game : Int) (bK M : Nat) (hM : (M : Int) = 2 * pow3 N.toNat) (R B pl : Int) (hok : okT N L R B pl) (W : World) (hT : KnT (valW N L game) N L bK W)
    (hD : ∀ (i : Int) (V : World), i ∈ pts N L R B game pl → KnT (valW N L game) N L bK V → Calls Try.prog 60 #[.agg #[.int .i64 N, .int .i64 L, .int .i64 (mvR R pl i), .int .i64 (mvB B pl i)], .int .i64 game, .int .i64 (1 - pl), .slice (some ⟨bK, 0, none⟩) M M] V (RetK bK (KnT (valW N L game) N L bK) (.bool (win N L (mvR R pl i) (mvB B pl i) game (1 - pl))) V)) :
    Calls Try.prog 60 #[.agg #[.int .i64 N, .int .i64 L, .int .i64 R, .int .i64 B], .int .i64 game, .int .i64 pl, .slice (some ⟨bK, 0, none⟩) M M] W (RetK bK (KnT (valW N L game) N L bK) (.bool (win N L R B game pl)) W) := by
  have hM8 : M ≤ 13122 := by
    have := pow3_8 (n := N.toNat) (by have := okF_nums hok.1; omega)
    omega
  obtain ⟨W0, hW0⟩ : ∃ W0, W0 = W.alloc (.cells #[.int .i64 N, .int .i64 L, .int .i64 R, .int .i64 B] 25) := ⟨_, rfl⟩
  have hB0 : Hid (Below W.heap.size W W0) := by rw [hW0]; exact hide (below_alloc _ _)
  have hX0 : Hid (FieldIn W0 W.heap.size N L R B) := by rw [hW0]; exact hide (fieldIn_new _ _ _ _ _ _)
  have hbK : bK < W.heap.size := hT.lt
  have HT0 := hide (hT.keep hB0.out)
  have HOT := hide hok
  have HD := hide hD
  have HM := hide hM
  have hN8 := (okF_nums hok.1).2.1
  obtain ⟨v, hv⟩ : ∃ v, v = win N L R B game pl := ⟨_, rfl⟩
  rw [← hv]
  have HV := hide hv
  have HVV : Hid (valW N L game R B pl = if v = true then 2 else 1) := hide (by rw [hv]; rfl)
  obtain ⟨pl0, pl1⟩ := hok.2
  have HPL : Hid (∀ V : World, Calls Try.prog 77 #[.agg #[.int .i64 N, .int .i64 L, .int .i64 R, .int .i64 B], .int .i64 pl] V (RetB (.int .i64 (place N R B pl)) V)) := hide (fun V => place_any N L R B pl HOT.out.1 HOT.out.2 V)
  have HPT : Hid (∀ V : World, Calls Try.prog 52 #[.agg #[.int .i64 N, .int .i64 L, .int .i64 R, .int .i64 B], .int .i64 game, .int .i64 pl] V (NewL (pts N L R B game pl) V)) := hide (fun V => specPoints_any N L R B game pl HOT.out.1 V)
  obtain ⟨X0, X1, X2, X3⟩ := hX0.out
  clear hT hok hD hM hv
  go_enter Try.func60, Try.ntmps60
  go_wp2_with fail
  rw [← hW0]
  clear hW0
  (try go_wp2_with fail)
  refine (HPL.out _).mono ?_
  rintro e w1 ⟨rfl, hb1⟩
  have HT1 := hide (HT0.out.keep hb1)
  have hX1 := hide (hX0.out.keep hb1)
  have hB1 := hide (Below.trans' hB0.out hb1)
  have hs1 := hX1.out.lt
  clear hb1 X0 X1 X2 X3
  obtain ⟨X0, X1, X2, X3⟩ := hX1.out
  obtain ⟨p, t, hp, hpM, hc, hf, ht⟩ := HT1.out.cell HOT.out
  rw [hp]
  have HP := hide hp
  have HTV := hide ht
  have hpM' : p < M := by have := HM.out; omega
  clear hp hpM ht
  by_cases h0 : 0 < t
  · have htv : t = if v = true then 2 else 1 := by
      rcases HTV.out with h | h
      · omega
      · rw [h, HVV.out]
    have HFIN : Hid (RetK bK (KnT (valW N L game) N L bK) (.bool v) W (.returned (.bool v)) w1) := hide ⟨rfl, But.of_below hB1.out, HT1.out⟩
    clear HTV
    cases v
    · obtain rfl : t = 1 := by simpa using htv
      clear htv
      go_wp2_with fail
      go_ret
      exact HFIN.out
    · obtain rfl : t = 2 := by simpa using htv
      clear htv
      go_wp2_with fail
      go_ret
      exact HFIN.out
  · obtain rfl : t = 0 := by
      rcases HTV.out with h | h
      · exact h
      · rw [HVV.out] at h
        split at h <;> omega
    clear HTV h0
    go_wp2_with fail
    refine (HPT.out _).mono ?_
    rintro e w2 ⟨al, cl, rfl, ho2, hb2⟩
    obtain ⟨zs, hzs⟩ : ∃ zs, zs = pts N L R B game pl := ⟨_, rfl⟩
    rw [← hzs] at ho2 ⊢
    have HZS := hide hzs
    have HI2 := hide (intsAt_of_ownsRow ho2)
    have HFAR := hide (own_far ho2 (show bK < w1.heap.size by omega))
    have hzl : zs.length ≤ 8 := by rw [hzs]; exact pts_le hN8
    have HT2 := hide (HT1.out.keep hb2)
    have hX2 := hide (hX1.out.keep hb2)
    have hB2 := hide (Below.trans' hB1.out hb2)
    obtain ⟨n, hn⟩ : ∃ n, n = zs.length := ⟨_, rfl⟩
    have HN := hide hn
    rw [← hn] at hzl ⊢
    obtain ⟨q, hq⟩ : ∃ q : Int → Bool, q = fun i => !win N L (mvR R pl i) (mvB B pl i) game (1 - pl) := ⟨_, rfl⟩
    have HQ := hide hq
    have HWQ : Hid (v = zs.any q) := hide (by rw [HV.out, HQ.out, HZS.out]; exact win_step HOT.out.1)
    clear ho2 hb2 hzs hn hq X0 X1 X2 X3 hc hf
    go_wp2_with fail
    go_loopw [11, 12] (fun o i wr => ∃ (j : Nat), j ≤ n ∧ i = .int .i64 j ∧ o = .bool ((zs.take j).any q) ∧ But bK w2 wr ∧ KnT (valW N L game) N L bK wr) (fun _ i _ => n - (intOf i).toNat)
    case atStart => exact ⟨0, Nat.zero_le _, rfl, by simp, But.refl _ _, HT2.out⟩
    case round =>
      obtain ⟨j, hj, rfl, rfl, hBr, hTr⟩ := hrel
      obtain ⟨o, ho⟩ : ∃ o, o = (zs.take j).any q := ⟨_, rfl⟩
      rw [← ho]
      have HO := hide ho
      have HBR := hide hBr
      have HTR := hide hTr
      clear ho
      by_cases hgo : j < n ∧ o = false
      · obtain ⟨hlt, rfl⟩ := hgo
        obtain ⟨b, off, z, rfl, cz, hz⟩ := (hBr.ints HI2.out HFAR.out).one (k := j) (by rw [← HN.out]; exact hlt)
        have hmem : z ∈ pts N L R B game pl := by rw [← HZS.out]; exact mem_of_get hz.out
        obtain ⟨z0, z1, z2, z3⟩ := pts_mem hmem
        obtain ⟨x, hx⟩ : ∃ x, x = win N L (mvR R pl z) (mvB B pl z) game (1 - pl) := ⟨_, rfl⟩
        have hnew : Hid ((zs.take (j + 1)).any q = !x) := hide (by rw [any_take hz.out, ← HO.out, HQ.out, hx]; rfl)
        obtain ⟨_, _, _, _, r0, r1, b0, b1⟩ := okF_nums HOT.out.1
        obtain ⟨r, hr⟩ : ∃ r, r = mvR R pl z := ⟨_, rfl⟩
        obtain ⟨bb, hbb⟩ : ∃ bb, bb = mvB B pl z := ⟨_, rfl⟩
        have HMV : Hid (∀ V : World, Calls Try.prog 55 #[.agg #[.int .i64 N, .int .i64 L, .int .i64 R, .int .i64 B], .int .i64 pl, .int .i64 z] V (RetB (.agg #[.int .i64 N, .int .i64 L, .int .i64 r, .int .i64 bb]) V)) := hide (fun V => by rw [hr, hbb]; exact specMove_any N L R B pl z r0 r1 b0 b1 z0 (by omega) V)
        have HWI : Hid (∀ V : World, KnT (valW N L game) N L bK V → Calls Try.prog 60 #[.agg #[.int .i64 N, .int .i64 L, .int .i64 r, .int .i64 bb], .int .i64 game, .int .i64 (1 - pl), .slice (some ⟨bK, 0, none⟩) M M] V (RetK bK (KnT (valW N L game) N L bK) (.bool x) V)) := hide (fun V hk => by rw [hr, hbb, hx]; exact HD.out z V hmem hk)
        obtain ⟨X0, X1, X2, X3⟩ := hX2.out
        have nX : W.heap.size ≠ bK := by omega
        have q0 : ∀ p : PB bK (KnT (valW N L game) N L bK) wr, p.to.cell? ⟨W.heap.size, 0, none⟩ = some (.int .i64 N) := fun p => p.cell (hBr.cell X0 nX) nX
        have q1 : ∀ p : PB bK (KnT (valW N L game) N L bK) wr, p.to.cell? ⟨W.heap.size, 1, none⟩ = some (.int .i64 L) := fun p => p.cell (hBr.cell X1 nX) nX
        have q2 : ∀ p : PB bK (KnT (valW N L game) N L bK) wr, p.to.cell? ⟨W.heap.size, 2, none⟩ = some (.int .i64 R) := fun p => p.cell (hBr.cell X2 nX) nX
        have q3 : ∀ p : PB bK (KnT (valW N L game) N L bK) wr, p.to.cell? ⟨W.heap.size, 3, none⟩ = some (.int .i64 B) := fun p => p.cell (hBr.cell X3 nX) nX
        have cz' : ∀ p : PB bK (KnT (valW N L game) N L bK) wr, p.to.cell? ⟨b, off + j, none⟩ = some (.int .i64 z) := fun p => p.cell cz (HFAR.out b off rfl)
        have hj0 : (0 : Int) ≤ (j : Int) := by omega
        have hjn : (j : Int) < (n : Int) := by omega
        clear hBr hTr hmem hx hr hbb X0 X1 X2 X3 cz r0 r1 b0 b1
        go_wp2_with fail
        refine wp_region_pb (bK) (KnT (valW N L game) N L bK) (fun _ _ h k => KnT.keep h k) (by kernel_rfl) (by kernel_rfl) ?_
        repeat (first | fail | go_big_quiet_step ((first | (go_at_call 55; with_reducible exact retB_pb (fun _ _ h k => KnT.keep h k) (HMV.out _)) | (go_at_call 60; with_reducible exact retK_pb (HWI.out _ (PB.inv _ HTR.out))))) | quiet_step ((first | (go_at_call 55; with_reducible exact retB_pb (fun _ _ h k => KnT.keep h k) (HMV.out _)) | (go_at_call 60; with_reducible exact retK_pb (HWI.out _ (PB.inv _ HTR.out))))))
        refine wpQuiet_nil ?_
        rintro _ ⟨pq, rfl⟩
        have HB3 := hide (HBR.out.trans pq.old)
        have HT3 := hide (pq.inv HTR.out)
        clear q0 q1 q2 q3 cz'
        go_wp2_with fail
        go_roundw
        case rel => exact ⟨j + 1, by omega, by go_num, by rw [hnew.out], HB3.out, HT3.out⟩
        case measure => simp [intOf]; omega
      · have hov : Hid (o = v) := hide (by
          by_cases e : o = true
          · rw [HWQ.out, e]
            exact (any_of_take (by rw [← HO.out]; exact e)).symm
          · have hjn : j = n := by
              rcases Nat.lt_or_ge j n with h | h
              · exact absurd ⟨h, by simpa using e⟩ hgo
              · omega
            rw [HO.out, HWQ.out, hjn, HN.out, List.take_length])
        obtain ⟨p', t', hp', hpM2, hc', hfz, _⟩ := hTr.cell HOT.out
        obtain rfl : p' = p := by have h1 := HP.out; rw [hp'] at h1; omega
        obtain ⟨c1, c2, hk⟩ := hTr.stored HOT.out hp' (.int .i8 1)
        have HS1 := hide (hTr.set HOT.out hp')
        have HS2 := hide hk
        have hv' := hov.out
        have HBW := hide ((But.of_below (n := bK) hB2.out).trans hBr)
        clear hov hp' hpM2 hk HO
        subst hv'
        cases o
        · have hval : valW N L game R B pl = 1 := by rw [HVV.out]; rfl
          rw [hval] at HS1
          have HFIN : Hid (RetK bK (KnT (valW N L game) N L bK) (.bool false) W (.returned (.bool false)) (wr.setCell ⟨bK, p', none⟩ (.int .i8 1))) := hide ⟨rfl, HBW.out.set p' _, HS1.out⟩
          have hlt : ¬ ((j : Int) < (n : Int)) := fun h => hgo ⟨by omega, rfl⟩
          clear hgo hBr hTr c1 c2 hval
          go_wp2_with fail
          go_ret
          exact HFIN.out
        · have hval : valW N L game R B pl = 2 := by rw [HVV.out]; rfl
          rw [hval] at HS2
          have HFIN : Hid (RetK bK (KnT (valW N L game) N L bK) (.bool true) W (.returned (.bool true)) ((wr.setCell ⟨bK, p', none⟩ (.int .i8 1)).setCell ⟨bK, p', none⟩ (.int .i8 2))) := hide ⟨rfl, (HBW.out.set p' _).set p' _, HS2.out⟩
          clear hgo hBr hTr hval
          by_cases hlt : (j : Int) < (n : Int)
          · go_wp2_with fail
            go_ret
            exact HFIN.out
          · go_wp2_with fail
            go_ret
            exact HFIN.out

/-- Who wins, from any turn on. -/
theorem specWins_any (N L game : Int) (bK M : Nat) (hM : (M : Int) = 2 * pow3 N.toNat) : ∀ (k : Nat) (R B pl : Int) (W : World), okT N L R B pl → freeN N R B = k → KnT (valW N L game) N L bK W → Calls Try.prog 60 #[.agg #[.int .i64 N, .int .i64 L, .int .i64 R, .int .i64 B], .int .i64 game, .int .i64 pl, .slice (some ⟨bK, 0, none⟩) M M] W (RetK bK (KnT (valW N L game) N L bK) (.bool (win N L R B game pl)) W) := by
  intro k
  induction k with
  | zero =>
    intro R B pl W hok hk hT
    refine specWins_walk N L game bK M hM R B pl hok W hT (fun i V hi _ => ?_)
    rw [pts_zero hk] at hi
    cases hi
  | succ k ih =>
    intro R B pl W hok hk hT
    refine specWins_walk N L game bK M hM R B pl hok W hT (fun i V hi hv => ?_)
    obtain ⟨h1, _, h3⟩ := move_of_pts hok.1 hi
    have h2 := hok.2
    exact ih _ _ _ V ⟨h1, by omega, by omega⟩ (by omega) hv
end Go.Proofs.Ytdimmlpnfghndaa
