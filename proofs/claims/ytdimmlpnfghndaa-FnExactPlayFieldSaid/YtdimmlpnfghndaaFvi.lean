/-
  Col and snort: values of turns beside the map that keeps them, the program's text (numbers of moves).
-/
import Derived.Test.YtdimmlpnfghndaaFa
import Derived.Test.YtdimmlpnfghndaaFd
import Derived.Test.YtdimmlpnfghndaaFv
import Derived.Test.YtdimmlpnfghndaaFe
namespace Go.Proofs.Ytdimmlpnfghndaa
open Go.RowKit Go.Maps
set_option linter.unusedVariables false



/-- What value does for the turns behind the moves of a turn. -/
def DeeperI (up : List Int → Int) (pb : Nat) (N L game : Int) (ext : List (Nat × Obj)) (rv : Value) (bm : Nat) (R B pl : Int) : Prop :=
  ∀ (i : Int) (V : World), i ∈ pts N L R B game pl → KnM (lvI up N L game) 2 N L ext bm V → Calls Try.prog 72 #[.agg #[rv, .func (.func 79) #[] #[.pointer (some ⟨pb, 0, none⟩)], .map (some bm)], .agg #[.int .i64 N, .int .i64 L, .int .i64 (mvR R pl i), .int .i64 (mvB B pl i), .int .i64 (1 - pl)]] V (RetK bm (KnM (lvI up N L game) 2 N L ext bm) (.int .i64 (leftAt up N L game (mvR R pl i) (mvB B pl i) (1 - pl))) V)

set_option maxRecDepth 100000 in
set_option maxHeartbeats 4000000 in
theorem valueI_walk (up : List Int → Int) (N L game : Int) (ext : List (Nat × Obj)) (hu : UpOk up) (pb : Nat) (hrule : RuleI up pb ext) (hg : 0 ≤ game ∧ game ≤ 1) (bm : Nat) (R B pl : Int) (hok : okT N L R B pl) (W : World) (hK : KnM (lvI up N L game) 2 N L ext bm W) (hD : DeeperI up pb N L game ext (ruleV game) bm R B pl) :
    Calls Try.prog 72 #[.agg #[ruleV game, .func (.func 79) #[] #[.pointer (some ⟨pb, 0, none⟩)], .map (some bm)], .agg #[.int .i64 N, .int .i64 L, .int .i64 R, .int .i64 B, .int .i64 pl]] W (RetK bm (KnM (lvI up N L game) 2 N L ext bm) (.int .i64 (leftAt up N L game R B pl)) W) := by
  obtain ⟨i0, hi0, hz0, hz1, hz2⟩ := info_parts Try.info2
  obtain ⟨rv, hrv⟩ : ∃ rv, rv = ruleV game := ⟨_, rfl⟩
  have HRV := hide hrv
  rw [← hrv] at hD ⊢
  obtain ⟨W0, hW0⟩ : ∃ W0, W0 = (W.alloc (.cells #[rv, .func (.func 79) #[] #[.pointer (some ⟨pb, 0, none⟩)], .map (some bm)] 88)).alloc (.cells #[.int .i64 N, .int .i64 L, .int .i64 R, .int .i64 B, .int .i64 pl] 64) := ⟨_, rfl⟩
  have hB0 : Hid (Below W.heap.size W W0) := by rw [hW0]; exact hide ((below_alloc _ _).alloc (by simp) _)
  have hS0 : Hid (W0.heap[W.heap.size]? = some (.cells #[rv, .func (.func 79) #[] #[.pointer (some ⟨pb, 0, none⟩)], .map (some bm)] 88 (0, 0))) := by rw [hW0]; exact hide (row_alloc (alloc_row _ _ _) _)
  have hT0 : Hid (W0.heap[W.heap.size + 1]? = some (.cells #[.int .i64 N, .int .i64 L, .int .i64 R, .int .i64 B, .int .i64 pl] 64 (0, 0))) := by rw [hW0]; exact hide (alloc_row2 _ _ _ _)
  have hz : Hid (W0.heap.size = W.heap.size + 2) := by rw [hW0]; exact hide (by simp)
  have hbm : bm < W.heap.size := hK.lt
  have HK0 := hide (hK.keep hB0.out)
  have HOT := hide hok
  have HD := hide hD
  have HG := hide hg
  obtain ⟨kl, hkl⟩ := hok.key
  have HKL := hide hkl
  obtain ⟨v, hv⟩ : ∃ v, v = leftAt up N L game R B pl := ⟨_, rfl⟩
  have hvr : 0 ≤ v ∧ v ≤ 8 := by rw [hv]; exact left_8 hu hok.1
  rw [← hv]
  have HV := hide hv
  have hN8 := (okF_nums hok.1).2.1
  obtain ⟨f0, f1, f2, _⟩ := row3 hS0.out
  obtain ⟨t0, t1, t2, t3, t4, _⟩ := row5 hT0.out
  obtain ⟨D, hown, hTD⟩ := HK0.out.room
  have HTD := hide hTD
  have HPO : Hid (∀ V : World, Calls Try.prog 54 #[.agg #[.int .i64 N, .int .i64 L, .int .i64 R, .int .i64 B, .int .i64 pl], rv] V (NewL (pts N L R B game pl) V)) := hide (fun V => by rw [HRV.out]; exact points_any N L R B game pl HOT.out.1 HG.out ⟨HOT.out.2.1, HOT.out.2.2⟩ V)
  clear hK hok hD hg hkl hv hrv hTD
  cases hh : has D kl
  · have HH := hide hh
    clear hh
    go_enter Try.func72, Try.ntmps72
    go_wp2_with (at_lookup; rw [← hW0]; clear hW0; refine wpList_lookup_own_ok_int _ rfl _ _ 86 rfl 64 2 .i64 turnKeyed Try.underlying86 Try.underlying2 (zeroI _) bm 131072 D rfl hown _ kl rfl HKL.out ?_; intro cc hat hwc; rw [HH.out])
    clear hat hwc hown
    refine (HPO.out _).mono ?_
    rintro e w1 ⟨a1, c1, rfl, ho1, hb1⟩
    obtain ⟨zs, hzs⟩ : ∃ zs, zs = pts N L R B game pl := ⟨_, rfl⟩
    rw [← hzs] at ho1 ⊢
    have HZS := hide hzs
    have HI1 := hide (intsAt_of_ownsRow ho1)
    have HFAR : Hid (∀ g off, a1 = some ⟨g, off, none⟩ → g < w1.heap.size ∧ g ≠ bm) := hide (fun g off e => by
      rcases ho1.2 with ⟨hv, _⟩ | ⟨g', cap, cur, hv, hgg, hh, _⟩
      · simp only [Value.slice.injEq] at hv
        rw [e] at hv
        cases hv.1
      · simp only [Value.slice.injEq] at hv
        rw [e] at hv
        have e2 := hv.1
        simp only [Option.some.injEq, Addr.mk.injEq] at e2
        have hlt := (Array.getElem?_eq_some_iff.1 hh).1
        have := hz.out
        omega)
    have hzl : zs.length ≤ 8 := by rw [hzs]; exact pts_le hN8
    have HK1 := hide (HK0.out.keep hb1)
    have hB1 := hide (Below.trans' hB0.out hb1)
    have hS1 := hide (box_keep hS0.out hb1)
    have hT1 := hide (box_keep hT0.out hb1)
    have hs1 : W.heap.size + 2 ≤ w1.heap.size := by have := hb1.size; have := hz.out; omega
    obtain ⟨n, hn⟩ : ∃ n, n = zs.length := ⟨_, rfl⟩
    obtain ⟨bs, hbs⟩ : ∃ bs, bs = zs.map (fun i => leftAt up N L game (mvR R pl i) (mvB B pl i) (1 - pl)) := ⟨_, rfl⟩
    have HBS := hide hbs
    have HBL : Hid (bs.length = n) := hide (by rw [hbs, hn]; simp)
    have HN := hide hn
    rw [← hn] at hzl ⊢
    have hO1 : Hid (OwnV 2 w1.heap.size bm w1 w1 (.slice none 0 0) ((bs.take 0).map intV)) := hide (OwnV.nil (ButB.refl _ _ _) (Nat.le_refl _))
    clear ho1 hb1 hzs hn hbs f0 f1 f2 t0 t1 t2 t3 t4
    obtain ⟨f0, f1, f2, _⟩ := row3 hS1.out
    obtain ⟨t0, t1, t2, t3, t4, _⟩ := row5 hT1.out
    go_wp2_with fail
    go_loopw [7, 25] (fun v7 i wr => ∃ (j : Nat) (v0 : Value), v0 = v7 ∧ j ≤ n ∧ i = .int .i64 j ∧ OwnV 2 w1.heap.size bm w1 wr v7 ((bs.take j).map intV) ∧ KnM (lvI up N L game) 2 N L ext bm wr) (fun _ i _ => n - (intOf i).toNat)
    case atStart => exact ⟨0, _, rfl, Nat.zero_le _, rfl, hO1.out, HK1.out⟩
    case round =>
      clear hO1 f0 f1 f2 t0 t1 t2 t3 t4
      obtain ⟨j, v7, rfl, hj, rfl, hO, hKr⟩ := hrel
      have HO := hide hO
      have HKR := hide hKr
      have hSr := hO.old.row hS1.out (by omega) (by omega)
      have hTr := hO.old.row hT1.out (by omega) (by omega)
      have HSR := hide hSr
      have HTR := hide hTr
      by_cases hlt : j < n
      · obtain ⟨b, off, z, rfl, cz, hz⟩ := (hO.old.ints HI1.out HFAR.out).one (k := j) (by rw [← HN.out]; exact hlt)
        have hmem : z ∈ pts N L R B game pl := by rw [← HZS.out]; exact mem_of_get hz.out
        obtain ⟨z0, z1, z2, z3⟩ := pts_mem hmem
        have hbj : Hid (bs[j]? = some (leftAt up N L game (mvR R pl z) (mvB B pl z) (1 - pl))) := hide (by rw [HBS.out, List.getElem?_map, hz.out]; rfl)
        obtain ⟨x, hx⟩ : ∃ x, x = leftAt up N L game (mvR R pl z) (mvB B pl z) (1 - pl) := ⟨_, rfl⟩
        have hnew : Hid ((bs.take (j + 1)).map intV = (bs.take j).map intV ++ [.int .i64 x]) := hide (by rw [List.take_add_one, hbj.out, ← hx]; simp [intV])
        obtain ⟨p0, p1⟩ := HOT.out.2
        obtain ⟨_, _, _, _, r0, r1, b0, b1⟩ := okF_nums HOT.out.1
        obtain ⟨r, hr⟩ : ∃ r, r = mvR R pl z := ⟨_, rfl⟩
        obtain ⟨bb, hbb⟩ : ∃ bb, bb = mvB B pl z := ⟨_, rfl⟩
        have HAF : Hid (∀ V : World, Calls Try.prog 66 #[.agg #[.int .i64 N, .int .i64 L, .int .i64 R, .int .i64 B, .int .i64 pl], .int .i64 z] V (RetB (.agg #[.int .i64 N, .int .i64 L, .int .i64 r, .int .i64 bb, .int .i64 (1 - pl)]) V)) := hide (fun V => by rw [hr, hbb]; exact after_any N L R B pl z r0 r1 b0 b1 z0 (by omega) p0 p1 V)
        have HVA : Hid (∀ V : World, KnM (lvI up N L game) 2 N L ext bm V → Calls Try.prog 72 #[.agg #[rv, .func (.func 79) #[] #[.pointer (some ⟨pb, 0, none⟩)], .map (some bm)], .agg #[.int .i64 N, .int .i64 L, .int .i64 r, .int .i64 bb, .int .i64 (1 - pl)]] V (RetK bm (KnM (lvI up N L game) 2 N L ext bm) (.int .i64 x) V)) := hide (fun V hk => by rw [hr, hbb, hx]; exact HD.out z V hmem hk)
        obtain ⟨f0, f1, f2, _⟩ := row3 hSr
        obtain ⟨t0, t1, t2, t3, t4, _⟩ := row5 hTr
        have g0 : ∀ p : PB bm (KnM (lvI up N L game) 2 N L ext bm) wr, p.to.cell? ⟨W.heap.size, 0, none⟩ = some rv := fun p => p.cell f0 (by show W.heap.size ≠ bm; omega)
        have g1 : ∀ p : PB bm (KnM (lvI up N L game) 2 N L ext bm) wr, p.to.cell? ⟨W.heap.size, 1, none⟩ = some (.func (.func 79) #[] #[.pointer (some ⟨pb, 0, none⟩)]) := fun p => p.cell f1 (by show W.heap.size ≠ bm; omega)
        have g2 : ∀ p : PB bm (KnM (lvI up N L game) 2 N L ext bm) wr, p.to.cell? ⟨W.heap.size, 2, none⟩ = some (.map (some bm)) := fun p => p.cell f2 (by show W.heap.size ≠ bm; omega)
        have q0 : ∀ p : PB bm (KnM (lvI up N L game) 2 N L ext bm) wr, p.to.cell? ⟨W.heap.size + 1, 0, none⟩ = some (.int .i64 N) := fun p => p.cell t0 (by show W.heap.size + 1 ≠ bm; omega)
        have q1 : ∀ p : PB bm (KnM (lvI up N L game) 2 N L ext bm) wr, p.to.cell? ⟨W.heap.size + 1, 1, none⟩ = some (.int .i64 L) := fun p => p.cell t1 (by show W.heap.size + 1 ≠ bm; omega)
        have q2 : ∀ p : PB bm (KnM (lvI up N L game) 2 N L ext bm) wr, p.to.cell? ⟨W.heap.size + 1, 2, none⟩ = some (.int .i64 R) := fun p => p.cell t2 (by show W.heap.size + 1 ≠ bm; omega)
        have q3 : ∀ p : PB bm (KnM (lvI up N L game) 2 N L ext bm) wr, p.to.cell? ⟨W.heap.size + 1, 3, none⟩ = some (.int .i64 B) := fun p => p.cell t3 (by show W.heap.size + 1 ≠ bm; omega)
        have q4 : ∀ p : PB bm (KnM (lvI up N L game) 2 N L ext bm) wr, p.to.cell? ⟨W.heap.size + 1, 4, none⟩ = some (.int .i64 pl) := fun p => p.cell t4 (by show W.heap.size + 1 ≠ bm; omega)
        have hlj : (bs.take j).length ≤ 8 := by have := List.length_take_le j bs; omega
        have hlj' : ((bs.take j).map intV).length ≤ 8 := by rw [List.length_map]; exact hlj
        clear hO hKr hSr hTr hmem hx hr hbb hbj r0 r1 b0 b1 p0 p1
        go_wp2_with fail
        refine wp_region_pb_float (bm) (KnM (lvI up N L game) 2 N L ext bm) (fun _ _ h k => KnM.keep h k) 6 (.tmp 7) rfl rfl (by kernel_rfl) (by kernel_rfl) (fun _ _ _ _ h => h) ?_
        simp only [Nat.reduceSub, List.take_succ_cons, List.take_zero, List.drop_succ_cons, List.drop_zero]
        repeat (first | fail | go_big_quiet_step ((first | (go_at_call 66; with_reducible exact retB_pb (fun _ _ h k => KnM.keep h k) (HAF.out _)) | (go_at_call 72; with_reducible exact retK_pb (HVA.out _ (PB.inv _ HKR.out))))) | quiet_step ((first | (go_at_call 66; with_reducible exact retB_pb (fun _ _ h k => KnM.keep h k) (HAF.out _)) | (go_at_call 72; with_reducible exact retK_pb (HVA.out _ (PB.inv _ HKR.out))))))
        refine wpQuiet_nil ?_
        rintro _ ⟨pq, rfl⟩
        have hO2 := HO.out.keep (by omega) pq.old
        have HK2 := hide (pq.inv HKR.out)
        have hown2 := hO2.own
        have hsz := hO2.size
        have HO2 := hide hO2
        clear hO2 g0 g1 g2 q0 q1 q2 q3 q4 cz f0 f1 f2 t0 t1 t2 t3 t4
        go_wp2_with (at_builtin; refine wpList_append_own _ rfl _ _ 33 rfl (w1.heap.size) 2 i0 (.int .i64 0) 1 8 Try.underlying33 hi0 hz0 hz1 hz2 rfl (by decide) _ _ _ rfl (hown2.alloc _) ⟨pq.to.heap.size, 0, none⟩ 1 1 [.int .i64 x] rfl rfl (cell_one_new _ _ _) (by simp [Value.oneCell']) (by unfold maxLen; omega) (by omega) (by simp; omega) ?_)
        intro v' w7 hown' hgrow _
        have HO7 := hide (HO2.out.snoc (by simpa using hown') hgrow)
        have HK7 := hide (HK2.out.turn (HO2.out.blockOf (by omega) (by have := HK2.out.lt; exact this) hgrow) (fun p hp => HO2.out.blockOf (by have h1 := (HK1.out.2 p hp).2; exact (Array.getElem?_eq_some_iff.1 h1).1) (Array.getElem?_eq_some_iff.1 (HK2.out.2 p hp).2).1 hgrow))
        clear hown' hgrow hown2
        go_wp2_with fail
        go_roundw
        case rel => exact ⟨j + 1, _, rfl, by omega, by go_num, by rw [hnew.out]; exact HO7.out, HK7.out⟩
        case measure => simp [intOf]; omega
      · obtain rfl : j = n := by omega
        rw [show bs.take j = bs by rw [← HBL.out, List.take_length]] at hO
        obtain ⟨av, cv, rfl⟩ := own_form hO.own
        have hbl2 : bs.length = j := HBL.out
        have HBO : Hid (IntsAt wr av bs) := hide (cellsAt_of_ownsRow hO.own)
        have HBUT := hide ((But.of_below (n := bm) hB1.out).trans (hO.old.but))
        have HRULE : Hid (∀ V : World, KnM (lvI up N L game) 2 N L ext bm V → IntsAt V av bs → Calls Try.prog 79 #[.slice av j cv, .pointer (some ⟨pb, 0, none⟩)] V (RetB (.int .i64 v) V)) := hide (fun V hk ha => by
          have h1 := hrule av cv bs V (fun p hp => (hk.2 p hp).2) ha (by omega) (by rw [HBS.out]; intro y hy; obtain ⟨i, hi, rfl⟩ := List.mem_map.1 hy; rw [HZS.out] at hi; exact left_8 hu (move_of_pts HOT.out.1 hi).1)
          rw [hbl2] at h1
          rw [HV.out, show leftAt up N L game R B pl = up bs by rw [HBS.out, HZS.out]; exact left_step up HOT.out.1]
          exact h1)
        rw [List.length_map, hbl2]
        obtain ⟨f0, f1, f2, _⟩ := row3 hSr
        obtain ⟨t0, t1, t2, t3, t4, _⟩ := row5 hTr
        clear hO hKr hSr hTr
        go_wp2_with fail
        refine (HRULE.out _ HKR.out HBO.out).mono ?_
        rintro e w8 ⟨rfl, hb8⟩
        have hS8 := hide (box_keep HSR.out hb8)
        have hT8 := hide (box_keep HTR.out hb8)
        have HBUT8 := hide (HBUT.out.below hb8)
        have HK8 := hide (HKR.out.keep hb8)
        obtain ⟨D2, hown2, hTD2⟩ := HK8.out.room
        have HTD2 := hide hTD2
        have hmap := hide hown2.isMap
        clear hb8 hTD2 f0 f1 f2 t0 t1 t2 t3 t4
        obtain ⟨f0, f1, f2, _⟩ := row3 hS8.out
        obtain ⟨t0, t1, t2, t3, t4, _⟩ := row5 hT8.out
        have hwf : (Lit.int .i64 v).wf = true := WalkArith.wf_i64 (by omega)
        go_wp2_with (at_mapUpdate; refine wpList_mapUpdate_own _ rfl _ _ _ 86 rfl 64 2 turnKeyed Try.underlying86 (plainElem Try.prog 2) bm 131072 D2 rfl hown2 (by unfold maxLen; omega) _ _ kl rfl rfl HKL.out (.lit (Lit.int .i64 v)) [] (plainElem_int Try.underlying2 hwf) ?_; intro w9 hown9 hgrow9)
        have HFIN : Hid (RetK bm (KnM (lvI up N L game) 2 N L ext bm) (.int .i64 v) W (.returned (.int .i64 v)) w9) := hide ⟨rfl, HBUT8.out.trans (But.of_grown hgrow9), HK8.out.put' hown9 (by have := HTD2.out.put hmap.out HOT.out HKL.out; rw [show (lvI up N L game) R B pl = Lit.int .i64 v by (rw [HV.out]; first | done | rfl)] at this; exact this) (But.of_grown hgrow9)⟩
        clear hown9 hgrow9 f0 f1 f2 t0 t1 t2 t3 t4 hown2
        go_wp2_with fail
        go_ret
        exact HFIN.out
  · have HH := hide hh
    clear hh
    go_enter Try.func72, Try.ntmps72
    go_wp2_with (at_lookup; rw [← hW0]; clear hW0; refine wpList_lookup_own_ok_int _ rfl _ _ 86 rfl 64 2 .i64 turnKeyed Try.underlying86 Try.underlying2 (zeroI _) bm 131072 D rfl hown _ kl rfl HKL.out ?_; intro cc hat hwc; rw [HH.out])
    have hcc : Hid (cc = v) := hide (by
      have h1 := HTD.out.vals R B pl kl HOT.out HKL.out HH.out (.lit (.int .i64 0))
      rw [hat] at h1
      rw [HV.out]
      simpa [lvI, leftAt] using h1)
    have hfin := hide (And.intro (But.of_below (n := bm) hB0.out) HK0.out)
    clear hat hwc hown f0 f1 f2 t0 t1 t2 t3 t4
    go_ret
    exact ⟨(by (rw [hcc.out]; first | done | rfl)), hfin.out⟩

/-- The values of all turns of a field. -/
theorem valueI_any (up : List Int → Int) (N L game : Int) (ext : List (Nat × Obj)) (hu : UpOk up) (pb : Nat) (hrule : RuleI up pb ext) (hg : 0 ≤ game ∧ game ≤ 1) (bm : Nat) : ∀ (k : Nat) (R B pl : Int) (W : World), okT N L R B pl → freeN N R B = k → KnM (lvI up N L game) 2 N L ext bm W → Calls Try.prog 72 #[.agg #[ruleV game, .func (.func 79) #[] #[.pointer (some ⟨pb, 0, none⟩)], .map (some bm)], .agg #[.int .i64 N, .int .i64 L, .int .i64 R, .int .i64 B, .int .i64 pl]] W (RetK bm (KnM (lvI up N L game) 2 N L ext bm) (.int .i64 (leftAt up N L game R B pl)) W) := by
  intro k
  induction k with
  | zero =>
    intro R B pl W hok hk hK
    refine valueI_walk up N L game ext hu pb hrule hg bm R B pl hok W hK (fun i V hi _ => ?_)
    rw [pts_zero hk] at hi
    cases hi
  | succ k ih =>
    intro R B pl W hok hk hK
    refine valueI_walk up N L game ext hu pb hrule hg bm R B pl hok W hK (fun i V hi hv => ?_)
    obtain ⟨h1, _, h3⟩ := move_of_pts hok.1 hi
    have h2 := hok.2
    exact ih _ _ _ V ⟨h1, by omega, by omega⟩ (by omega) hv
end Go.Proofs.Ytdimmlpnfghndaa
