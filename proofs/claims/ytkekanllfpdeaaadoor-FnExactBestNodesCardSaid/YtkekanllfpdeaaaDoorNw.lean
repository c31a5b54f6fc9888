/-
  Values of states beside the map that keeps them, the program's text (race).
-/
import Derived.Test.YtkekanllfpdeaaaDoorNb
import Derived.Test.YtkekanllfpdeaaaDoorNm
import Derived.Test.YtkekanllfpdeaaaDoorMx
import Derived.Test.YtkekanllfpdeaaaDoorPm
import Derived.Test.YtkekanllfpdeaaaDoorNv
namespace Go.Proofs.YtkekanllfpdeaaaDoor
open Go.RowKit Go.Maps
set_option linter.unusedVariables false


/-- The search. -/
def svR (n : Int) (a : Option Addr) (K c bm : Nat) : Value := .agg #[.int .i64 n, .slice a K c, .func (.func 127) #[] #[], .map (some bm)]
def lvR (n : Int) (cs : List Int) (F S : Int) : Int := val (endR n cs) n F S
/-- What value does for the states behind the moves of a state. -/
def DeepR (n : Int) (a : Option Addr) (c : Nat) (cs : List Int) (bm : Nat) (F S : Int) : Prop :=
  ∀ (p : Int) (V : World), p ∈ frees n F S → KnS (lvR n cs) n a cs bm V → Calls Tryd.prog 68 #[svR n a cs.length c bm, .agg #[.int .i64 (mF F S p), .int .i64 (mS F S p)]] V (RetK bm (KnS (lvR n cs) n a cs bm) (.int .i64 (lvR n cs (mF F S p) (mS F S p))) V)
theorem lvR_range (n : Int) (cs : List Int) (F S : Int) : -1 ≤ lvR n cs F S ∧ lvR n cs F S ≤ 1 := val_range (endR_small n cs) n F S
theorem endR_free {n : Int} {cs : List Int} {F S : Int} (h : St n F S) (hE : endR n cs F S = none) : freeN n F S ≠ 0 := by
  intro e
  have := (free_of_zero h).1 e
  unfold endR at hE
  cases h1 : fil cs F <;> cases h2 : fil cs S <;> simp_all

set_option maxRecDepth 100000 in
set_option maxHeartbeats 4000000 in
theorem findR_any (n : Int) (a : Option Addr) (c : Nat) (cs : List Int) (hok : okB n cs = true) (bm : Nat) (F S : Int) (hst : St n F S) (W : World) (hK : KnS (lvR n cs) n a cs bm W) (hD : DeepR n a c cs bm F S) :
    Calls Tryd.prog 123 #[svR n a cs.length c bm, .agg #[.int .i64 F, .int .i64 S]] W (RetK bm (KnS (lvR n cs) n a cs bm) (.int .i64 (lvR n cs F S)) W) := by
  obtain ⟨i0, hi0, hz0, hz1, hz2⟩ := info_parts Tryd.info2
  obtain ⟨f0, f1, s0, s1⟩ := hst.lt
  have hl : cs.length ≤ 1048576 := by have := (okB_parts hok).2.1; omega
  obtain ⟨W0, hW0⟩ : ∃ W0, W0 = (W.alloc (.cells #[.int .i64 n, .slice a cs.length c, .func (.func 127) #[] #[], .map (some bm)] 88)).alloc (.cells #[.int .i64 F, .int .i64 S] 92) := ⟨_, rfl⟩
  have hB0 : Hid (Below W.heap.size W W0) := by rw [hW0]; exact hide ((below_alloc _ _).alloc (by simp) _)
  have hS0 : Hid (W0.heap[W.heap.size]? = some (.cells #[.int .i64 n, .slice a cs.length c, .func (.func 127) #[] #[], .map (some bm)] 88 (0, 0))) := by rw [hW0]; exact hide (row_alloc (alloc_row _ _ _) _)
  have hT0 : Hid (W0.heap[W.heap.size + 1]? = some (.cells #[.int .i64 F, .int .i64 S] 92 (0, 0))) := by rw [hW0]; exact hide (alloc_row2 _ _ _ _)
  have hz : Hid (W0.heap.size = W.heap.size + 2) := by rw [hW0]; exact hide (by simp)
  have hbm : bm < W.heap.size := hK.lt
  have HK0 := hide (hK.keep hB0.out)
  have HST := hide hst
  have HD := hide hD
  obtain ⟨v, hv⟩ : ∃ v, v = lvR n cs F S := ⟨_, rfl⟩
  rw [← hv]
  have HV := hide hv
  have HEN : Hid (∀ V : World, KnS (lvR n cs) n a cs bm V → Calls Tryd.prog 127 #[.agg #[.int .i64 F, .int .i64 S], .agg #[.int .i64 n, .slice a cs.length c]] V (RetB (endV (endR n cs F S) (0)) V)) := hide (fun V hk => endRace_any n a c cs F S hok f0 (by omega) s0 (by omega) V hk.ints hl)
  obtain ⟨g0, g1, g2, g3, _⟩ := row4 hS0.out
  obtain ⟨t0, t1', _⟩ := row2' hT0.out
  have HSV := hide (show svR n a cs.length c bm = .agg #[.int .i64 n, .slice a cs.length c, .func (.func 127) #[] #[], .map (some bm)] from rfl)
  rw [HSV.out]
  clear hK hD hv
  cases he : endR n cs F S with
  | some r =>
    have HEV : Hid (v = r) := hide (by rw [HV.out]; exact val_end he)
    rw [he] at HEN
    simp only [endV, Option.getD_some, Option.isSome_some] at HEN
    clear he hst
    go_enter Tryd.func123, Tryd.ntmps123
    go_wp2_with fail
    rw [← hW0]
    clear hW0
    (try go_wp2_with fail)
    refine (HEN.out _ HK0.out).mono ?_
    rintro e w1 ⟨rfl, hb1⟩
    have HK1 := hide (HK0.out.keep hb1)
    have hB1 := hide (Below.trans' hB0.out hb1)
    clear hb1
    go_wp2_with fail
    go_ret
    exact ⟨by rw [HEV.out]; rfl, But.of_below hB1.out, HK1.out⟩
  | none =>
    have hfr := endR_free hst he
    obtain ⟨bs, hbs⟩ : ∃ bs, bs = kids (endR n cs) n F S := ⟨_, rfl⟩
    have HBS := hide hbs
    have HVP : Hid (v = pick (t1 F S) bs) := hide (by rw [HV.out, hbs]; exact val_step hst he)
    have HNE : Hid (0 < bs.length) := hide (by rw [hbs]; unfold kids; rw [List.length_map]; show 0 < freeN n F S; omega)
    rw [he] at HEN
    simp only [endV, Option.getD_none, Option.isSome_none] at HEN
    have HFO : Hid (∀ V : World, TzTab V → Calls Tryd.prog 129 #[.agg #[.int .i64 F, .int .i64 S], .agg #[.int .i64 n, .slice a cs.length c]] V (NewL (frees n F S) V)) := hide (fun V hv => freeOn_any n a cs.length c F S HST.out V hv)
    have HTU : Hid (∀ V : World, Calls Tryd.prog 72 #[.agg #[.int .i64 F, .int .i64 S]] V (RetB (.bool (t1 F S)) V)) := hide (fun V => isTurn_any F S f0 (by omega) s0 (by omega) V)
    have hn9 := hst.nn.2
    have hfl9 := freeN_le n F S
    clear he hfr hst hbs
    go_enter Tryd.func123, Tryd.ntmps123
    go_wp2_with fail
    rw [← hW0]
    clear hW0
    (try go_wp2_with fail)
    refine (HEN.out _ HK0.out).mono ?_
    rintro e w1 ⟨rfl, hb1⟩
    have HK1 := hide (HK0.out.keep hb1)
    have hB1 := hide (Below.trans' hB0.out hb1)
    have hS1 := hide (box_keep hS0.out hb1)
    have hT1 := hide (box_keep hT0.out hb1)
    have hs1 : W.heap.size + 2 ≤ w1.heap.size := by have := hb1.size; have := hz.out; omega
    clear hb1 g0 g1 g2 g3 t0 t1'
    obtain ⟨g0, g1, g2, g3, _⟩ := row4 hS1.out
    obtain ⟨t0, t1', _⟩ := row2' hT1.out
    go_wp2_with fail
    refine (HFO.out _ HK1.out.tab).mono ?_
    rintro e w2 ⟨a2, c2, rfl, ho2, hb2⟩
    obtain ⟨zs, hzs⟩ : ∃ zs, zs = frees n F S := ⟨_, rfl⟩
    rw [← hzs] at ho2 ⊢
    have HZS := hide hzs
    have HBM : Hid (bs = zs.map fun p => lvR n cs (mF F S p) (mS F S p)) := hide (by rw [HBS.out, hzs]; rfl)
    have HI2 := hide (intsAt_of_ownsRow ho2)
    have HFAR : Hid (∀ g off, a2 = some ⟨g, off, none⟩ → g < w2.heap.size ∧ g ≠ bm) := hide (fun g off e => by
      have h1 := ho2.lt g (by rw [e]; rfl)
      omega)
    have hzl : zs.length ≤ 9 := by rw [hzs]; show freeN n F S ≤ 9; omega
    have HK2 := hide (HK1.out.keep hb2)
    have hB2 := hide (Below.trans' hB1.out hb2)
    have hS2 := hide (box_keep hS1.out hb2)
    have hT2 := hide (box_keep hT1.out hb2)
    have hs2 : W.heap.size + 2 ≤ w2.heap.size := by have := hb2.size; omega
    have HALT : Hid (cs ≠ [] → ∀ g off, a = some ⟨g, off, none⟩ → g < w2.heap.size) := hide (fun hne g off e => by
      obtain ⟨b, o, hb, hlt⟩ := CellsAt.lt HK2.out.ints (by simpa using hne)
      rw [hb] at e
      simp only [Option.some.injEq, Addr.mk.injEq] at e
      omega)
    obtain ⟨m, hm⟩ : ∃ m, m = zs.length := ⟨_, rfl⟩
    have HM := hide hm
    have HBL : Hid (bs.length = m) := hide (by rw [HBM.out, hm]; simp)
    rw [← hm] at hzl ⊢
    have hO2 : Hid (OwnB w2.heap.size bm w2 w2 (.slice none 0 0) (bs.take 0)) := hide (OwnB.nil (ButB.refl _ _ _) (Nat.le_refl _))
    clear ho2 hb2 hzs hm hfl9 g0 g1 g2 g3 t0 t1'
    go_wp2_with fail
    go_loopw [7, 26] (fun v7 i wr => ∃ (j : Nat) (v0 : Value), v0 = v7 ∧ j ≤ m ∧ i = .int .i64 j ∧ OwnB w2.heap.size bm w2 wr v7 (bs.take j) ∧ KnS (lvR n cs) n a cs bm wr) (fun _ i _ => m - (intOf i).toNat)
    case atStart => exact ⟨0, _, rfl, Nat.zero_le _, rfl, hO2.out, HK2.out⟩
    case round =>
      clear hO2
      obtain ⟨j, v7, rfl, hj, rfl, hO, hKr⟩ := hrel
      have HO := hide hO
      have HKR := hide hKr
      have hSr := hO.old.row hS2.out (by omega) (by omega)
      have hTr := hO.old.row hT2.out (by omega) (by omega)
      have HSR := hide hSr
      have HTR := hide hTr
      by_cases hlt : j < m
      · obtain ⟨b, off, z, rfl, cz, hz⟩ := (hO.old.ints HI2.out HFAR.out).one (k := j) (by rw [← HM.out]; exact hlt)
        have hmem : z ∈ frees n F S := by rw [← HZS.out]; exact mem_of_get hz.out
        obtain ⟨z0, z1, z2⟩ := frees_mem hmem
        have hbj : Hid (bs[j]? = some (lvR n cs (mF F S z) (mS F S z))) := hide (by rw [HBM.out, List.getElem?_map, hz.out]; rfl)
        obtain ⟨x, hx⟩ : ∃ x, x = lvR n cs (mF F S z) (mS F S z) := ⟨_, rfl⟩
        have hnew : Hid (bs.take (j + 1) = bs.take j ++ [x]) := hide (by rw [List.take_add_one, hbj.out, ← hx]; rfl)
        obtain ⟨r, hr⟩ : ∃ r, r = mF F S z := ⟨_, rfl⟩
        obtain ⟨bb, hbb⟩ : ∃ bb, bb = mS F S z := ⟨_, rfl⟩
        have HWI : Hid (∀ V : World, Calls Tryd.prog 76 #[.agg #[.int .i64 F, .int .i64 S], .int .i64 z] V (RetB (.agg #[.int .i64 r, .int .i64 bb]) V)) := hide (fun V => by rw [hr, hbb]; exact with_any F S z f0 (by omega) s0 (by omega) z0 (by omega) V)
        have HVA : Hid (∀ V : World, KnS (lvR n cs) n a cs bm V → Calls Tryd.prog 68 #[.agg #[.int .i64 n, .slice a cs.length c, .func (.func 127) #[] #[], .map (some bm)], .agg #[.int .i64 r, .int .i64 bb]] V (RetK bm (KnS (lvR n cs) n a cs bm) (.int .i64 x) V)) := hide (fun V hk => by rw [hr, hbb, hx]; exact HD.out z V hmem hk)
        obtain ⟨g0, g1, g2, g3, _⟩ := row4 hSr
        obtain ⟨t0, t1', _⟩ := row2' hTr
        have q0 : ∀ p : PB bm (KnS (lvR n cs) n a cs bm) wr, p.to.cell? ⟨W.heap.size, 0, none⟩ = some (.int .i64 n) := fun p => p.cell g0 (by show W.heap.size ≠ bm; omega)
        have q1 : ∀ p : PB bm (KnS (lvR n cs) n a cs bm) wr, p.to.cell? ⟨W.heap.size, 1, none⟩ = some (.slice a cs.length c) := fun p => p.cell g1 (by show W.heap.size ≠ bm; omega)
        have q2 : ∀ p : PB bm (KnS (lvR n cs) n a cs bm) wr, p.to.cell? ⟨W.heap.size, 2, none⟩ = some (.func (.func 127) #[] #[]) := fun p => p.cell g2 (by show W.heap.size ≠ bm; omega)
        have q3 : ∀ p : PB bm (KnS (lvR n cs) n a cs bm) wr, p.to.cell? ⟨W.heap.size, 3, none⟩ = some (.map (some bm)) := fun p => p.cell g3 (by show W.heap.size ≠ bm; omega)
        have q4 : ∀ p : PB bm (KnS (lvR n cs) n a cs bm) wr, p.to.cell? ⟨W.heap.size + 1, 0, none⟩ = some (.int .i64 F) := fun p => p.cell t0 (by show W.heap.size + 1 ≠ bm; omega)
        have q5 : ∀ p : PB bm (KnS (lvR n cs) n a cs bm) wr, p.to.cell? ⟨W.heap.size + 1, 1, none⟩ = some (.int .i64 S) := fun p => p.cell t1' (by show W.heap.size + 1 ≠ bm; omega)
        have hlj : (bs.take j).length ≤ 9 := by have := List.length_take_le j bs; omega
        clear hO hKr hSr hTr hmem hx hr hbb hbj z0 z1 z2
        go_wp2_with fail
        refine wp_region_pb_float (bm) (KnS (lvR n cs) n a cs bm) (fun _ _ h k => KnS.keep h k) 6 (.tmp 7) rfl rfl (by kernel_rfl) (by kernel_rfl) (fun _ _ _ _ h => h) ?_
        simp only [Nat.reduceSub, List.take_succ_cons, List.take_zero, List.drop_succ_cons, List.drop_zero]
        repeat (first | fail | go_big_quiet_step ((first | (go_at_call 76; with_reducible exact retB_pb (fun _ _ h k => KnS.keep h k) (HWI.out _)) | (go_at_call 68; with_reducible exact retK_pb (HVA.out _ (PB.inv _ HKR.out))))) | quiet_step ((first | (go_at_call 76; with_reducible exact retB_pb (fun _ _ h k => KnS.keep h k) (HWI.out _)) | (go_at_call 68; with_reducible exact retK_pb (HVA.out _ (PB.inv _ HKR.out))))))
        refine wpQuiet_nil ?_
        rintro _ ⟨pq, rfl⟩
        have hO3 := HO.out.keep (by omega) pq.old
        have HK3 := hide (pq.inv HKR.out)
        have hown3 := hO3.own
        have hsz := hO3.size
        have HO3 := hide hO3
        clear hO3 q0 q1 q2 q3 q4 q5 cz g0 g1 g2 g3 t0 t1'
        go_wp2_with (at_builtin; refine wpList_append_own _ rfl _ _ 22 rfl (w2.heap.size) 2 i0 (.int .i64 0) 1 8 Tryd.underlying22 hi0 hz0 hz1 hz2 rfl (by decide) _ _ _ rfl (hown3.alloc _) ⟨pq.to.heap.size, 0, none⟩ 1 1 [.int .i64 x] rfl rfl (cell_one_new _ _ _) (by simp [Value.oneCell']) (by unfold maxLen; omega) (by omega) (by simp; omega) ?_)
        intro v' w7 hown' hgrow _
        have HO7 := hide (HO3.out.snoc (by simpa using hown') hgrow)
        have HK7 := hide (HK3.out.turn (HO3.out.blockAny (by omega) HK3.out.lt hgrow) (HO3.out.intsOf HK3.out.ints HALT.out hgrow) (HO3.out.blockAny (by have := HK2.out.tab.lt; omega) HK3.out.tab.lt hgrow))
        clear hown' hgrow hown3
        go_wp2_with fail
        go_roundw
        case rel => exact ⟨j + 1, _, rfl, by omega, by go_num, by rw [hnew.out]; exact HO7.out, HK7.out⟩
        case measure => simp [intOf]; omega
      · obtain rfl : j = m := by omega
        rw [show bs.take j = bs by rw [← HBL.out, List.take_length]] at hO
        obtain ⟨av, cv, rfl⟩ := own_form hO.own
        have hbl2 : bs.length = j := HBL.out
        have HBO : Hid (IntsAt wr av bs) := hide (intsAt_of_ownsRow hO.own)
        have HBUT := hide ((But.of_below (n := bm) hB2.out).trans hO.old.but)
        obtain ⟨g0, g1, g2, g3, _⟩ := row4 hSr
        obtain ⟨t0, t1', _⟩ := row2' hTr
        have HMX : Hid (∀ V : World, IntsAt V av bs → Calls Tryd.prog 167 #[.slice av j cv] V (RetB (.int .i64 (mxL bs)) V)) := hide (fun V hi => by have h := max_any av cv bs V hi HNE.out (by omega); rw [hbl2] at h; exact h)
        have HMN : Hid (∀ V : World, IntsAt V av bs → Calls Tryd.prog 168 #[.slice av j cv] V (RetB (.int .i64 (mnL bs)) V)) := hide (fun V hi => by have h := min_any av cv bs V hi HNE.out (by omega); rw [hbl2] at h; exact h)
        rw [hbl2]
        clear hO hKr hSr hTr
        cases htt : t1 F S
        · rw [htt] at HTU HVP
          have HVE : Hid (mnL bs = v) := hide (by rw [HVP.out]; rfl)
          rw [HVE.out] at HMN
          clear htt
          go_wp2_with fail
          refine (HTU.out _).mono ?_
          rintro e w8 ⟨rfl, hb8⟩
          have HBUT8 := hide (HBUT.out.below hb8)
          have HK8 := hide (HKR.out.keep hb8)
          have HBO8 := hide (HBO.out.keep hb8)
          clear hb8 g0 g1 g2 g3 t0 t1'
          go_wp2_with fail
          refine (HMN.out _ HBO8.out).mono ?_
          rintro e w9 ⟨rfl, hb9⟩
          have HBUT9 := hide (HBUT8.out.below hb9)
          have HK9 := hide (HK8.out.keep hb9)
          clear hb9
          go_wp2_with fail
          go_ret
          exact ⟨rfl, HBUT9.out, HK9.out⟩
        · rw [htt] at HTU HVP
          have HVE : Hid (mxL bs = v) := hide (by rw [HVP.out]; rfl)
          rw [HVE.out] at HMX
          clear htt
          go_wp2_with fail
          refine (HTU.out _).mono ?_
          rintro e w8 ⟨rfl, hb8⟩
          have HBUT8 := hide (HBUT.out.below hb8)
          have HK8 := hide (HKR.out.keep hb8)
          have HBO8 := hide (HBO.out.keep hb8)
          clear hb8 g0 g1 g2 g3 t0 t1'
          go_wp2_with fail
          refine (HMX.out _ HBO8.out).mono ?_
          rintro e w9 ⟨rfl, hb9⟩
          have HBUT9 := hide (HBUT8.out.below hb9)
          have HK9 := hide (HK8.out.keep hb9)
          clear hb9
          go_wp2_with fail
          go_ret
          exact ⟨rfl, HBUT9.out, HK9.out⟩

set_option maxRecDepth 100000 in
set_option maxHeartbeats 4000000 in
theorem valueOfR_any (n : Int) (a : Option Addr) (c : Nat) (cs : List Int) (bm : Nat) (F S : Int) (hst : St n F S) (W : World) (hK : KnS (lvR n cs) n a cs bm W) (sv : Value)
    (hF : ∀ V : World, KnS (lvR n cs) n a cs bm V → Calls Tryd.prog 123 #[sv, .agg #[.int .i64 F, .int .i64 S]] V (RetK bm (KnS (lvR n cs) n a cs bm) (.int .i64 (lvR n cs F S)) V)) :
    Calls Tryd.prog 122 #[.map (some bm), .agg #[.int .i64 F, .int .i64 S], .func (.func 123) #[sv] #[]] W (RetK bm (KnS (lvR n cs) n a cs bm) (.int .i64 (lvR n cs F S)) W) := by
  obtain ⟨W0, hW0⟩ : ∃ W0, W0 = W.alloc (.cells #[.int .i64 F, .int .i64 S] 92) := ⟨_, rfl⟩
  have hB0 : Hid (Below W.heap.size W W0) := by rw [hW0]; exact hide (below_alloc _ _)
  have hT0 : Hid (W0.heap[W.heap.size]? = some (.cells #[.int .i64 F, .int .i64 S] 92 (0, 0))) := by rw [hW0]; exact hide (alloc_row _ _ _)
  have hbm : bm < W.heap.size := hK.lt
  have HK0 := hide (hK.keep hB0.out)
  have HST := hide hst
  obtain ⟨kl, hkl⟩ := hst.key
  have HKL := hide hkl
  have hvr := lvR_range n cs F S
  obtain ⟨v, hv⟩ : ∃ v, v = lvR n cs F S := ⟨_, rfl⟩
  rw [← hv] at hF hvr ⊢
  have HV := hide hv
  have HF := hide hF
  have hwf : (Lit.int .i64 v).wf = true := WalkArith.wf_i64 (by omega)
  obtain ⟨t0, t1', _⟩ := row2' hT0.out
  obtain ⟨D, hown, hTD⟩ := HK0.out.room
  have HTD := hide hTD
  clear hK hF hkl hv hst hTD
  cases hh : has D kl
  · have HH := hide hh
    clear hh
    go_enter Tryd.func122, Tryd.ntmps122
    go_wp2_with (at_lookup; rw [← hW0]; clear hW0; refine wpList_lookup_own_ok_int _ rfl _ _ 86 rfl 92 2 .i64 ntKeyed Tryd.underlying86 Tryd.underlying2 (zeroI _) bm 262144 D rfl hown _ kl rfl HKL.out ?_; intro cc hat hwc; rw [HH.out])
    clear hat hwc hown
    refine (HF.out _ HK0.out).mono ?_
    rintro e w1 ⟨rfl, hbut1, hk1⟩
    have HBUT1 := hide ((But.of_below (n := bm) hB0.out).trans hbut1)
    have HK1 := hide hk1
    have hT1 := hide (hbut1.row hT0.out (by omega))
    clear hbut1 hk1 t0 t1'
    obtain ⟨t0, t1', _⟩ := row2' hT1.out
    obtain ⟨D2, hown2, hTD2⟩ := HK1.out.room
    have HTD2 := hide hTD2
    have hmap := hide hown2.isMap
    clear hTD2
    go_wp2_with (at_mapUpdate; refine wpList_mapUpdate_own _ rfl _ _ _ 86 rfl 92 2 ntKeyed Tryd.underlying86 (plainElem Tryd.prog 2) bm 262144 D2 rfl hown2 (by unfold maxLen; omega) _ _ kl rfl rfl HKL.out (.lit (Lit.int .i64 v)) [] (plainElem_int Tryd.underlying2 hwf) ?_; intro w9 hown9 hgrow9)
    have HFIN : Hid (RetK bm (KnS (lvR n cs) n a cs bm) (.int .i64 v) W (.returned (.int .i64 v)) w9) := hide ⟨rfl, HBUT1.out.trans (But.of_grown hgrow9), HK1.out.put' hown9 (by have := HTD2.out.put hmap.out HST.out HKL.out; rw [← HV.out] at this; exact this) (But.of_grown hgrow9)⟩
    clear hown9 hgrow9 t0 t1' hown2
    go_wp2_with fail
    go_ret
    exact HFIN.out
  · have HH := hide hh
    clear hh
    go_enter Tryd.func122, Tryd.ntmps122
    go_wp2_with (at_lookup; rw [← hW0]; clear hW0; refine wpList_lookup_own_ok_int _ rfl _ _ 86 rfl 92 2 .i64 ntKeyed Tryd.underlying86 Tryd.underlying2 (zeroI _) bm 262144 D rfl hown _ kl rfl HKL.out ?_; intro cc hat hwc; rw [HH.out])
    have hcc : Hid (cc = v) := hide (by
      have h1 := HTD.out.vals F S kl HST.out HKL.out HH.out (.lit (.int .i64 0))
      rw [hat] at h1
      rw [HV.out]
      simpa using h1)
    have hfin := hide (And.intro (But.of_below (n := bm) hB0.out) HK0.out)
    clear hat hwc hown t0 t1'
    go_ret
    exact ⟨(by (rw [hcc.out]; first | done | rfl)), hfin.out⟩

set_option maxRecDepth 100000 in
set_option maxHeartbeats 4000000 in
theorem valueR_walk (n : Int) (a : Option Addr) (c : Nat) (cs : List Int) (hok : okB n cs = true) (bm : Nat) (F S : Int) (hst : St n F S) (W : World) (hK : KnS (lvR n cs) n a cs bm W) (hD : DeepR n a c cs bm F S) :
    Calls Tryd.prog 68 #[svR n a cs.length c bm, .agg #[.int .i64 F, .int .i64 S]] W (RetK bm (KnS (lvR n cs) n a cs bm) (.int .i64 (lvR n cs F S)) W) := by
  obtain ⟨W0, hW0⟩ : ∃ W0, W0 = (W.alloc (.cells #[.int .i64 n, .slice a cs.length c, .func (.func 127) #[] #[], .map (some bm)] 88)).alloc (.cells #[.int .i64 F, .int .i64 S] 92) := ⟨_, rfl⟩
  have hB0 : Hid (Below W.heap.size W W0) := by rw [hW0]; exact hide ((below_alloc _ _).alloc (by simp) _)
  have hS0 : Hid (W0.heap[W.heap.size]? = some (.cells #[.int .i64 n, .slice a cs.length c, .func (.func 127) #[] #[], .map (some bm)] 88 (0, 0))) := by rw [hW0]; exact hide (row_alloc (alloc_row _ _ _) _)
  have hT0 : Hid (W0.heap[W.heap.size + 1]? = some (.cells #[.int .i64 F, .int .i64 S] 92 (0, 0))) := by rw [hW0]; exact hide (alloc_row2 _ _ _ _)
  have HK0 := hide (hK.keep hB0.out)
  have HVO : Hid (∀ V : World, KnS (lvR n cs) n a cs bm V → Calls Tryd.prog 122 #[.map (some bm), .agg #[.int .i64 F, .int .i64 S], .func (.func 123) #[.agg #[.int .i64 n, .slice a cs.length c, .func (.func 127) #[] #[], .map (some bm)]] #[]] V (RetK bm (KnS (lvR n cs) n a cs bm) (.int .i64 (lvR n cs F S)) V)) := hide (fun V hk => valueOfR_any n a c cs bm F S hst V hk _ (fun V2 hk2 => findR_any n a c cs hok bm F S hst V2 hk2 hD))
  obtain ⟨g0, g1, g2, g3, _⟩ := row4 hS0.out
  obtain ⟨t0, t1', _⟩ := row2' hT0.out
  have HSV := hide (show svR n a cs.length c bm = .agg #[.int .i64 n, .slice a cs.length c, .func (.func 127) #[] #[], .map (some bm)] from rfl)
  rw [HSV.out]
  clear hK hD hst hok
  go_enter Tryd.func68, Tryd.ntmps68
  go_wp2_with fail
  rw [← hW0]
  clear hW0
  (try go_wp2_with fail)
  refine (HVO.out _ HK0.out).mono ?_
  rintro e w1 ⟨rfl, hbut1, hk1⟩
  have HFIN := hide (And.intro ((But.of_below (n := bm) hB0.out).trans hbut1) hk1)
  clear hbut1 hk1
  go_wp2_with fail
  go_ret
  exact ⟨rfl, HFIN.out.1, HFIN.out.2⟩

/-- The values of all states. -/
theorem valueR_any (n : Int) (a : Option Addr) (c : Nat) (cs : List Int) (hok : okB n cs = true) (bm : Nat) : ∀ (k : Nat) (F S : Int) (W : World), St n F S → freeN n F S = k → KnS (lvR n cs) n a cs bm W → Calls Tryd.prog 68 #[svR n a cs.length c bm, .agg #[.int .i64 F, .int .i64 S]] W (RetK bm (KnS (lvR n cs) n a cs bm) (.int .i64 (lvR n cs F S)) W) := by
  intro k
  induction k with
  | zero =>
    intro F S W hst hk hK
    refine valueR_walk n a c cs hok bm F S hst W hK (fun p V hp _ => ?_)
    rw [show frees n F S = [] from List.eq_nil_of_length_eq_zero hk] at hp
    cases hp
  | succ k ih =>
    intro F S W hst hk hK
    refine valueR_walk n a c cs hok bm F S hst W hK (fun p V hp hv => ?_)
    obtain ⟨h1, h2, _⟩ := hst.move hp
    exact ih _ _ V h1 (by omega) hv
end Go.Proofs.YtkekanllfpdeaaaDoor
