/-
  The best nodes: bestNodes, BestNodes: the program's text.
-/
import Derived.Test.YtkekanllfpdeaaaDoorNo
import Derived.Test.YtkekanllfpdeaaaDoorBl
namespace Go.Proofs.YtkekanllfpdeaaaDoor
open Go.RowKit Go.Maps
set_option linter.unusedVariables false

/-- A list of the call's own, where block n has turned. -/
def NewLK (n : Nat) (I : World → Prop) (zs : List Int) (w : World) (e : Ending) (w' : World) : Prop :=
  ∃ a c, e = .returned (.slice a zs.length c) ∧ w'.ownsRow w.heap.size 2 1 (.slice a zs.length c) zs.length (zs.map intV) ∧ But n w w' ∧ I w'
def bL (n : Int) (cs : List Int) (F S : Int) : List Int := if (endR n cs F S).isSome = true then [] else bestL n cs F S
theorem bestL_le {n : Int} {cs : List Int} {F S : Int} : (bestL n cs F S).length ≤ n.toNat := Nat.le_trans (List.length_filter_le _ _) (freeN_le n F S)

set_option maxRecDepth 100000 in
set_option maxHeartbeats 4000000 in
theorem bestNodes_any (n : Int) (a : Option Addr) (c : Nat) (cs : List Int) (hok : okB n cs = true) (bm : Nat) (F S : Int) (hst : St n F S) (W : World) (hK : KnS (lvR n cs) n a cs bm W) :
    Calls Tryd.prog 74 #[svR n a cs.length c bm, .agg #[.int .i64 F, .int .i64 S]] W (NewLK bm (KnS (lvR n cs) n a cs bm) (bL n cs F S) W) := by
  obtain ⟨i0, hi0, hz0, hz1, hz2⟩ := info_parts Tryd.info2
  obtain ⟨f0, f1, s0, s1⟩ := hst.lt
  have hl : cs.length ≤ 1048576 := by have := (okB_parts hok).2.1; omega
  obtain ⟨W0, hW0⟩ : ∃ W0, W0 = (W.alloc (.cells #[.int .i64 n, .slice a cs.length c, .func (.func 127) #[] #[], .map (some bm)] 88)).alloc (.cells #[.int .i64 F, .int .i64 S] 92) := ⟨_, rfl⟩
  have hB0 : Hid (Below W.heap.size W W0) := by rw [hW0]; exact hide ((below_alloc _ _).alloc (by simp) _)
  have hS0 : Hid (W0.heap[W.heap.size]? = some (.cells #[.int .i64 n, .slice a cs.length c, .func (.func 127) #[] #[], .map (some bm)] 88 (0, 0))) := by rw [hW0]; exact hide (row_alloc (alloc_row _ _ _) _)
  have hT0 : Hid (W0.heap[W.heap.size + 1]? = some (.cells #[.int .i64 F, .int .i64 S] 92 (0, 0))) := by rw [hW0]; exact hide (alloc_row2 _ _ _ _)
  have hz : Hid (W0.heap.size = W.heap.size + 2) := by rw [hW0]; exact hide (by simp)
  have hbm : bm < W.heap.size := hK.lt
  have HK0 := hide (hK.keep hB0.out)
  have HST := hide hst
  have HEN : Hid (∀ V : World, KnS (lvR n cs) n a cs bm V → Calls Tryd.prog 127 #[.agg #[.int .i64 F, .int .i64 S], .agg #[.int .i64 n, .slice a cs.length c]] V (RetB (endV (endR n cs F S) 0) V)) := hide (fun V hk => endRace_any n a c cs F S hok f0 (by omega) s0 (by omega) V hk.ints hl)
  obtain ⟨g0, g1, g2, g3, _⟩ := row4 hS0.out
  obtain ⟨t0, t1', _⟩ := row2' hT0.out
  obtain ⟨bl, hbl⟩ : ∃ bl, bl = bL n cs F S := ⟨_, rfl⟩
  have HBL := hide hbl
  rw [← hbl]
  have HSV := hide (show svR n a cs.length c bm = .agg #[.int .i64 n, .slice a cs.length c, .func (.func 127) #[] #[], .map (some bm)] from rfl)
  rw [HSV.out]
  clear hK hbl
  cases he : endR n cs F S with
  | some r =>
    have HEV : Hid (bl = []) := hide (by rw [HBL.out]; unfold bL; rw [he]; rfl)
    rw [he] at HEN
    simp only [endV, Option.getD_some, Option.isSome_some] at HEN
    rw [HEV.out]
    clear he hst
    go_enter Tryd.func74, Tryd.ntmps74
    go_wp2_with fail
    rw [← hW0]
    clear hW0
    (try go_wp2_with fail)
    refine (HEN.out _ HK0.out).mono ?_
    rintro e w1 ⟨rfl, hb1⟩
    have HK1 := hide (HK0.out.keep hb1)
    have hB1 := hide (Below.trans' hB0.out hb1)
    clear hb1
    go_wp2_with fail
    go_ret
    exact ⟨none, 0, rfl, World.ownsRow_nil _ _ _ _, But.of_below hB1.out, HK1.out⟩
  | none =>
    have hn9 := hst.nn.2
    have hfl9 := freeN_le n F S
    obtain ⟨v, hv⟩ : ∃ v, v = lvR n cs F S := ⟨_, rfl⟩
    obtain ⟨q, hq⟩ : ∃ q : Int → Bool, q = fun p => lvR n cs (mF F S p) (mS F S p) == v := ⟨_, rfl⟩
    have HQ : Hid (∀ p, q p = (lvR n cs (mF F S p) (mS F S p) == v)) := hide (fun p => by rw [hq])
    have HEV : Hid (bl = (frees n F S).filter q) := hide (by rw [HBL.out, hq, hv]; unfold bL; rw [he]; rfl)
    rw [he] at HEN
    simp only [endV, Option.getD_none, Option.isSome_none] at HEN
    have HFO : Hid (∀ V : World, TzTab V → Calls Tryd.prog 129 #[.agg #[.int .i64 F, .int .i64 S], .agg #[.int .i64 n, .slice a cs.length c]] V (NewL (frees n F S) V)) := hide (fun V hv => freeOn_any n a cs.length c F S HST.out V hv)
    have HV0 : Hid (∀ V : World, KnS (lvR n cs) n a cs bm V → Calls Tryd.prog 68 #[.agg #[.int .i64 n, .slice a cs.length c, .func (.func 127) #[] #[], .map (some bm)], .agg #[.int .i64 F, .int .i64 S]] V (RetK bm (KnS (lvR n cs) n a cs bm) (.int .i64 v) V)) := hide (fun V hk => by rw [hv]; exact valueR_any n a c cs hok bm _ F S V HST.out rfl hk)
    have HVC : Hid (∀ (p : Int) (V : World), p ∈ frees n F S → KnS (lvR n cs) n a cs bm V → Calls Tryd.prog 68 #[.agg #[.int .i64 n, .slice a cs.length c, .func (.func 127) #[] #[], .map (some bm)], .agg #[.int .i64 (mF F S p), .int .i64 (mS F S p)]] V (RetK bm (KnS (lvR n cs) n a cs bm) (.int .i64 (lvR n cs (mF F S p) (mS F S p))) V)) := hide (fun p V hp hk => valueR_any n a c cs hok bm _ _ _ V (HST.out.move hp).1 rfl hk)
    clear he hst hq hv
    go_enter Tryd.func74, Tryd.ntmps74
    go_wp2_with fail
    rw [← hW0]
    clear hW0
    (try go_wp2_with fail)
    refine (HEN.out _ HK0.out).mono ?_
    rintro e w1 ⟨rfl, hb1⟩
    have HK1 := hide (HK0.out.keep hb1)
    have hB1 := hide (Below.trans' hB0.out hb1)
    have hS1 := hide (box_keep hS0.out hb1)
    have hT1 := hide (box_keep hT0.out hb1)
    have hs1 : W.heap.size + 2 ≤ w1.heap.size := by have := hb1.size; have := hz.out; omega
    clear hb1 g0 g1 g2 g3 t0 t1'
    obtain ⟨g0, g1, g2, g3, _⟩ := row4 hS1.out
    obtain ⟨t0, t1', _⟩ := row2' hT1.out
    go_wp2_with fail
    refine (HFO.out _ HK1.out.tab).mono ?_
    rintro e w2 ⟨a2, c2, rfl, ho2, hb2⟩
    obtain ⟨zs, hzs⟩ : ∃ zs, zs = frees n F S := ⟨_, rfl⟩
    rw [← hzs] at ho2 ⊢
    have HZS := hide hzs
    have HI2 := hide (intsAt_of_ownsRow ho2)
    have HFAR : Hid (∀ g off, a2 = some ⟨g, off, none⟩ → g < w2.heap.size ∧ g ≠ bm) := hide (fun g off e => by
      have h1 := ho2.lt g (by rw [e]; rfl)
      omega)
    have hzl : zs.length ≤ 9 := by rw [hzs]; show freeN n F S ≤ 9; omega
    have HK2 := hide (HK1.out.keep hb2)
    have hB2 := hide (Below.trans' hB1.out hb2)
    have hS2 := hide (box_keep hS1.out hb2)
    have hT2 := hide (box_keep hT1.out hb2)
    have hs2 : W.heap.size + 2 ≤ w2.heap.size := by have := hb2.size; omega
    have HALT : Hid (cs ≠ [] → ∀ g off, a = some ⟨g, off, none⟩ → g < w2.heap.size) := hide (fun hne g off e => by
      obtain ⟨b, o, hb, hlt⟩ := CellsAt.lt HK2.out.ints (by simpa using hne)
      rw [hb] at e
      simp only [Option.some.injEq, Addr.mk.injEq] at e
      omega)
    have HEV2 : Hid (bl = zs.filter q) := hide (by rw [HEV.out, hzs])
    obtain ⟨m, hm⟩ : ∃ m, m = zs.length := ⟨_, rfl⟩
    have HM := hide hm
    rw [← hm] at hzl ⊢
    have hO2 : Hid (OwnB w2.heap.size bm w2 w2 (.slice none 0 0) ((zs.take 0).filter q)) := hide (OwnB.nil (ButB.refl _ _ _) (Nat.le_refl _))
    clear ho2 hb2 hzs hm hfl9 g0 g1 g2 g3 t0 t1'
    go_wp2_with fail
    go_loopw [7, 25] (fun v7 i wr => ∃ (j : Nat) (v0 : Value), v0 = v7 ∧ j ≤ m ∧ i = .int .i64 j ∧ OwnB w2.heap.size bm w2 wr v7 ((zs.take j).filter q) ∧ KnS (lvR n cs) n a cs bm wr) (fun _ i _ => m - (intOf i).toNat)
    case atStart => exact ⟨0, _, rfl, Nat.zero_le _, rfl, hO2.out, HK2.out⟩
    case round =>
      clear hO2
      obtain ⟨j, v7, rfl, hj, rfl, hO, hKr⟩ := hrel
      have HO := hide hO
      have HKR := hide hKr
      have hSr := hO.old.row hS2.out (by omega) (by omega)
      have hTr := hO.old.row hT2.out (by omega) (by omega)
      by_cases hlt : j < m
      · obtain ⟨b, off, z, rfl, cz, hz⟩ := (hO.old.ints HI2.out HFAR.out).one (k := j) (by rw [← HM.out]; exact hlt)
        have hmem : z ∈ frees n F S := by rw [← HZS.out]; exact mem_of_get hz.out
        obtain ⟨z0, z1, z2⟩ := frees_mem hmem
        obtain ⟨x, hx⟩ : ∃ x, x = lvR n cs (mF F S z) (mS F S z) := ⟨_, rfl⟩
        obtain ⟨r, hr⟩ : ∃ r, r = mF F S z := ⟨_, rfl⟩
        obtain ⟨bb, hbb⟩ : ∃ bb, bb = mS F S z := ⟨_, rfl⟩
        have HQZ : Hid (q z = (x == v)) := hide (by rw [HQ.out, hx])
        have HWI : Hid (∀ V : World, Calls Tryd.prog 76 #[.agg #[.int .i64 F, .int .i64 S], .int .i64 z] V (RetB (.agg #[.int .i64 r, .int .i64 bb]) V)) := hide (fun V => by rw [hr, hbb]; exact with_any F S z f0 (by omega) s0 (by omega) z0 (by omega) V)
        have HVA : Hid (∀ V : World, KnS (lvR n cs) n a cs bm V → Calls Tryd.prog 68 #[.agg #[.int .i64 n, .slice a cs.length c, .func (.func 127) #[] #[], .map (some bm)], .agg #[.int .i64 r, .int .i64 bb]] V (RetK bm (KnS (lvR n cs) n a cs bm) (.int .i64 x) V)) := hide (fun V hk => by rw [hr, hbb, hx]; exact HVC.out z V hmem hk)
        obtain ⟨g0, g1, g2, g3, _⟩ := row4 hSr
        obtain ⟨t0, t1', _⟩ := row2' hTr
        have q0 : ∀ p : PB bm (KnS (lvR n cs) n a cs bm) wr, p.to.cell? ⟨W.heap.size, 0, none⟩ = some (.int .i64 n) := fun p => p.cell g0 (by show W.heap.size ≠ bm; omega)
        have q1 : ∀ p : PB bm (KnS (lvR n cs) n a cs bm) wr, p.to.cell? ⟨W.heap.size, 1, none⟩ = some (.slice a cs.length c) := fun p => p.cell g1 (by show W.heap.size ≠ bm; omega)
        have q2 : ∀ p : PB bm (KnS (lvR n cs) n a cs bm) wr, p.to.cell? ⟨W.heap.size, 2, none⟩ = some (.func (.func 127) #[] #[]) := fun p => p.cell g2 (by show W.heap.size ≠ bm; omega)
        have q3 : ∀ p : PB bm (KnS (lvR n cs) n a cs bm) wr, p.to.cell? ⟨W.heap.size, 3, none⟩ = some (.map (some bm)) := fun p => p.cell g3 (by show W.heap.size ≠ bm; omega)
        have q4 : ∀ p : PB bm (KnS (lvR n cs) n a cs bm) wr, p.to.cell? ⟨W.heap.size + 1, 0, none⟩ = some (.int .i64 F) := fun p => p.cell t0 (by show W.heap.size + 1 ≠ bm; omega)
        have q5 : ∀ p : PB bm (KnS (lvR n cs) n a cs bm) wr, p.to.cell? ⟨W.heap.size + 1, 1, none⟩ = some (.int .i64 S) := fun p => p.cell t1' (by show W.heap.size + 1 ≠ bm; omega)
        have hlj : ((zs.take j).filter q).length ≤ 9 := by
          have h1 := List.length_filter_le q (zs.take j)
          have h2 := List.length_take_le j zs
          omega
        clear hO hKr hSr hTr hmem hx hr hbb z0 z1 z2
        cases hxv : (x == v)
        · have HN := hide (take_no (q := q) hz.out (by rw [HQZ.out]; exact hxv))
          clear hz
          go_wp2_with fail
          refine wp_region_pb (bm) (KnS (lvR n cs) n a cs bm) (fun _ _ h k => KnS.keep h k) (by kernel_rfl) (by kernel_rfl) ?_
          repeat (first | fail | go_big_quiet_step ((first | (go_at_call 76; with_reducible exact retB_pb (fun _ _ h k => KnS.keep h k) (HWI.out _)) | (go_at_call 68; with_reducible exact retK_pb (HVA.out _ (PB.inv _ HKR.out))) | (go_at_call 68; with_reducible exact retK_pb (HV0.out _ (PB.inv _ HKR.out))))) | quiet_step ((first | (go_at_call 76; with_reducible exact retB_pb (fun _ _ h k => KnS.keep h k) (HWI.out _)) | (go_at_call 68; with_reducible exact retK_pb (HVA.out _ (PB.inv _ HKR.out))) | (go_at_call 68; with_reducible exact retK_pb (HV0.out _ (PB.inv _ HKR.out))))))
          refine wpQuiet_nil ?_
          rintro _ ⟨pq, rfl⟩
          have HO3 := hide (HO.out.keep (by omega) pq.old)
          have HK3 := hide (pq.inv HKR.out)
          clear q0 q1 q2 q3 q4 q5 cz g0 g1 g2 g3 t0 t1'
          go_wp2_with fail
          go_roundw
          case rel => exact ⟨j + 1, _, rfl, by omega, by go_num, by rw [HN.out]; exact HO3.out, HK3.out⟩
          case measure => simp [intOf]; omega
        · have HY := hide (take_yes (q := q) hz.out (by rw [HQZ.out]; exact hxv))
          clear hz
          go_wp2_with fail
          refine wp_region_pb (bm) (KnS (lvR n cs) n a cs bm) (fun _ _ h k => KnS.keep h k) (by kernel_rfl) (by kernel_rfl) ?_
          repeat (first | fail | go_big_quiet_step ((first | (go_at_call 76; with_reducible exact retB_pb (fun _ _ h k => KnS.keep h k) (HWI.out _)) | (go_at_call 68; with_reducible exact retK_pb (HVA.out _ (PB.inv _ HKR.out))) | (go_at_call 68; with_reducible exact retK_pb (HV0.out _ (PB.inv _ HKR.out))))) | quiet_step ((first | (go_at_call 76; with_reducible exact retB_pb (fun _ _ h k => KnS.keep h k) (HWI.out _)) | (go_at_call 68; with_reducible exact retK_pb (HVA.out _ (PB.inv _ HKR.out))) | (go_at_call 68; with_reducible exact retK_pb (HV0.out _ (PB.inv _ HKR.out))))))
          refine wpQuiet_nil ?_
          rintro _ ⟨pq, rfl⟩
          have hO3 := HO.out.keep (by omega) pq.old
          have HK3 := hide (pq.inv HKR.out)
          have hown3 := hO3.own
          have hsz := hO3.size
          have HO3 := hide hO3
          clear hO3 q0 q1 q2 q3 q4 q5 cz g0 g1 g2 g3 t0 t1'
          go_wp2_with (at_builtin; refine wpList_append_own _ rfl _ _ 22 rfl (w2.heap.size) 2 i0 (.int .i64 0) 1 8 Tryd.underlying22 hi0 hz0 hz1 hz2 rfl (by decide) _ _ _ rfl (hown3.alloc _) ⟨pq.to.heap.size, 0, none⟩ 1 1 [.int .i64 z] rfl rfl (cell_one_new _ _ _) (by simp [Value.oneCell']) (by unfold maxLen; omega) (by omega) (by simp; omega) ?_)
          intro v' w7 hown' hgrow _
          have HO7 := hide (HO3.out.snoc (by simpa using hown') hgrow)
          have HK7 := hide (HK3.out.turn (HO3.out.blockAny (by omega) HK3.out.lt hgrow) (HO3.out.intsOf HK3.out.ints HALT.out hgrow) (HO3.out.blockAny (by have := HK2.out.tab.lt; omega) HK3.out.tab.lt hgrow))
          clear hown' hgrow hown3
          go_wp2_with fail
          go_roundw
          case rel => exact ⟨j + 1, _, rfl, by omega, by go_num, by rw [HY.out]; exact HO7.out, HK7.out⟩
          case measure => simp [intOf]; omega
      · obtain rfl : j = m := by omega
        rw [show zs.take j = zs by rw [HM.out, List.take_length], ← HEV2.out] at hO
        have HFIN : Hid (NewLK bm (KnS (lvR n cs) n a cs bm) bl W (.returned v7) wr) := by
          obtain ⟨av, cv, rfl⟩ := own_form hO.own
          exact hide ⟨av, cv, rfl, ownsRow_base hO.own hB2.out.size, (But.of_below (n := bm) hB2.out).trans hO.old.but, hKr⟩
        clear hO hKr hSr hTr
        go_wp2_with fail
        go_ret
        exact HFIN.out

def bnR (n : Int) (cs : List Int) (F S : Int) : List Int × Int := if codeR n cs F S = 0 then (bestL n cs F S, 0) else ([], codeR n cs F S)
theorem bnR_le {n : Int} {cs : List Int} {F S : Int} : (bnR n cs F S).1.length ≤ 1048576 := by
  unfold bnR
  split
  · rename_i h
    have := bestL_le (n := n) (cs := cs) (F := F) (S := S)
    have h9 := (codeR_zero h).2.2
    show (bestL n cs F S).length ≤ _
    omega
  · simp

set_option maxRecDepth 100000 in
set_option maxHeartbeats 2000000 in
theorem implBn_any (n : Int) (a : Option Addr) (c : Nat) (cs : List Int) (F S : Int) (W : World) (ha : IntsAt W a cs) (hl : cs.length ≤ 1048576) (hT : TzTab W) :
    Calls Tryd.prog 24 #[.agg #[.int .i64 n, .slice a cs.length c], .int .i64 F, .int .i64 S] W (NewList (bnR n cs F S) W) := by
  have HT := hide hT
  clear hT
  obtain ⟨W0, hW0⟩ : ∃ W0, W0 = W.alloc (.cells #[.int .i64 n, .slice a cs.length c] 28) := ⟨_, rfl⟩
  have hB0 : Hid (Below W.heap.size W W0) := by rw [hW0]; exact hide (below_alloc _ _)
  have hX0 : Hid (HexIn W0 W.heap.size n a cs.length c) := by rw [hW0]; exact hide (hexIn_new _ _ _ _ _ _)
  have hA0 := hide (ha.keep hB0.out)
  obtain ⟨c0, c1⟩ := hX0.out
  obtain ⟨r, hr⟩ : ∃ r, r = codeR n cs F S := ⟨_, rfl⟩
  have HC : Hid (Calls Tryd.prog 71 #[.agg #[.int .i64 n, .slice a cs.length c], .int .i64 F, .int .i64 S] W0 (RetB (.int .i64 r) W0)) := hide (by rw [hr]; exact checkRace_any n a c cs F S W0 hA0.out hl)
  by_cases h0 : r = 0
  · obtain ⟨hcs, hen, hn9⟩ := codeR_zero (by rw [← hr]; exact h0)
    have hst := st_of_code hcs hn9
    obtain ⟨hok, _⟩ := codeS_zero hcs
    obtain ⟨bl, hbl⟩ : ∃ bl, bl = bestL n cs F S := ⟨_, rfl⟩
    have HR : Hid (bnR n cs F S = (bl, 0)) := hide (by unfold bnR; rw [← hr, if_pos h0, hbl])
    have HBE : Hid (∀ (bm : Nat) (V : World), KnS (lvR n cs) n a cs bm V → Calls Tryd.prog 74 #[svR n a cs.length c bm, .agg #[.int .i64 F, .int .i64 S]] V (NewLK bm (KnS (lvR n cs) n a cs bm) bl V)) := hide (fun bm V hk => by
      have h := bestNodes_any n a c cs hok bm F S hst V hk
      rw [show bL n cs F S = bl by unfold bL; rw [hen, hbl]; rfl] at h
      exact h)
    rw [HR.out]
    subst h0
    clear hr ha hok hst hbl hcs hen
    go_enter Tryd.func24, Tryd.ntmps24
    go_wp2_with fail
    rw [← hW0]
    clear hW0
    (try go_wp2_with fail)
    refine HC.out.mono ?_
    rintro e w1 ⟨rfl, hb1⟩
    have hB1 := hide (Below.trans' hB0.out hb1)
    have hX1 := hide (hX0.out.keep hb1)
    have hA1 := hide (hA0.out.keep hb1)
    clear hb1 c0 c1
    obtain ⟨c0, c1⟩ := hX1.out
    go_wp2_with fail
    refine (newR_any n a cs.length c _).mono ?_
    rintro e w2 ⟨bm, rfl, hbm, hb2, hk2⟩
    have HK2 := hide (hk2 a (lvR n cs) n cs hA1.out (HT.out.keep hB1.out))
    have hB2 := hide (Below.trans' hB1.out hb2)
    have hWb : W.heap.size ≤ bm := Nat.le_trans hB1.out.size hbm
    clear hb2 hk2 c0 c1
    go_wp2_with fail
    refine (HBE.out _ _ HK2.out).mono ?_
    rintro e w3 ⟨a3, c3, rfl, ho3, hbut3, _⟩
    have HFIN : Hid (NewList (bl, 0) W (.returned (.tuple #[.slice a3 bl.length c3, .int .i64 0])) w3) := hide ⟨a3, c3, rfl, ownsRow_base ho3 hB2.out.size, below_but hB2.out hbut3 hWb⟩
    clear ho3 hbut3
    go_wp2_with fail
    go_ret2
    exact HFIN.out
  · have HR : Hid (bnR n cs F S = ([], r)) := hide (by unfold bnR; rw [← hr, if_neg h0])
    rw [HR.out]
    have e0 : (r != 0) = true := by simp [h0]
    clear hr ha h0
    go_enter Tryd.func24, Tryd.ntmps24
    go_wp2_with fail
    rw [← hW0]
    clear hW0
    (try go_wp2_with fail)
    refine HC.out.mono ?_
    rintro e w1 ⟨rfl, hb1⟩
    have hB1 := hide (Below.trans' hB0.out hb1)
    clear hb1
    go_wp2_with fail
    go_ret2
    exact newList_nil hB1.out
end Go.Proofs.YtkekanllfpdeaaaDoor
