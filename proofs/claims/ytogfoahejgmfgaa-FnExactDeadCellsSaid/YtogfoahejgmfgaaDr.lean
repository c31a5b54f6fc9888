/-
  Boards of hexagons: dead cells, the model's text, the walk.
-/
import Derived.Test.YtogfoahejgmfgaaDq
namespace Go.Proofs.Ytogfoahejgmfgaa
open Go.RowKit
set_option linter.unusedVariables false

/-- The model's test of the sets up to k. -/
def deadS (n : Int) (cs : List Int) (i k : Nat) : Prop := ∀ s, s < k → s.testBit i = false → jnG n cs s = jnH n cs s i
theorem ddS_yes {n : Int} {cs : List Int} {k : Nat} {z : Int} (h : deadP n cs k) (hz : (empC cs)[k]? = some z) : ddL n cs (k + 1) = ddL n cs k ++ [z] := by
  rw [ddL, if_pos (deadB_yes h)]
  simp [hz]
theorem ddS_no {n : Int} {cs : List Int} {k : Nat} (h : ¬ deadP n cs k) : ddL n cs (k + 1) = ddL n cs k := by
  rw [ddL, if_neg (by rw [deadB_no h]; simp)]
theorem dgS (s k : Nat) (hs : s < 268435456) : bits BinOp.and IntKind.i64 ((s : Int) / 2 ^ k) 1 = if s.testBit k then 1 else 0 := by
  have h := dg_walkL (E := (s : Int)) (k := (k : Int)) (by omega) (by omega)
  rw [dg_nat, Int.toNat_natCast] at h
  exact h

set_option maxRecDepth 100000 in
set_option maxHeartbeats 1000000 in
theorem specDead0_any (n : Int) (a : Option Addr) (c : Nat) (cs : List Int) (hok : okH n cs = false) (W : World) (ha : IntsAt W a cs) (hl : cs.length ≤ 1048576) :
    Calls Try.prog 17 #[.agg #[.int .i64 n, .slice a cs.length c]] W (NewList ([], 1) W) := by
  obtain ⟨W0, hW0⟩ : ∃ W0, W0 = W.alloc (.cells #[.int .i64 n, .slice a cs.length c] 28) := ⟨_, rfl⟩
  have hB0 : Hid (Below W.heap.size W W0) := by rw [hW0]; exact hide (below_alloc _ _)
  have hX0 : Hid (HexIn W0 W.heap.size n a cs.length c) := by rw [hW0]; exact hide (hexIn_new _ _ _ _ _ _)
  have hA0 := hide (ha.keep hB0.out)
  obtain ⟨c0, c1⟩ := hX0.out
  have HIS := hide (specIsX_is (c := c) hok hA0.out hl)
  clear ha hok
  go_enter Try.func17, Try.ntmps17
  go_wp2_with fail
  rw [← hW0]
  clear hW0
  (try go_wp2_with fail)
  refine (HIS.out).mono ?_
  rintro e w1 ⟨rfl, hb1⟩
  have hB1 := hide (Below.trans' hB0.out hb1)
  clear hb1
  go_wp2_with fail
  go_ret2
  exact ⟨none, 0, rfl, World.ownsRow_nil _ _ _ _, hB1.out⟩

set_option maxRecDepth 100000 in
set_option maxHeartbeats 1000000 in
theorem specDead1_any (n : Int) (a : Option Addr) (c : Nat) (cs : List Int) (hok : okH n cs = true) (h9 : ¬ (empC cs).length ≤ 9) (W : World) (ha : IntsAt W a cs) (hl : cs.length ≤ 1048576) :
    Calls Try.prog 17 #[.agg #[.int .i64 n, .slice a cs.length c]] W (NewList ([], 3) W) := by
  obtain ⟨W0, hW0⟩ : ∃ W0, W0 = W.alloc (.cells #[.int .i64 n, .slice a cs.length c] 28) := ⟨_, rfl⟩
  have hB0 : Hid (Below W.heap.size W W0) := by rw [hW0]; exact hide (below_alloc _ _)
  have hX0 : Hid (HexIn W0 W.heap.size n a cs.length c) := by rw [hW0]; exact hide (hexIn_new _ _ _ _ _ _)
  have hA0 := hide (ha.keep hB0.out)
  obtain ⟨c0, c1⟩ := hX0.out
  have HIS := hide (specIsX_is (c := c) hok hA0.out hl)
  have HMV : Hid (∀ V : World, Below W0.heap.size W0 V → Calls Try.prog 52 #[.agg #[.int .i64 n, .slice a cs.length c]] V (RetB (.tuple #[.int .i64 (mvr cs), .int .i64 ((empC cs).length : Int)]) V)) := hide (fun V hV => specMoverN_any n a c cs (okH_yes hok).2.2.2 V (hA0.out.keep hV) hl)
  obtain ⟨m, hm⟩ : ∃ m, m = (empC cs).length := ⟨_, rfl⟩
  rw [← hm] at HMV h9
  have hmL : m ≤ 1048576 := by rw [hm]; exact Nat.le_trans (show (pre (fun c => hexAt cs c == 0) cs.length).length ≤ cs.length from pre_le _ _) hl
  obtain ⟨mv, hmv⟩ : ∃ mv, mv = mvr cs := ⟨_, rfl⟩
  rw [← hmv] at HMV
  clear ha hok hm hmv
  go_enter Try.func17, Try.ntmps17
  go_wp2_with fail
  rw [← hW0]
  clear hW0
  (try go_wp2_with fail)
  refine (HIS.out).mono ?_
  rintro e w1 ⟨rfl, hb1⟩
  have hB1 := hide hb1
  obtain ⟨d0, d1⟩ := hX0.out.keep hb1
  clear hb1 c0 c1
  go_wp2_with fail
  refine (HMV.out _ hB1.out).mono ?_
  rintro e w2 ⟨rfl, hb2⟩
  have hB2 := hide (Below.trans' hB0.out (Below.trans' hB1.out hb2))
  clear hb2 d0 d1
  go_wp2_with fail
  go_ret2
  exact ⟨none, 0, rfl, World.ownsRow_nil _ _ _ _, hB2.out⟩

set_option maxRecDepth 100000 in
set_option maxHeartbeats 8000000 in
theorem specDead2_any (N L b off c : Nat) (cs : List Int) (hLL : cs.length = L) (hok : okH N cs = true) (hN1 : 1 ≤ N) (hN8 : N ≤ 8) (hlen : cs.length = N * N) (hm9 : (empC cs).length ≤ 9) (W : World) (ha : IntsAt W (some ⟨b, off, none⟩) cs) :
    Calls Try.prog 17 #[.agg #[.int .i64 N, .slice (some ⟨b, off, none⟩) L c]] W (NewList (ddL N cs (empC cs).length, 0) W) := by
  obtain ⟨i0, hi0, hz0, hz1, hz2⟩ := info_parts Try.info2
  have hsq := sqN8 hN8
  have hl : cs.length ≤ 1048576 := by omega
  have hL64 : L ≤ 64 := by omega
  obtain ⟨W0, hW0⟩ : ∃ W0, W0 = W.alloc (.cells #[.int .i64 N, .slice (some ⟨b, off, none⟩) L c] 28) := ⟨_, rfl⟩
  have hB0 : Hid (Below W.heap.size W W0) := by rw [hW0]; exact hide (below_alloc _ _)
  have hr0 : Hid (W0.heap[W.heap.size]? = some (.cells #[.int .i64 N, .slice (some ⟨b, off, none⟩) L c] 28 (0, 0))) := by rw [hW0]; exact hide (alloc_row _ _ _)
  obtain ⟨c0, c1, _, _⟩ := row2' hr0.out
  have hA0 := hide (ha.keep hB0.out)
  obtain ⟨m, hm⟩ : ∃ m, m = (empC cs).length := ⟨_, rfl⟩
  have HIS := hide (specIsX_is (c := c) hok hA0.out hl)
  have HMV : Hid (∀ V : World, Below W0.heap.size W0 V → Calls Try.prog 52 #[.agg #[.int .i64 N, .slice (some ⟨b, off, none⟩) L c]] V (RetB (.tuple #[.int .i64 (mvr cs), .int .i64 ((empC cs).length : Int)]) V)) := hide (fun V hV => by
    have h := specMoverN_any (N : Int) (some ⟨b, off, none⟩) c cs (okH_yes hok).2.2.2 V (hA0.out.keep hV) hl
    rw [hLL] at h
    exact h)
  have HEM : Hid (∀ V : World, Below W0.heap.size W0 V → Calls Try.prog 53 #[.agg #[.int .i64 N, .slice (some ⟨b, off, none⟩) L c]] V (EmpPost m (empC cs) V)) := hide (fun V hV => by
    have h := specEmpty_any (N : Int) (some ⟨b, off, none⟩) c m cs hm.symm (by omega) V (hA0.out.keep hV) hl
    rw [hLL] at h
    exact h)
  have HOWN : Hid (∀ V : World, Below W0.heap.size W0 V → Calls Try.prog 54 #[.slice (some ⟨b, off, none⟩) L c] V fun e w' => ∃ g k, e = .returned (.slice (some ⟨g, 0, none⟩) L k) ∧ w'.ownsRow V.heap.size 2 1 (.slice (some ⟨g, 0, none⟩) L k) L (cs.map intV) ∧ Below V.heap.size V w') := hide (fun V hV => ownCells_any b off L c cs V hLL (by omega) (hA0.out.keep hV))
  obtain ⟨es, hes⟩ : ∃ es, es = empC cs := ⟨_, rfl⟩
  have hm9' : m ≤ 9 := by rw [hm]; exact hm9
  obtain ⟨mv, hmv⟩ : ∃ mv, mv = mvr cs := ⟨_, rfl⟩
  rw [hLL] at HIS
  rw [← hm, ← hmv] at HMV
  rw [← hes] at HEM
  rw [← hm]
  have HES := hide hes
  have HM : Hid (m = es.length) := hide (by rw [hes]; exact hm)
  have HLC := hide hLL
  have hin : Hid (∀ e ∈ es, 0 ≤ e ∧ e < cs.length) := hide (by rw [hes]; exact empC_in)
  have hnd : Hid (∀ (i j : Nat) (x : Int), es[i]? = some x → es[j]? = some x → i = j) := hide (by rw [hes]; exact empC_dup cs)
  have HJN : Hid (∀ (g k : Nat) (X : List Int) (V : World), X.length = L → IntsAt V (some ⟨g, 0, none⟩) X → Calls Try.prog 49 #[.int .i64 N, .slice (some ⟨g, 0, none⟩) L k] V (RetB (.int .i64 (jnP N X)) V)) := hide (fun g k X V hX hI => by
    have h := specJoiner_any N g 0 k X hN1 hN8 (by rw [hX, ← hLL, hlen]) V hI
    rw [hX] at h
    exact h)
  obtain ⟨P, hP⟩ : ∃ P, P = 2 ^ m := ⟨_, rfl⟩
  have hP512 : P ≤ 512 := by rw [hP]; exact Nat.le_trans (Nat.pow_le_pow_right (by omega) hm9') (by decide)
  have hsh : wrap64 ((2 : Int) ^ m) = (P : Int) := by
    have hPI : ((2 : Int) ^ m) = (P : Int) := by rw [hP]; push_cast; rfl
    rw [hPI]; unfold wrap64; omega
  have HSH := hide hsh
  have HP := hide hP
  clear ha hlen hsq hm hm9 hP hok hl hes hmv hsh hLL
  go_enter Try.func17, Try.ntmps17
  go_wp2_with fail
  rw [← hW0]
  clear hW0
  (try go_wp2_with fail)
  refine (HIS.out).mono ?_
  rintro e w1 ⟨rfl, hb1⟩
  have hB1 := hide hb1
  have hr1 := hide (box_keep hr0.out hb1)
  clear hb1 c0 c1
  obtain ⟨c0, c1, _, _⟩ := row2' hr1.out
  go_wp2_with fail
  refine (HMV.out _ hB1.out).mono ?_
  rintro e w2 ⟨rfl, hb2⟩
  have hB2 := hide (Below.trans' hB1.out hb2)
  have hr2 := hide (box_keep hr1.out hb2)
  clear hb2 c0 c1
  obtain ⟨c0, c1, _, _⟩ := row2' hr2.out
  go_wp2_with fail
  refine (HEM.out _ hB2.out).mono ?_
  rintro e w3 ⟨ae, ke, v3, rfl, hoe, hb3⟩
  have hE3 := hide (intsAt_of_ownsRow hoe)
  have hB3 := hide (Below.trans' hB2.out hb3)
  have hr3 := hide (box_keep hr2.out hb3)
  clear hb3 c0 c1 hoe
  obtain ⟨w4, hw4⟩ : ∃ w4, w4 = w3.alloc (.cells #[] 2) := ⟨_, rfl⟩
  have hO4 : Hid (Owns w3.heap.size w3 w4 (.slice (some ⟨w3.heap.size, 0, none⟩) 0 0) (ddL N cs 0)) := by
    rw [hw4]
    exact hide ⟨ownsRow_empty (alloc_row _ _ _) (Nat.le_refl _), below_alloc _ _, by simp⟩
  go_wp2_with fail
  rw [← hw4]
  clear hw4
  (try go_wp2_with fail)
  go_loopw [8, 9] (fun v i wr => ∃ (k : Nat) (v0 : Value), v0 = v ∧ k ≤ m ∧ i = .int .i64 k ∧ Hid (Owns w3.heap.size w3 wr v (ddL N cs k))) (fun _ i _ => m - (intOf i).toNat)
  case atStart => exact ⟨0, _, rfl, Nat.zero_le _, rfl, hO4⟩
  case round =>
    clear hO4
    obtain ⟨k, v, rfl, hk, rfl, hO⟩ := hrel
    by_cases hlt : k < m
    · obtain ⟨wo, rfl⟩ : ∃ wo : World, wo = wr := ⟨_, rfl⟩
      have hBo : Hid (Below W0.heap.size W0 wo) := hide (Below.trans' hB3.out hO.out.old)
      have hro := hide (box_keep hr3.out hO.out.old)
      have hEo := hide (hE3.out.keep hO.out.old)
      have hiff : Hid (deadS N cs k P ↔ deadP N cs k) := hide (by
        have h : k < (empC cs).length := by rw [← HES.out, ← HM.out]; exact hlt
        rw [HP.out, HM.out, HES.out]; exact dead_spec h)
      obtain ⟨be, offe, z, rfl, hce, hze⟩ := hEo.out.one (k := k) (by rw [← HM.out]; exact hlt)
      obtain ⟨z0, z1⟩ := hin.out z (mem_of_get hze.out)
      obtain ⟨E, rfl⟩ := Int.eq_ofNat_of_zero_le z0
      have hEL : E < L := by have := HLC.out; omega
      have hcE := hide hce
      clear z0 z1 hce
      go_wp2_with fail
      go_loopw [10, 11] (fun sm i wi => ∃ (s : Nat) (sb : Bool), sm = .bool sb ∧ s ≤ P ∧ i = .int .i64 s ∧ Hid (sb = true → deadS N cs k s) ∧ Hid (sb = false → ¬ deadP N cs k) ∧ Hid (Below wo.heap.size wo wi)) (fun _ i _ => P - (intOf i).toNat)
      case atStart => exact ⟨0, true, rfl, Nat.zero_le _, rfl, hide (fun _ t ht => by omega), hide (fun h => by cases h), hide (Below.refl _ _)⟩
      case round =>
        obtain ⟨s, sb, rfl, hs, rfl, hD1, hD2, hBi⟩ := hrel
        have hri := hide (box_keep hro.out hBi.out)
        obtain ⟨c0, c1, _, _⟩ := row2' hri.out
        have hcei := cell_keep hBi.out hcE.out
        have hEi := hide (hEo.out.keep hBi.out)
        by_cases hsP : s < P
        · cases sb with
          | false =>
            have HN : Hid (ddL N cs (k + 1) = ddL N cs k) := hide (ddS_no (hD2.out rfl))
            have HOi := hide (hO.out.keep hBi.out)
            have hsh := HSH.out
            clear hD1 hD2
            go_wp2_with fail
            go_roundw
            case rel => exact ⟨k + 1, _, rfl, by omega, by go_num, by rw [HN.out]; exact HOi⟩
            case measure => simp [intOf]; omega
          | true =>
            have hs28 : s < 268435456 := by omega
            have HDG := hide (dgS s k hs28)
            cases hbt : s.testBit k
            · have HBT := hide hbt
              rw [hbt] at HDG
              clear hbt
              obtain ⟨wi, rfl⟩ : ∃ wi : World, wi = wr := ⟨_, rfl⟩
              have hBi0 : Hid (Below W0.heap.size W0 wi) := hide (Below.trans' hBo.out hBi.out)
              have hdg := HDG.out
              have hsh := HSH.out
              go_wp2_with fail
              clear hdg hsh
              refine (HOWN.out _ hBi0.out).mono ?_
              rintro e w5 ⟨g, kc, rfl, ho5, hb5⟩
              have hr5 := hide (box_keep hri.out hb5)
              have hX5 := hide (LI.of_owns ho5)
              have hglt := hide (ho5.lt g rfl)
              have hE5 := hide (hEi.out.keep hb5)
              have hF5 : Hid (FillTo cs es (fun t => !s.testBit t) 0 cs) := hide (FillTo.nil rfl (fun _ _ _ => rfl))
              have hce5 := hide (cell_keep hb5 hcei)
              have hBi5 := hide (Below.trans' hBi.out hb5)
              have hbe : Hid (be < wi.heap.size) := hide (by
                obtain ⟨b', o', hab, hcc⟩ := CellsAt.lt hEi.out (by
                  intro e
                  have h2 : (es.map intV).length = 0 := by rw [e]; rfl
                  rw [List.length_map] at h2
                  have := HM.out
                  omega)
                cases hab
                exact hcc)
              have hsz5 := hide hb5.size
              have hne : Hid (¬ W.heap.size = g) := hide (fun h => by have := block_lt hri.out; have := hglt.out.1; omega)
              have hbeg : Hid (¬ be = g) := hide (fun h => by have := hbe.out; have := hglt.out.1; omega)
              have hbe5 : Hid (be < w5.heap.size) := hide (Nat.lt_of_lt_of_le hbe.out hsz5.out)
              have hEF : Hid (∀ V : World, FarB (fun k => k = g) w5 V → IntsAt V (some ⟨be, offe, none⟩) es) := hide (fun V hV hne => by
                obtain ⟨b', o', e', hc⟩ := hE5.out hne
                cases e'
                exact ⟨be, offe, rfl, fun i hi => (World.cell?_of_block (hV.block be hbe5.out hbeg.out)).trans (hc i hi)⟩)
              clear hb5 ho5 c0 c1 hcei
              go_wp2_with fail
              go_loopw [13] (fun i wq => ∃ (j : Nat) (X : List Int), j ≤ m ∧ i = .int .i64 j ∧ Hid (LI g L X wq) ∧ Hid (FillTo cs es (fun t => !s.testBit t) j X) ∧ Hid (FarB (fun k => k = g) w5 wq)) (fun i _ => m - (intOf i).toNat)
              case atStart => exact ⟨0, cs, Nat.zero_le _, rfl, hX5, hF5, hide (FarB.refl _ _)⟩
              case round =>
                clear hX5 hF5
                obtain ⟨j, X, hj, rfl, hX, hF, hFi⟩ := hrel
                have hXl : Hid (X.length = L) := hide (by rw [hF.out.len]; exact HLC.out)
                by_cases hjm : j < m
                · obtain ⟨b2, off2, e, hab, hce2, he⟩ := (hEF.out wr hFi.out).one (k := j) (by rw [← HM.out]; exact hjm)
                  cases hab
                  obtain ⟨e0, e1⟩ := hin.out e (mem_of_get he.out)
                  obtain ⟨E2, rfl⟩ := Int.eq_ofNat_of_zero_le e0
                  have hE2L : E2 < L := by have := HLC.out; omega
                  obtain ⟨_, f1⟩ := hX.out.cell hE2L
                  have HDJ := hide (dgS s j hs28)
                  clear e0 e1
                  cases hbt : s.testBit j
                  · rw [hbt] at HDJ
                    have hX2 := hide (hX.out.set hXl.out hE2L 1)
                    have hF2 := hide (hFi.out.set (m := g) (o := E2) rfl (.int .i64 1))
                    have hFF : Hid (FillTo cs es (fun t => !s.testBit t) (j + 1) (X.set (E2 : Int).toNat 1)) := hide (by
                      have h := hF.out.step he.out hin.out hnd.out
                      rw [show bitI (!s.testBit j) = 1 by rw [hbt]; rfl] at h
                      exact h)
                    clear hbt
                    have hdg := HDJ.out
                    go_wp2_with fail
                    clear hdg
                    go_roundw
                    case rel => exact ⟨j + 1, _, by omega, by go_num, hX2, hFF, hF2⟩
                    case measure => simp [intOf]; omega
                  · rw [hbt] at HDJ
                    have hX2 := hide (hX.out.set hXl.out hE2L 2)
                    have hF2 := hide (hFi.out.set (m := g) (o := E2) rfl (.int .i64 2))
                    have hFF : Hid (FillTo cs es (fun t => !s.testBit t) (j + 1) (X.set (E2 : Int).toNat 2)) := hide (by
                      have h := hF.out.step he.out hin.out hnd.out
                      rw [show bitI (!s.testBit j) = 2 by rw [hbt]; rfl] at h
                      exact h)
                    clear hbt
                    have hdg := HDJ.out
                    go_wp2_with fail
                    clear hdg
                    go_roundw
                    case rel => exact ⟨j + 1, _, by omega, by go_num, hX2, hFF, hF2⟩
                    case measure => simp [intOf]; omega
                · obtain rfl : m = j := by omega
                  have hFm : FillTo cs es (fun t => !s.testBit t) es.length X := by
                    have h := hF.out
                    rw [HM.out] at h
                    exact h
                  have hUP := FillTo.upd hFm hze.out hin.out hnd.out false
                  rw [show bitI false = 2 from rfl] at hUP
                  have hXE : Hid (jnP N X = jnG N cs s) := hide (by
                    rw [HES.out] at hFm
                    show jnP N X = jnP N (fullB cs fun j => !s.testBit j)
                    rw [← fullB_eq hFm])
                  have hXH : Hid (jnP N (X.set (E : Int).toNat 2) = jnH N cs s k) := hide (by
                    rw [HES.out] at hUP
                    show jnP N (X.set (E : Int).toNat 2) = jnP N (fullB cs (updB (fun j => !s.testBit j) k false))
                    rw [← fullB_eq hUP])
                  have HJ1 := hide (HJN.out g kc X wr hXl.out (hX.out.ints hXl.out))
                  obtain ⟨jv, hjv⟩ : ∃ jv, jv = jnP N X := ⟨_, rfl⟩
                  obtain ⟨jv2, hjv2⟩ : ∃ jv, jv = jnP N (X.set (E : Int).toNat 2) := ⟨_, rfl⟩
                  rw [← hjv] at HJ1 hXE
                  rw [← hjv2] at hXH
                  have HJV2 := hide hjv2
                  have hrf := hide (hFi.out.row hr5.out hne.out)
                  obtain ⟨c0, c1, _, _⟩ := row2' hrf.out
                  have hcf := hide ((World.cell?_of_block (hFi.out.block be hbe5.out hbeg.out)).trans hce5.out)
                  clear hFm hUP hjv hjv2 hF
                  go_wp2_with fail
                  refine (HJ1.out).mono ?_
                  rintro e w6 ⟨rfl, hb6⟩
                  have hX6 := hide (hX.out.row (hb6.block g hX.out.lt))
                  obtain ⟨_, f6⟩ := hX6.out.cell hEL
                  have hce6 := cell_keep hb6 hcf.out
                  have hF6 : Hid (FarB (fun k => k = g) w5 w6) := hide (hFi.out.trans (FarB.of_below (S := fun _ => False) hb6) (fun j e _ => e.elim))
                  have hX7 := hide (hX6.out.set hXl.out hEL 2)
                  have hF7 := hide (hF6.out.set (m := g) (o := E) rfl (.int .i64 2))
                  have hXl7 : Hid ((X.set (E : Int).toNat 2).length = L) := hide (by rw [List.length_set]; exact hXl.out)
                  have HJ2 := hide (HJN.out g kc _ _ hXl7.out (hX7.out.ints hXl7.out))
                  rw [← HJV2.out] at HJ2
                  have hrg := hide (hF7.out.row hr5.out hne.out)
                  clear hb6 c0 c1
                  obtain ⟨c0, c1, _, _⟩ := row2' hrg.out
                  go_wp2_with fail
                  refine (HJ2.out).mono ?_
                  rintro e w8 ⟨rfl, hb8⟩
                  have hB8 : Hid (Below wo.heap.size wo w8) := hide (Below.trans' (hBi5.out.trans (hF7.out.below hBi5.out.size (fun k hk => by
                    have h1 := hBi.out.size
                    have h2 := hglt.out.1
                    have h3 : k = g := hk
                    omega))) hb8)
                  clear hb8 c0 c1 hce6
                  by_cases hjj : jv = jv2
                  · have hjd : (jv == jv2) = true := by simp [hjj]
                    have hD3 : Hid (deadS N cs k (s + 1)) := hide (fun t ht hbf => by
                      by_cases e : t = s
                      · subst e; rw [← hXE.out, ← hXH.out]; exact hjj
                      · exact hD1.out (by trivial) t (by omega) hbf)
                    have HJJ := hide hjj
                    clear hjj
                    go_wp2_with fail
                    go_roundw
                    case rel => exact ⟨s + 1, true, rfl, by omega, by go_num, hide (fun _ => hD3.out), hide (fun h => by cases h), hB8⟩
                    case measure => simp [intOf]; omega
                  · have hjd : (jv == jv2) = false := by simp [hjj]
                    have hD3 : Hid (¬ deadP N cs k) := hide (fun h => hjj (by rw [hXE.out, hXH.out]; exact hiff.out.2 h s hsP HBT.out))
                    have HJJ := hide hjj
                    clear hjj
                    go_wp2_with fail
                    go_roundw
                    case rel => exact ⟨s + 1, false, rfl, by omega, by go_num, hide (fun h => by cases h), hide (fun _ => hD3.out), hB8⟩
                    case measure => simp [intOf]; omega
            · have hD3 : Hid (deadS N cs k (s + 1)) := hide (fun t ht hbf => by
                by_cases e : t = s
                · subst e; rw [hbt] at hbf; cases hbf
                · exact hD1.out (by trivial) t (by omega) hbf)
              rw [hbt] at HDG
              clear hbt hD1
              have hdg := HDG.out
              have hsh := HSH.out
              go_wp2_with fail
              clear hdg hsh
              go_roundw
              case rel => exact ⟨s + 1, true, rfl, by omega, by go_num, hide (fun _ => hD3.out), hD2, hBi⟩
              case measure => simp [intOf]; omega
        · obtain rfl : P = s := by omega
          have HOi := hide (hO.out.keep hBi.out)
          have hsh := HSH.out
          cases sb with
          | false =>
            have HN : Hid (ddL N cs (k + 1) = ddL N cs k) := hide (ddS_no (hD2.out rfl))
            clear hD1 hD2
            go_wp2_with fail
            go_roundw
            case rel => exact ⟨k + 1, _, rfl, by omega, by go_num, by rw [HN.out]; exact HOi⟩
            case measure => simp [intOf]; omega
          | true =>
            have HY : Hid (ddL N cs (k + 1) = ddL N cs k ++ [(E : Int)]) := hide (ddS_yes (hiff.out.1 (hD1.out rfl)) (by rw [← HES.out]; exact hze.out))
            have hown := HOi.out.own
            have hsz := HOi.out.size
            have hle := ddL_le (N : Int) cs k
            clear hD1 hD2 hsh
            have hsh := HSH.out
            go_wp2_with (at_builtin; refine wpList_append_own _ rfl _ _ 22 rfl (w3.heap.size) 2 i0 (.int .i64 0) 1 8 Try.underlying22 hi0 hz0 hz1 hz2 rfl (by decide) _ _ _ rfl (hown.alloc _) ⟨wr.heap.size, 0, none⟩ 1 1 [.int .i64 (E : Int)] rfl rfl (cell_one_new _ _ _) (by simp [Value.oneCell']) (by unfold maxLen; omega) (by omega) (by simp; omega) ?_)
            intro v' w5 hown' hgrow _
            have HO5 : Hid (Owns w3.heap.size w3 w5 v' (ddL N cs (k + 1))) := hide (by rw [HY.out]; exact HOi.out.snoc (by simpa using hown') hgrow)
            clear hown' hgrow hown HY
            go_wp2_with fail
            go_roundw
            case rel => exact ⟨k + 1, _, rfl, by omega, by go_num, HO5⟩
            case measure => simp [intOf]; omega
    · obtain rfl : m = k := by omega
      have HL := hide (hO.out.listC (Below.trans' hB0.out hB3.out) (Nat.le_trans hB0.out.size hB3.out.size) 0)
      clear hO
      go_wp2_with fail
      go_ret2
      exact HL.out
end Go.Proofs.Ytogfoahejgmfgaa
