/-
  Shots: l09Shots, checkShots.
-/
import Derived.Test.YtkekanllfpdeaabHs
import Derived.Deep.DeepCutAuto
namespace Go.Proofs.Ytkekanllfpdeaab
open Go.RowKit
set_option linter.unusedVariables false

def okA : List (Int × Int) → Bool
  | [] => true
  | p :: t => inn p.2 0 2 && okA t
def codS (wd hi : Int) (cs : List Int) (ps : List (Int × Int)) : Int := if seaB wd hi cs = true then (if okA ps = true then (if difF (wd * hi) (ps.map Prod.fst) 0 = true then 0 else 2) else 2) else 1

theorem row2 {w : World} {b : Nat} {x y : Value} {t : TypeId} (h : w.heap[b]? = some (.cells #[x, y] t (0, 0))) : w.cell? ⟨b, 0, none⟩ = some x ∧ w.cell? ⟨b, 1, none⟩ = some y := by simp [World.cell?, h]

set_option maxRecDepth 100000 in
set_option maxHeartbeats 4000000 in
theorem checkShots_any (wd hi : Int) (a : Option Addr) (c : Nat) (cs : List Int) (ax : Option Addr) (cx : Nat) (ps : List (Int × Int)) (W : World) (ha : IntsAt W a cs) (hl : cs.length ≤ 1048576) (hx : ShotsAt W ax ps) (hxl : ps.length ≤ 1048576) :
    Calls Try.prog 69 #[.agg #[.int .i64 wd, .int .i64 hi, .slice a cs.length c], .slice ax ps.length cx] W (RetB (.int .i64 (codS wd hi cs ps)) W) := by
  obtain ⟨W0, hW0⟩ : ∃ W0, W0 = W.alloc (.cells #[.int .i64 wd, .int .i64 hi, .slice a cs.length c] 29) := ⟨_, rfl⟩
  have hB0 : Hid (Below W.heap.size W W0) := by rw [hW0]; exact hide (below_alloc _ _)
  have hX0 : Hid (SeaIn W0 W.heap.size wd hi a cs.length c) := by rw [hW0]; exact hide (seaIn_new _ _ _ _ _ _ _)
  have HA := hide (ha.keep hB0.out)
  have HX := hide (hx.keep hB0.out)
  obtain ⟨c0, c1, c2⟩ := hX0.out
  clear ha hx
  cases hs : seaB wd hi cs
  · have hK : codS wd hi cs ps = 1 := by simp [codS, hs]
    rw [hK]
    have HS := hide hs
    clear hK hs
    go_enter Try.func69, Try.ntmps69
    go_wp2_with fail
    rw [← hW0]
    clear hW0
    (try go_wp2_with fail)
    refine (implIsSea_is HS.out HA.out hl).mono ?_
    rintro e w1 ⟨rfl, hb1⟩
    have hB1 := hide (Below.trans' hB0.out hb1)
    clear hb1 c0 c1 c2
    go_wp2_with fail
    go_ret
    exact ⟨rfl, hB1.out⟩
  · obtain ⟨q1, q25⟩ := sea_q hs
    have HS := hide hs
    obtain ⟨K, hK⟩ : ∃ K, K = codS wd hi cs ps := ⟨_, rfl⟩
    rw [← hK]
    have HK : Hid (K = if okA ps = true then (if difF (wd * hi) (ps.map Prod.fst) 0 = true then 0 else 2) else 2) := hide (by rw [hK]; unfold codS; rw [if_pos hs])
    have HD := hide (fun V ax cx xs hx hl => areCells_any wd hi a cs.length c ax cx xs V q1 q25 hx hl)
    obtain ⟨A, hA⟩ : ∃ A, A = ps.map Prod.fst := ⟨_, rfl⟩
    have HAL : Hid (A.length = ps.length) := hide (by rw [hA, List.length_map])
    have HAA := hide hA
    have hmk := run_make_row' (P := Try.prog) 22 2 (.int .i64 0) 8 Try.underlying22 Try.info2 rfl .i64 .i64 ps.length (by omega) (by omega)
    clear hK hs q1 q25 hA
    go_enter Try.func69, Try.ntmps69
    go_wp2_with fail
    rw [← hW0]
    clear hW0
    (try go_wp2_with fail)
    refine (implIsSea_is HS.out HA.out hl).mono ?_
    rintro e w2 ⟨rfl, hb2⟩
    have hB2 := hide (Below.trans' hB0.out hb2)
    have hX2 := hide (hX0.out.keep hb2)
    have HX2 := hide (HX.out.keep hb2)
    have h0 := World.rowIs_made w2 (.int .i64 0) ps.length 2
    clear hb2 c0 c1 c2
    go_wp2_with fail
    go_loopw [16] (fun v16 wr => ∃ (i : Nat), v16 = .int .i64 i ∧ i ≤ ps.length ∧ Hid (okA ps = okA (ps.drop i)) ∧ Hid (wr.rowIs w2.heap.size 2 ps.length (copied A i)) ∧ Below w2.heap.size w2 wr) (fun v16 _ => ps.length - (intOf v16).toNat)
    case atStart => exact ⟨0, rfl, Nat.zero_le _, hide rfl, hide (h0.congr (fun i _ => by simp [copied])), (Below.refl _ _).alloc (Nat.le_refl _) _⟩
    case round =>
      clear h0
      obtain ⟨i, rfl, hi2, hQ, hr, hB⟩ := hrel
      have HX4 := hide (HX2.out.keep hB)
      have hX4 := hide (hX2.out.keep hB)
      have hB4 := hide (Below.trans' hB2.out hB)
      have HB := hide hB
      clear hB
      by_cases hlt : i < ps.length
      · obtain ⟨b1, o1, x, y, rfl, ex, ey, hg⟩ := HX4.out.one hlt
        have hdr : Hid (ps.drop i = (x, y) :: ps.drop (i + 1)) := hide (drop_of_get hg.out)
        have HAI : Hid (A[i]? = some x) := hide (by rw [HAA.out, List.getElem?_map, hg.out]; rfl)
        obtain ⟨wb, hwb⟩ : ∃ wb, wb = wr.alloc (.cells #[.int .i64 x, .int .i64 y] 96) := ⟨_, rfl⟩
        have hbb : Hid (Below wr.heap.size wr wb) := by rw [hwb]; exact hide (below_alloc _ _)
        have hbx : Hid (wb.heap[wr.heap.size]? = some (.cells #[.int .i64 x, .int .i64 y] 96 (0, 0))) := by rw [hwb]; exact hide (heap_alloc_new _ _)
        have HRB := hide (hr.out.of_block (hbb.out.block _ hr.out.lt))
        have HBB : Hid (Below w2.heap.size w2 wb) := hide (Below.trans' HB.out hbb.out)
        have hB5 := hide (Below.trans' hB4.out hbb.out)
        obtain ⟨t0, t1⟩ := row2 hbx.out
        by_cases hy0 : y < 0
        · have hfin : Hid (K = 2) := hide (by
            have hin : inn y 0 2 = false := by simp [inn]; omega
            have h1 : okA ps = false := by rw [hQ.out, hdr.out]; unfold okA; rw [hin]; rfl
            rw [HK.out, h1]; rfl)
          have hd : decide (y < 0) = true := decide_eq_true hy0
          clear hr
          go_upto_region 7 with fail
          rw [← hwb]
          clear hwb ex ey
          go_wp2_with fail
          go_ret
          exact ⟨ret_int hfin.out.symm, hB5.out⟩
        · have hd : decide (y < 0) = false := decide_eq_false hy0
          by_cases hy2 : y > 2
          · have hfin : Hid (K = 2) := hide (by
              have hin : inn y 0 2 = false := by simp [inn]; omega
              have h1 : okA ps = false := by rw [hQ.out, hdr.out]; unfold okA; rw [hin]; rfl
              rw [HK.out, h1]; rfl)
            have hd2 : decide (y > 2) = true := decide_eq_true hy2
            clear hr
            go_upto_region 7 with fail
            rw [← hwb]
            clear hwb ex ey
            go_wp2_with fail
            go_ret
            exact ⟨ret_int hfin.out.symm, hB5.out⟩
          · have hd2 : decide (y > 2) = false := decide_eq_false hy2
            have HQ2 : Hid (okA ps = okA (ps.drop (i + 1))) := hide (by
              have hin : inn y 0 2 = true := inn_mk (by omega) (by omega)
              rw [hQ.out, hdr.out]; show (inn y 0 2 && _) = _; rw [hin]; rfl)
            have hce := HRB.out.cell hlt
            have hfr := HRB.out.frozen i
            have HR6 := hide (copiedN_set HRB.out HAI.out)
            have HB6 := hide (HBB.out.setCell (p := ⟨w2.heap.size, i, none⟩) (Nat.le_refl _) (.int .i64 x))
            clear hr
            go_upto_region 7 with fail
            rw [← hwb]
            clear hwb ex ey
            go_wp2_with fail
            go_roundw
            case rel => exact ⟨i + 1, by go_num, by omega, HQ2, HR6, HB6.out⟩
            case measure => simp [intOf]; omega
      · obtain rfl : i = ps.length := by omega
        have hok : okA ps = true := by rw [hQ.out, List.drop_length]; rfl
        have HO : Hid (IntsAt wr (some ⟨w2.heap.size, 0, none⟩) A) := hide (by
          have ho := rowIs_owns (vs := A.map intV) hr.out (Nat.le_refl _) (by unfold maxLen; omega) (by rw [List.length_map]; exact HAL.out) (fun j hj => by
            rw [List.getElem?_map, List.getElem?_eq_getElem (show j < A.length by rw [HAL.out]; exact hj)]
            simp [copied, hj, intV, List.getElem?_eq_getElem (show j < A.length by rw [HAL.out]; exact hj)])
          rw [← HAL.out] at ho
          exact intsAt_of_ownsRow ho)
        have HCD := hide (HD.out wr (some ⟨w2.heap.size, 0, none⟩) ps.length A HO.out (by rw [HAL.out]; omega))
        rw [HAL.out] at HCD
        obtain ⟨d0, d1, d2⟩ := hX4.out
        have HKK : Hid (K = if difF (wd * hi) A 0 = true then 0 else 2) := hide (by rw [HK.out, hok, HAA.out]; rfl)
        obtain ⟨D, hD⟩ : ∃ D, D = difF (wd * hi) A 0 := ⟨_, rfl⟩
        rw [← hD] at HCD HKK
        clear hQ hr hok hD
        cases D
        · obtain rfl : K = 2 := HKK.out
          go_wp2_with fail
          with_reducible refine HCD.out.mono ?_
          rintro e w5 ⟨rfl, hb5⟩
          have hB5 := hide (Below.trans' hB4.out hb5)
          clear hb5 d0 d1 d2
          go_wp2_with fail
          go_ret
          exact ⟨rfl, hB5.out⟩
        · obtain rfl : K = 0 := HKK.out
          go_wp2_with fail
          with_reducible refine HCD.out.mono ?_
          rintro e w5 ⟨rfl, hb5⟩
          have hB5 := hide (Below.trans' hB4.out hb5)
          clear hb5 d0 d1 d2
          go_wp2_with fail
          go_ret
          exact ⟨rfl, hB5.out⟩
end Go.Proofs.Ytkekanllfpdeaab
