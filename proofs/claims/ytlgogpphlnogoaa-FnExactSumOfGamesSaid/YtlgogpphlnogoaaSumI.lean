/-
  SumOfGames: the program's text against the plain function.
-/
import Derived.Test.YtlgogpphlnogoaaHeapI
namespace Go.Proofs.Ytlgogpphlnogoaa
open Go.RowKit

def rowA (xss : List (List Int)) (i : Nat) : List Int := xss[i]?.getD []
/-- The moves from the place m i + j of a sum. -/
def sumRow (m : Nat) (gi hj : List Int) (i j : Nat) : List Int := (hj.map fun t => (m : Int) * (i : Int) + t) ++ (gi.map fun t => (m : Int) * t + (j : Int))
def sumRows (xss yss : List (List Int)) (k : Nat) : List (List Int) := (List.range k).map fun e => sumRow yss.length (rowA xss (e / yss.length)) (rowA yss (e % yss.length)) (e / yss.length) (e % yss.length)
theorem sumRows_length (xss yss : List (List Int)) (k : Nat) : (sumRows xss yss k).length = k := by simp [sumRows]
theorem sumRows_succ (xss yss : List (List Int)) {i j : Nat} (hj : j < yss.length) : sumRows xss yss (yss.length * i + (j + 1)) = sumRows xss yss (yss.length * i + j) ++ [sumRow yss.length (rowA xss i) (rowA yss j) i j] := by
  have e1 : (yss.length * i + j) / yss.length = i := by
    rw [Nat.mul_add_div (by omega), Nat.div_eq_of_lt hj]
    rfl
  have e2 : (yss.length * i + j) % yss.length = j := by
    rw [Nat.mul_add_mod, Nat.mod_eq_of_lt hj]
  unfold sumRows
  rw [← Nat.add_assoc, List.range_succ, List.map_append]
  simp only [List.map_cons, List.map_nil, e1, e2]
theorem sumRow_len {m : Nat} {gi hj : List Int} {i j : Nat} (h1 : gi.length ≤ 40) (h2 : hj.length ≤ 40) : (sumRow m gi hj i j).length ≤ 80 := by
  simp [sumRow]; omega
theorem rowA_len {xss : List (List Int)} (h : isGameB xss = true) (i : Nat) : (rowA xss i).length ≤ 40 := by
  unfold rowA
  cases hz : xss[i]? with
  | none => simp
  | some zs => simpa using game_row_len h hz
theorem sumRows_flat {xss yss : List (List Int)} (h : isGameB xss = true) (h' : isGameB yss = true) : ∀ k, (sumRows xss yss k).flatten.length ≤ 80 * k
  | 0 => by simp [sumRows]
  | k + 1 => by
    have ih := sumRows_flat h h' k
    have e : sumRows xss yss (k + 1) = sumRows xss yss k ++ [sumRow yss.length (rowA xss (k / yss.length)) (rowA yss (k % yss.length)) (k / yss.length) (k % yss.length)] := by
      unfold sumRows
      rw [List.range_succ, List.map_append]
      rfl
    have h2 := sumRow_len (m := yss.length) (i := k / yss.length) (j := k % yss.length) (rowA_len h (k / yss.length)) (rowA_len h' (k % yss.length))
    rw [e, List.flatten_append, List.length_append]
    simp only [List.flatten_cons, List.flatten_nil, List.append_nil]
    omega
def sumR (xss yss : List (List Int)) : List (List Int) × Int :=
  if isGameB xss && isGameB yss then (if xss.length * yss.length ≤ 40 then (sumRows xss yss (yss.length * xss.length), 0) else ([], 3)) else ([], 1)
theorem mulm {m i : Nat} (hm : m ≤ 40) (hi : i ≤ 40) : (m : Int) * (i : Int) ≤ 1600 ∧ 0 ≤ (m : Int) * (i : Int) := by
  have : m * i ≤ 40 * 40 := Nat.mul_le_mul hm hi
  have e : (m : Int) * (i : Int) = ((m * i : Nat) : Int) := by push_cast; rfl
  rw [e]
  omega

set_option maxRecDepth 100000 in
set_option maxHeartbeats 4000000 in
theorem implSum_any (a b : Option Addr) (c d : Nat) (xss yss : List (List Int)) (w : World) (ha : RowsAt w a xss) (hs : Small xss) (hb : RowsAt w b yss) (ht : Small yss) :
    Calls Try.prog 24 #[.agg #[.slice a xss.length c], .agg #[.slice b yss.length d]] w (NewLeavesC (sumR xss yss) w.heap.size w) := by
  obtain ⟨W0, hW0⟩ : ∃ W0, W0 = ((w.alloc (.cells #[.slice a xss.length c] 29)).alloc (.cells #[.slice b yss.length d] 29)).alloc (.cells #[.slice none 0 0] 29) := ⟨_, rfl⟩
  have hB0 : Below w.heap.size w W0 := by rw [hW0]; exact (((Below.refl _ _).alloc (Nat.le_refl _) _).alloc (by simp) _).alloc (by simp; omega) _
  have hX0 : W0.heap[w.heap.size]? = some (.cells #[.slice a xss.length c] 29 (0, 0)) := by
    rw [hW0, Below.heap_alloc _ _ _ (by simp; omega), Below.heap_alloc _ _ _ (by simp)]
    exact heap_alloc_new w _
  have hY0 : W0.heap[w.heap.size + 1]? = some (.cells #[.slice b yss.length d] 29 (0, 0)) := by
    rw [hW0, Below.heap_alloc _ _ _ (by simp)]
    have := heap_alloc_new (w.alloc (.cells #[.slice a xss.length c] 29)) (.cells #[.slice b yss.length d] 29 (0, 0))
    simpa using this
  have hR0 : W0.heap[w.heap.size + 1 + 1]? = some (.cells #[.slice none 0 0] 29 (0, 0)) := by
    rw [hW0]
    have := heap_alloc_new ((w.alloc (.cells #[.slice a xss.length c] 29)).alloc (.cells #[.slice b yss.length d] 29)) (.cells #[.slice none 0 0] 29 (0, 0))
    simpa using this
  have hcx0 : W0.cell? ⟨w.heap.size, 0, none⟩ = some (.slice a xss.length c) := (cell_of_row W0 w.heap.size 0 _ _ (0, 0) hX0).trans rfl
  have hcy0 : W0.cell? ⟨w.heap.size + 1, 0, none⟩ = some (.slice b yss.length d) := (cell_of_row W0 (w.heap.size + 1) 0 _ _ (0, 0) hY0).trans rfl
  have hno : ∀ (k : Int) w', Below w.heap.size w w' → NewLeavesC ([], k) w.heap.size w (.returned (.tuple #[.agg #[.slice none 0 0], .int .i64 k])) w' := fun k w' h => ⟨none, 0, [], rfl, GameLeaves.nil _ _, h⟩
  have HNO := hide hno
  have hc0l : W0.cell? ⟨w.heap.size + 1 + 1, 0, none⟩ = some (.slice none 0 0) := (cell_of_row W0 (w.heap.size + 1 + 1) 0 _ _ (0, 0) hR0).trans rfl
  have hf0l : W0.frozen? ⟨w.heap.size + 1 + 1, 0, none⟩ = false := frozen_of_row W0 (w.heap.size + 1 + 1) 0 _ _ hR0
  have hsz0 : w.heap.size + 1 + 1 < W0.heap.size := block_lt hR0
  obtain ⟨r, hr⟩ : ∃ r, r = sumR xss yss := ⟨_, rfl⟩
  rw [← hr]
  unfold sumR at hr
  have HX0 := hide hX0
  have HY0 := hide hY0
  have HR0 := hide hR0
  have HRR := hide hr
  clear hno hX0 hY0 hR0 hr
  go_enter Try.func24, Try.ntmps24
  rw [hW0] at hcx0 hcy0
  go_wp2_with fail
  rw [← hW0] at hcx0 hcy0 ⊢
  clear hW0
  refine (implIsGame_any _ _ xss _ (ha.keep hB0) hs).mono ?_
  rintro e w1 ⟨rfl, hB1⟩
  have hBw1 := Below.trans' hB0 hB1
  have hcx1 := cell_keep hB1 hcx0
  have hcy1 := cell_keep hB1 hcy0
  have hc1l := cell_keep hB1 hc0l
  have hf1l : w1.frozen? ⟨w.heap.size + 1 + 1, 0, none⟩ = false := frozen_of_row w1 (w.heap.size + 1 + 1) 0 _ _ ((hB1.block _ hsz0).trans HR0.out)
  clear hcx0 hcy0 hc0l hf0l
  cases hg : isGameB xss
  · have hr := HRR.out
    rw [hg] at hr
    obtain rfl : r = ([], 1) := by simpa using hr
    clear hr hg HRR
    go_wp2_with fail
    exact bodyPost_ret (v := .tuple #[.agg #[.slice none 0 0], .int .i64 1]) (by simp [results, Try.results24, go_sem, hc1l]) rfl (HNO.out _ _ (by first | exact hBw1 | exact (hBw1.setCell (p := ⟨w.heap.size + 1 + 1, 0, none⟩) (by simp; omega) _)))
  · have HG := hide hg
    clear hg
    go_wp2_with fail
    refine (implIsGame_any _ _ yss _ (hb.keep hBw1) ht).mono ?_
    rintro e w2 ⟨rfl, hB2⟩
    have hBw2 := Below.trans' hBw1 hB2
    have hcx2 := cell_keep hB2 hcx1
    have hcy2 := cell_keep hB2 hcy1
    have hc2l := cell_keep hB2 hc1l
    have hR2 := ((Below.trans' hB1 hB2).block _ hsz0).trans HR0.out
    have hf2l : w2.frozen? ⟨w.heap.size + 1 + 1, 0, none⟩ = false := frozen_of_row w2 (w.heap.size + 1 + 1) 0 _ _ hR2
    have HR2 := hide hR2
    clear hcx1 hcy1 hc1l hf1l hR2
    cases hh : isGameB yss
    · have hr := HRR.out
      rw [HG.out, hh] at hr
      obtain rfl : r = ([], 1) := by simpa using hr
      clear hr hh HRR
      go_wp2_with fail
      exact bodyPost_ret (v := .tuple #[.agg #[.slice none 0 0], .int .i64 1]) (by simp [results, Try.results24, go_sem, hc2l]) rfl (HNO.out _ _ (by first | exact hBw2 | exact (hBw2.setCell (p := ⟨w.heap.size + 1 + 1, 0, none⟩) (by simp; omega) _)))
    · have HH := hide hh
      have hnl := game_len HG.out
      have hml := game_len HH.out
      have hpr := mulm hnl.2 hml.2
      have hcast : (xss.length : Int) * (yss.length : Int) = ((xss.length * yss.length : Nat) : Int) := by push_cast; rfl
      clear hh
      by_cases hbig : xss.length * yss.length ≤ 40
      · have hle : (xss.length : Int) * (yss.length : Int) ≤ 40 := by rw [hcast]; omega
        have HCAST := hide hcast
        have HBIG := hide hbig
        obtain rfl : r = (sumRows xss yss (yss.length * xss.length), 0) := by rw [HRR.out, HG.out, HH.out, if_pos (by rfl), if_pos HBIG.out]
        clear HRR
        have hd40 : decide ((40 : Int) < (xss.length : Int) * (yss.length : Int)) = false := decide_eq_false (by omega)
        have hBL : Below w2.heap.size w2 (w2.alloc (.cells #[.slice none 0 0, .slice none 0 0] 70)) := (Below.refl _ _).alloc (Nat.le_refl _) _
        have hcxL := cell_keep hBL hcx2
        have hcyL := cell_keep hBL hcy2
        have hbxL : (w2.alloc (.cells #[.slice none 0 0, .slice none 0 0] 70)).heap[w2.heap.size]? = some (.cells #[.slice none 0 0, .slice none 0 0] 70 (0, 0)) := heap_alloc_new w2 _
        have hRL := (hBL.block _ (block_lt HR2.out)).trans HR2.out
        have hs2 : w.heap.size + 1 + 1 < w2.heap.size := block_lt HR2.out
        have hszL : (w2.alloc (.cells #[.slice none 0 0, .slice none 0 0] 70)).heap.size = w2.heap.size + 1 := by simp
        have hBBL := Below.trans' hBw2 hBL
        have HBX := hide hbxL
        have HRL := hide hRL
        have HSZ := hide hszL
        clear hcast hbig hbxL hRL hszL
        go_wp2_with fail
        obtain ⟨W3, hW3⟩ : ∃ W3, W3 = w2.alloc (.cells #[.slice none 0 0, .slice none 0 0] 70) := ⟨_, rfl⟩
        rw [← hW3] at hBL hcxL hcyL HBX HRL HSZ hBBL ⊢
        have hL0 := hide (Lists.empty (lo := w2.heap.size + 1) HBX.out)
        have hD0 := hide (Below.refl w2.heap.size W3)
        have hsz : w2.heap.size + 1 ≤ W3.heap.size := by rw [HSZ.out]; omega
        have hfl : ∀ k, k ≤ 40 → (sumRows xss yss k).flatten.length ≤ 3200 := by
          intro k hk
          have := sumRows_flat HG.out HH.out k
          omega
        have HFL := hide hfl
        have hrA := hide (rowA_len HG.out)
        have hrB := hide (rowA_len HH.out)
        clear hW3 hcx2 hcy2 hc2l hf2l hfl hBL HBX HSZ hd40 hle hpr
        go_loopw [38] (fun x wr => ∃ i : Nat, i ≤ xss.length ∧ x = .int .i64 i ∧ ListsOf wr (w2.heap.size + 1) w2.heap.size (sumRows xss yss (yss.length * i)) [] ∧ Below w2.heap.size W3 wr) (fun x _ => xss.length - (intOf x).toNat)
        case atStart => exact ⟨0, Nat.zero_le _, rfl, by have := hL0.out; simpa [sumRows] using this, hD0.out⟩
        case round =>
          clear hL0 hD0
          obtain ⟨i, hi, rfl, hLi, hDi⟩ := hrel
          obtain ⟨wo, rfl⟩ : ∃ wo : World, wo = wr := ⟨_, rfl⟩
          by_cases hilt : i < xss.length
          · have hltn : decide (i < xss.length) = true := decide_eq_true hilt
            have hmi := mulm (m := yss.length) (i := i) hml.2 (by omega)
            have hBo := hBBL.trans (hDi.mono (by omega))
            obtain ⟨hmi1, hmi0⟩ := hmi
            obtain ⟨bx, ox, ai, ci, gi, rfl, hcellx0, hzx, hgx⟩ := ha.one hilt
            have hcellx := cell_keep hBo hcellx0
            have hgA : rowA xss i = gi := by unfold rowA; rw [hgx.out]; rfl
            have hgl := game_row_len HG.out hgx.out
            have hgr := hide (game_row HG.out hgx.out)
            have hcxo := (hDi.cell (p := ⟨w.heap.size, 0, none⟩) (by show w.heap.size < w2.heap.size; omega)).trans hcxL
            have hcyo := (hDi.cell (p := ⟨w.heap.size + 1, 0, none⟩) (by show w.heap.size + 1 < w2.heap.size; omega)).trans hcyL
            have HGA := hide hgA
            have hLI := hide hLi
            have hDI := hide hDi
            have hszo : w2.heap.size + 1 ≤ wo.heap.size := Nat.le_trans hsz hDi.size
            clear hgA hLi hDi
            go_wp2_with fail
            go_loopw [46] (fun x wr => ∃ j : Nat, j ≤ yss.length ∧ x = .int .i64 j ∧ ListsOf wr (w2.heap.size + 1) w2.heap.size (sumRows xss yss (yss.length * i + j)) [] ∧ Below w2.heap.size wo wr) (fun x _ => yss.length - (intOf x).toNat)
            case atStart => exact ⟨0, Nat.zero_le _, rfl, hLI.out, Below.refl _ _⟩
            case round =>
              obtain ⟨j, hj, rfl, hLj, hDj⟩ := hrel
              obtain ⟨wp, rfl⟩ : ∃ wp : World, wp = wr := ⟨_, rfl⟩
              by_cases hjlt : j < yss.length
              · have hltm : decide (j < yss.length) = true := decide_eq_true hjlt
                have hBp := hBo.trans (hDj.mono (by omega))
                obtain ⟨by', oy, aj, cj, hjr, rfl, hcelly0, hzy, hgy⟩ := hb.one hjlt
                have hcelly := cell_keep hBp hcelly0
                have hgB : rowA yss j = hjr := by unfold rowA; rw [hgy.out]; rfl
                have hjl := game_row_len HH.out hgy.out
                have hjg := hide (game_row HH.out hgy.out)
                have hkb : yss.length * i + j ≤ 40 := by
                  have h1 := Nat.mul_le_mul_left yss.length (show i + 1 ≤ xss.length by omega)
                  have h2 := HBIG.out
                  rw [Nat.mul_comm] at h2
                  rw [Nat.mul_add, Nat.mul_one] at h1
                  omega
                have hfp := HFL.out _ hkb
                have hcyp := (hDj.cell (p := ⟨w.heap.size + 1, 0, none⟩) (by show w.heap.size + 1 < w2.heap.size; omega)).trans hcyo
                have hSU := hide (sumRows_succ xss yss (i := i) hjlt)
                have HGB := hide hgB
                have hszp : w2.heap.size + 1 ≤ wp.heap.size := Nat.le_trans hszo hDj.size
                have hLJ := hide hLj
                have hDJ := hide hDj
                obtain ⟨K, hK⟩ : ∃ K, K = yss.length * i + j := ⟨_, rfl⟩
                rw [← hK] at hLJ hfp hSU
                have HK := hide hK
                clear hgB hLj hDj hK hkb
                go_wp2_with fail
                go_loopw [53] (fun x wr => ∃ p : Nat, p ≤ hjr.length ∧ x = .int .i64 p ∧ ListsOf wr (w2.heap.size + 1) w2.heap.size (sumRows xss yss K) ((hjr.take p).map fun t => (yss.length : Int) * (i : Int) + t) ∧ Below w2.heap.size wp wr) (fun x _ => hjr.length - (intOf x).toNat)
                case atStart => exact ⟨0, Nat.zero_le _, rfl, by simpa using hLJ.out, Below.refl _ _⟩
                case round =>
                  obtain ⟨p, hp, rfl, hLp, hDp⟩ := hrel
                  have hBr := hBp.trans (hDp.mono (by omega))
                  have hszr : w2.heap.size + 1 ≤ wr.heap.size := Nat.le_trans hszp hDp.size
                  by_cases hplt : p < hjr.length
                  · obtain ⟨bz, oz, t, rfl, hct, htj⟩ := (hzy.keep hBr).one hplt
                    have htr := hjg.out t (mem_of_get htj.out)
                    have hE : Hid ((hjr.take (p + 1)).map (fun t => (yss.length : Int) * (i : Int) + t) = (hjr.take p).map (fun t => (yss.length : Int) * (i : Int) + t) ++ [(yss.length : Int) * (i : Int) + t]) := by
                      refine hide ?_
                      rw [List.take_add_one, htj.out]
                      simp
                    have hrow : ((sumRows xss yss K).flatten ++ (hjr.take p).map fun t => (yss.length : Int) * (i : Int) + t).length ≤ 1000000 := by
                      rw [List.length_append, List.length_map, List.length_take]
                      omega
                    have hcall := hide (addMove_any (w2.heap.size + 1) w2.heap.size _ _ ((yss.length : Int) * (i : Int) + t) wr hLp (by omega) hrow hszr)
                    have hDP := hide hDp
                    clear hLp hDp hrow
                    go_wp2_with fail
                    refine hcall.out.mono ?_
                    rintro e w4 ⟨⟨v, rfl⟩, hL4, hD4⟩
                    have hN : Hid (ListsOf w4 (w2.heap.size + 1) w2.heap.size (sumRows xss yss K) ((hjr.take (p + 1)).map fun t => (yss.length : Int) * (i : Int) + t) ∧ Below w2.heap.size wp w4) := hide ⟨by rw [hE.out]; exact ListsOf.add hL4, hDP.out.trans hD4⟩
                    clear hL4 hD4 hcall
                    go_wp2_with fail
                    go_roundw
                    case rel => exact ⟨p + 1, by omega, by go_num, hN.out.1, hN.out.2⟩
                    case measure => simp [intOf]; omega
                  · obtain rfl : p = hjr.length := by omega
                    rw [List.take_length] at hLp
                    obtain ⟨wq, rfl⟩ : ∃ wq : World, wq = wr := ⟨_, rfl⟩
                    have hLQ := hide hLp
                    have hDQ := hide hDp
                    have hcxq := (hDp.cell (p := ⟨w.heap.size, 0, none⟩) (by show w.heap.size < w2.heap.size; omega)).trans ((hDJ.out.cell (p := ⟨w.heap.size, 0, none⟩) (by show w.heap.size < w2.heap.size; omega)).trans hcxo)
                    clear hLp hDp
                    go_wp2_with fail
                    go_loopw [66] (fun x wr => ∃ q : Nat, q ≤ gi.length ∧ x = .int .i64 q ∧ ListsOf wr (w2.heap.size + 1) w2.heap.size (sumRows xss yss K) ((hjr.map fun t => (yss.length : Int) * (i : Int) + t) ++ ((gi.take q).map fun t => (yss.length : Int) * t + (j : Int))) ∧ Below w2.heap.size wq wr) (fun x _ => gi.length - (intOf x).toNat)
                    case atStart => exact ⟨0, Nat.zero_le _, rfl, by simpa using hLQ.out, Below.refl _ _⟩
                    case round =>
                      obtain ⟨q, hq, rfl, hLq, hDq⟩ := hrel
                      have hBs := hBr.trans (hDq.mono (by omega))
                      have hszs : w2.heap.size + 1 ≤ wr.heap.size := Nat.le_trans hszr hDq.size
                      have hrow : ((sumRows xss yss K).flatten ++ ((hjr.map fun t => (yss.length : Int) * (i : Int) + t) ++ ((gi.take q).map fun t => (yss.length : Int) * t + (j : Int)))).length ≤ 1000000 := by
                        simp only [List.length_append, List.length_map, List.length_take]
                        omega
                      by_cases hqlt : q < gi.length
                      · obtain ⟨bz, oz, t, rfl, hct, htj⟩ := (hzx.keep hBs).one hqlt
                        have htr := hgr.out t (mem_of_get htj.out)
                        obtain ⟨tn, rfl⟩ := Int.eq_ofNat_of_zero_le (show 0 ≤ t by omega)
                        obtain ⟨hmt1, hmt0⟩ := mulm (m := yss.length) (i := tn) hml.2 (by omega)
                        have hE : Hid ((hjr.map fun t => (yss.length : Int) * (i : Int) + t) ++ ((gi.take (q + 1)).map fun t => (yss.length : Int) * t + (j : Int)) = ((hjr.map fun t => (yss.length : Int) * (i : Int) + t) ++ ((gi.take q).map fun t => (yss.length : Int) * t + (j : Int))) ++ [(yss.length : Int) * (tn : Int) + (j : Int)]) := by
                          refine hide ?_
                          rw [List.take_add_one, htj.out]
                          simp
                        have hcall := hide (addMove_any (w2.heap.size + 1) w2.heap.size _ _ ((yss.length : Int) * (tn : Int) + (j : Int)) wr hLq (by omega) hrow hszs)
                        have hDQ2 := hide hDq
                        clear hLq hDq hrow
                        go_wp2_with fail
                        refine hcall.out.mono ?_
                        rintro e w4 ⟨⟨v, rfl⟩, hL4, hD4⟩
                        have hN : Hid (ListsOf w4 (w2.heap.size + 1) w2.heap.size (sumRows xss yss K) ((hjr.map fun t => (yss.length : Int) * (i : Int) + t) ++ ((gi.take (q + 1)).map fun t => (yss.length : Int) * t + (j : Int))) ∧ Below w2.heap.size wq w4) := hide ⟨by rw [hE.out]; exact ListsOf.add hL4, hDQ2.out.trans hD4⟩
                        clear hL4 hD4 hcall
                        go_wp2_with fail
                        go_roundw
                        case rel => exact ⟨q + 1, by omega, by go_num, hN.out.1, hN.out.2⟩
                        case measure => simp [intOf]; omega
                      · obtain rfl : q = gi.length := by omega
                        rw [List.take_length] at hLq hrow
                        have hst : (stopsOf (sumRows xss yss K)).length ≤ 1000000 := by
                          have h1 := HFL.out
                          rw [stopsOf_length, sumRows_length, HK.out]
                          have h2 := HBIG.out
                          have h3 := Nat.mul_le_mul_left yss.length (show i + 1 ≤ xss.length by omega)
                          rw [Nat.mul_comm] at h2
                          rw [Nat.mul_add, Nat.mul_one] at h3
                          omega
                        have hcall := hide (endPlace_any (w2.heap.size + 1) w2.heap.size _ _ wr hLq (by omega) hrow hst hszs)
                        have hDQ2 := hide hDq
                        clear hLq hDq hrow hst
                        go_wp2_with fail
                        refine hcall.out.mono ?_
                        rintro e w4 ⟨⟨v, rfl⟩, hL4, hD4⟩
                        have hN : Hid (ListsOf w4 (w2.heap.size + 1) w2.heap.size (sumRows xss yss (yss.length * i + (j + 1))) [] ∧ Below w2.heap.size wo w4) := by
                          refine hide ⟨?_, hDJ.out.trans (hDQ.out.trans (hDQ2.out.trans hD4))⟩
                          rw [hSU.out, HGA.out, HGB.out]
                          exact ListsOf.ended hL4
                        clear hL4 hD4 hcall
                        go_wp2_with fail
                        go_roundw
                        case rel => exact ⟨j + 1, by omega, by go_num, hN.out.1, hN.out.2⟩
                        case measure => simp [intOf]; omega
              · obtain rfl : j = yss.length := by omega
                have hN : Hid (ListsOf wp (w2.heap.size + 1) w2.heap.size (sumRows xss yss (yss.length * (i + 1))) [] ∧ Below w2.heap.size W3 wp) := by
                  refine hide ⟨?_, hDI.out.trans hDj⟩
                  rw [Nat.mul_add, Nat.mul_one]
                  exact hLj
                clear hLj hDj
                go_wp2_with fail
                go_roundw
                case rel => exact ⟨i + 1, by omega, by go_num, hN.out.1, hN.out.2⟩
                case measure => simp [intOf]; omega
          · obtain rfl : i = xss.length := by omega
            have hszo : w2.heap.size + 1 ≤ wo.heap.size := Nat.le_trans hsz hDi.size
            have hle40 : yss.length * xss.length ≤ 40 := by rw [Nat.mul_comm]; exact HBIG.out
            have hfp := HFL.out _ hle40
            have hLp' : Lists wo (w2.heap.size + 1) w2.heap.size (sumRows xss yss (yss.length * xss.length)).flatten (stopsOf (sumRows xss yss (yss.length * xss.length))) := by
              have := hLi
              unfold ListsOf at this
              rwa [List.append_nil] at this
            have hcall := hide (game_any (w2.heap.size + 1) w2.heap.size _ wo hLp' hszo (by rw [sumRows_length]; omega) (by omega))
            have hRr := hide ((hDi.block _ hs2).trans HRL.out)
            have hBr := hide (hBBL.trans (hDi.mono (by omega)))
            clear hLi hLp' hDi hfp hle40
            go_wp2_with fail
            refine hcall.out.mono ?_
            rintro e w4 ⟨a3, c3, ls, rfl, hg3, hB3⟩
            have hR3 := (hB3.block _ (block_lt hRr.out)).trans hRr.out
            have hc3 : w4.cell? ⟨w.heap.size + 1 + 1, 0, none⟩ = some (.slice none 0 0) := by rw [cell_of_row w4 (w.heap.size + 1 + 1) 0 _ _ (0, 0) hR3]; rfl
            have hf3 : w4.frozen? ⟨w.heap.size + 1 + 1, 0, none⟩ = false := frozen_of_row w4 (w.heap.size + 1 + 1) 0 _ _ hR3
            have hfin : Hid (NewLeavesC ((sumRows xss yss (yss.length * xss.length)), 0) w.heap.size w (.returned (.tuple #[.agg #[.slice a3 (sumRows xss yss (yss.length * xss.length)).length c3], .int .i64 0])) (w4.setCell ⟨w.heap.size + 1 + 1, 0, none⟩ (.slice a3 (sumRows xss yss (yss.length * xss.length)).length c3))) := by
              refine hide ⟨a3, c3, ls, rfl, ?_, ((hBr.out.trans (hB3.mono (by omega))).setCell (p := ⟨w.heap.size + 1 + 1, 0, none⟩) (by simp; omega) _)⟩
              exact (hg3.agree (fun b hb _ => Below.heap_setCell _ _ _ _ (by simp; omega))).mono (by omega)
            clear hg3 hB3 hR3 hcall
            go_wp2_with fail
            exact bodyPost_ret (v := .tuple #[.agg #[.slice a3 (sumRows xss yss (yss.length * xss.length)).length c3], .int .i64 0]) (by simp [results, Try.results24, go_sem, hc3]) rfl hfin.out
      · have hgt : (40 : Int) < (xss.length : Int) * (yss.length : Int) := by rw [hcast]; omega
        obtain rfl : r = ([], 3) := by rw [HRR.out, HG.out, HH.out, if_pos (by rfl), if_neg hbig]
        clear HRR
        have hdt : decide ((40 : Int) < (xss.length : Int) * (yss.length : Int)) = true := decide_eq_true hgt
        clear hcast hbig
        go_wp2_with fail
        exact bodyPost_ret (v := .tuple #[.agg #[.slice none 0 0], .int .i64 3]) (by simp [results, Try.results24, go_sem, hc2l]) rfl (HNO.out _ _ (by first | exact hBw2 | exact (hBw2.setCell (p := ⟨w.heap.size + 1 + 1, 0, none⟩) (by simp; omega) _)))
end Go.Proofs.Ytlgogpphlnogoaa
