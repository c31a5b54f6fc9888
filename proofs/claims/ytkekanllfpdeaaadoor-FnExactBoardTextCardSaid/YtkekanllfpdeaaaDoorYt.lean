/-
  BoardText, the program's text.
-/
import Derived.Test.YtkekanllfpdeaaaDoorYj
import Derived.Test.YtkekanllfpdeaaaDoorBd
namespace Go.Proofs.YtkekanllfpdeaaaDoor
open Go.RowKit
set_option linter.unusedVariables false

def wrL (l : List Int) (k : Nat) : Nat → Value := fun i => if i < k then .string ⟨(lnT (l[i]?.getD 0)).toArray⟩ else .string ⟨#[]⟩
theorem wrL_set {w : World} {b n : Nat} {t : TypeId} {l : List Int} {k : Nat} {z : Int} (h : w.rowIs b t n (wrL l k)) (hz : l[k]? = some z) :
    (w.setCell ⟨b, k, none⟩ (.string ⟨(lnT z).toArray⟩)).rowIs b t n (wrL l (k + 1)) := by
  refine (h.set k (.string ⟨(lnT z).toArray⟩)).congr ?_
  intro i _
  unfold wrL
  by_cases e : i = k
  · subst e; simp [hz]
  · simp only [e, if_false]
    by_cases h1 : i < k
    · rw [if_pos h1, if_pos (by omega)]
    · rw [if_neg h1, if_neg (by omega)]
theorem rowIs_keepB {W W' : World} {B b : Nat} {t : TypeId} {n : Nat} {f : Nat → Value} (h : W.rowIs b t n f) (hb : Below W.heap.size W W') : W'.rowIs b t n f := by
  obtain ⟨c, hc, r⟩ := h
  exact ⟨c, (hb.block b (block_lt hc)).trans hc, r⟩

set_option maxRecDepth 100000 in
set_option maxHeartbeats 4000000 in
theorem implBoardText_any (n : Int) (a : Option Addr) (c : Nat) (cs : List Int) (W : World) (ha : IntsAt W a cs) (hl : cs.length ≤ 1048576) (hT : TzTab W) :
    Calls Tryd.prog 17 #[.agg #[.int .i64 n, .slice a cs.length c]] W (RetB (.tuple #[.string ⟨(txtR n cs).1.toArray⟩, .int .i64 (txtR n cs).2]) W) := by
  have HT := hide hT
  clear hT
  obtain ⟨W0, hW0⟩ : ∃ W0, W0 = W.alloc (.cells #[.int .i64 n, .slice a cs.length c] 28) := ⟨_, rfl⟩
  have hB0 : Hid (Below W.heap.size W W0) := by rw [hW0]; exact hide (below_alloc _ _)
  have hX0 : Hid (HexIn W0 W.heap.size n a cs.length c) := by rw [hW0]; exact hide (hexIn_new _ _ _ _ _ _)
  have hA0 := hide (ha.keep hB0.out)
  obtain ⟨c0, c1⟩ := hX0.out
  cases hok : okB n cs
  · have HR : Hid (txtR n cs = ([], 1)) := hide (by unfold txtR; rw [hok]; rfl)
    rw [HR.out]
    have HIS := hide (implIs_is hok (c := c) hA0.out hl)
    clear ha hok
    go_enter Tryd.func17, Tryd.ntmps17
    go_wp2_with fail
    rw [← hW0]
    clear hW0
    (try go_wp2_with fail)
    refine HIS.out.mono ?_
    rintro e w1 ⟨rfl, hb1⟩
    have hB1 := hide (Below.trans' hB0.out hb1)
    clear hb1 c0 c1
    go_wp2_with fail
    go_ret2
    exact ⟨rfl, hB1.out⟩
  · obtain ⟨r, hr⟩ : ∃ r, r = txtB n cs := ⟨_, rfl⟩
    have HR : Hid (txtR n cs = (r, 0)) := hide (by unfold txtR; rw [hok, hr]; rfl)
    have HRR := hide hr
    rw [HR.out]
    have HIS := hide (implIs_is hok (c := c) hA0.out hl)
    obtain ⟨hn16, hcl, _⟩ := okB_parts hok
    have HIN := hide (fun z (hz : z ∈ cs) => okB_mem hok hz)
    obtain ⟨m, hm⟩ : ∃ m, m = cs.length := ⟨_, rfl⟩
    have HM := hide hm
    rw [← hm] at hcl hW0 c1 HIS hX0 ⊢
    have hmk := run_make_row' (P := Tryd.prog) 74 9 (.string ⟨#[]⟩) 16 Tryd.underlying74 (by kernel_rfl) rfl .i64 .i64 m (by omega) (by omega)
    clear ha hok hr hm hl
    go_enter Tryd.func17, Tryd.ntmps17
    go_wp2_with fail
    rw [← hW0]
    clear hW0
    (try go_wp2_with fail)
    refine HIS.out.mono ?_
    rintro e w1 ⟨rfl, hb1⟩
    have hB1 := hide (Below.trans' hB0.out hb1)
    have hX1 := hide (hX0.out.keep hb1)
    have hA1 := hide (hA0.out.keep hb1)
    have HT1 := hide (HT.out.keep hB1.out)
    clear hb1 c0 c1
    obtain ⟨c0, c1⟩ := hX1.out
    obtain ⟨N, hN⟩ : ∃ N, N = w1.heap.size := ⟨_, rfl⟩
    have HNW := hide hN
    obtain ⟨w2, hw2⟩ : ∃ w2, w2 = w1.alloc (.cells (madeCells #[.string ⟨#[]⟩] m) 9) := ⟨_, rfl⟩
    have H2 : Hid (w2.rowIs N 9 m (wrL cs 0) ∧ Below N w1 w2) := hide (by
      rw [hw2, hN]
      exact ⟨(World.rowIs_made w1 (.string ⟨#[]⟩) m 9).congr (fun i _ => by simp [wrL]), below_alloc _ _⟩)
    have hWl : Hid (W.heap.size < N) := hide (by rw [hN]; exact hX1.out.lt)
    have hX2 : Hid (HexIn w2 W.heap.size n a m c) := hide (hX1.out.below H2.out.2 hWl.out)
    clear c0 c1
    have hX1' := hX1.out
    obtain ⟨c0, c1⟩ := hX1'
    have hlt1 : W.heap.size < w1.heap.size := hX1.out.lt
    go_wp2_with fail
    rw [← hw2, ← hN]
    clear hw2 hN hmk c0 c1 hlt1
    (try go_wp2_with fail)
    go_loopg [17] m (fun g i wr => ∃ k : Nat, k + g = m ∧ i = .int .i64 k ∧ wr.rowIs N 9 m (wrL cs k) ∧ Below N w1 wr)
    case atStart => exact ⟨0, by omega, rfl, H2.out.1, H2.out.2⟩
    case round =>
      clear H2
      obtain ⟨k, hk, rfl, hrow, hB⟩ := hrel
      have HROW := hide hrow
      have HB := hide hB
      cases gk with
      | zero =>
        obtain rfl : k = m := by omega
        obtain ⟨c0, c1⟩ := hX1.out.below HB.out hWl.out
        have hF := hide (fun V => format_any n (by omega) (by omega) V)
        have hj := Tryd.strings_Join N 0 k (cs.map fun x => ⟨(lnT x).toArray⟩) ⟨#[44]⟩ wr (fun j x hx => by
          have hjl := (List.getElem?_eq_some_iff.1 hx).1
          rw [List.length_map] at hjl
          rw [List.getElem?_map, List.getElem?_eq_getElem hjl] at hx
          simp only [Option.map_some, Option.some.injEq] at hx
          subst hx
          rw [Nat.zero_add, hrow.cell (by rw [HM.out]; exact hjl)]
          unfold wrL
          rw [if_pos (by rw [HM.out]; exact hjl), List.getElem?_eq_getElem hjl]
          rfl) hrow.lt (by rw [List.length_map, ← HM.out]; omega) (by rw [List.length_map, ← HM.out]; exact Nat.le_refl _) (by
          have h1 : (cs.map fun x => (⟨(lnT x).toArray⟩ : ByteArray)).map (·.data.toList) = cs.map lnT := by rw [List.map_map]; exact List.map_congr_left (fun x _ => rfl)
          rw [h1]
          have h2 := jw_le 44 (M := 48) (cs.map lnT) (fun x hx => by obtain ⟨z, _, rfl⟩ := List.mem_map.1 hx; exact lnT_le z)
          unfold jw at h2
          rw [List.length_map] at h2
          show (Lib.join (cs.map lnT) [44]).length ≤ _
          have := HM.out
          omega)
        have h1 : (cs.map fun x => (⟨(lnT x).toArray⟩ : ByteArray)).map (·.data.toList) = cs.map lnT := by rw [List.map_map]; exact List.map_congr_left (fun x _ => rfl)
        rw [h1, List.length_map, ← HM.out] at hj
        obtain ⟨q, hq⟩ : ∃ q, q = jw 44 (cs.map lnT) := ⟨_, rfl⟩
        have hq2 : Lib.join (cs.map lnT) (⟨#[44]⟩ : ByteArray).data.toList = q := hq.symm
        rw [hq2] at hj
        have hql : q.length ≤ 4900 := by
          have h2 := jw_le 44 (M := 48) (cs.map lnT) (fun x hx => by obtain ⟨z, _, rfl⟩ := List.mem_map.1 hx; exact lnT_le z)
          rw [List.length_map, ← HM.out] at h2
          rw [hq]
          omega
        obtain ⟨D, hD⟩ : ∃ D, D = decL n := ⟨_, rfl⟩
        have hDl : D.length ≤ 2 := by rw [hD]; exact decL_le n
        have HE : Hid (r = (D ++ [58]) ++ q) := hide (by rw [HRR.out, hD, hq]; rfl)
        rw [← hD] at hF
        have hadd1 : ∀ w' : World, (Op.stringOp .add ⟨D.toArray⟩ ⟨#[58]⟩).run Tryd.prog w' = .ok (.string ⟨(D ++ [58]).toArray⟩) w' := fun w' => run_string_add_lists w' D [58] (by omega) (by simp)
        have hadd2 : ∀ w' : World, (Op.stringOp .add ⟨(D ++ [58]).toArray⟩ ⟨q.toArray⟩).run Tryd.prog w' = .ok (.string ⟨((D ++ [58]) ++ q).toArray⟩) w' := fun w' => run_string_add_lists w' (D ++ [58]) q (by simp; omega) (by omega)
        have HJ := hide hj
        clear hj h1 hrow hB hq hq2 hD hql hDl
        go_wp2_with fail
        refine (hF.out _).mono ?_
        rintro e w5 ⟨rfl, hw5⟩
        subst hw5
        go_wp2_with fail
        refine HJ.out.mono ?_
        rintro e w6 ⟨rfl, hb6⟩
        have hB6 := hide (Below.trans' hB1.out ((HB.out.trans (hb6.mono (by have := HB.out.size; have := HNW.out; omega))).mono (by rw [HNW.out]; exact Nat.le_refl _)))
        clear hb6 c0 c1
        go_wp2_with fail
        go_ret2
        exact ⟨by rw [HE.out, List.append_assoc]; rfl, hB6.out⟩
      | succ g2 =>
        have hkl : k < cs.length := by rw [← HM.out]; omega
        have hkm : (k : Int) < (m : Int) := by omega
        obtain ⟨b, off, z, e0, hcell, hz⟩ := hA1.out.one hkl
        have hcell' : wr.cell? ⟨b, off + k, none⟩ = some (.int .i64 z) := (HB.out.cell (p := ⟨b, off + k, none⟩) (by rw [HNW.out]; exact World.block_lt_of_cell? _ _ hcell)).trans hcell
        subst e0
        obtain ⟨z1, z2, z3⟩ := HIN.out z (List.mem_of_getElem? hz.out)
        have hnz := hide (fun V hv => nodesOf_any z (by omega) z3 V hv)
        obtain ⟨nl, hnl⟩ : ∃ nl, nl = nodesL z := ⟨_, rfl⟩
        have HNL := hide hnl
        have hnll : nl.length ≤ 16 := by rw [hnl]; exact nodesL_le z
        rw [← hnl] at hnz
        have hn2 : Hid (∀ V : World, V.rowIs N 9 m (wrL cs k) → (V.setCell ⟨N, k, none⟩ (.string ⟨(jn 46 nl).toArray⟩)).rowIs N 9 m (wrL cs (k + 1))) := hide (fun V h => by rw [hnl]; exact wrL_set h hz.out)
        have hJ : Hid (∀ (V : World) (av : Option Addr) (cv : Nat), IntsAt V av nl → Calls Tryd.prog 59 #[.slice av nl.length cv, .string ⟨#[46]⟩] V (RetB (.string ⟨(jn 46 nl).toArray⟩) V)) := hide (fun V av cv h => joinN_any 46 av cv nl V h (fun x hx => by rw [hnl] at hx; exact nodesL_in hx) hnll)
        obtain ⟨D, hD⟩ : ∃ D, D = jn 46 nl := ⟨_, rfl⟩
        rw [← hD] at hJ hn2
        obtain ⟨nn, hnn⟩ : ∃ nn, nn = nl.length := ⟨_, rfl⟩
        have hNN := hide hnn
        clear hrow hB hcell hnl hD z1 z2 z3 hnn hnll
        go_wp2_with fail
        refine (hnz.out _ (HT1.out.keep (by have := HB.out; rw [HNW.out] at this; exact this))).mono ?_
        rintro e w5 ⟨a5, k5, rfl, ho5, hb5⟩
        have hR5 := hide (rowIs_keepB (B := 0) HROW.out hb5)
        have hB5 := hide (HB.out.trans (hb5.mono (by have := HB.out.size; have := HNW.out; omega)))
        have hI5 := hide (intsAt_of_ownsRow ho5)
        clear hb5 ho5 hcell'
        go_wp2_with fail
        refine (hJ.out _ _ _ hI5.out).mono ?_
        rintro e w6 ⟨rfl, hb6⟩
        have hR6 := hide (rowIs_keepB (B := 0) hR5.out hb6)
        have hce := hR6.out.cell (show k < m by omega)
        have hfr := hR6.out.frozen k
        have hB6 := hide ((hB5.out.trans (hb6.mono (by have := hB5.out.size; have := HNW.out; omega))).setCell (p := ⟨N, k, none⟩) (Nat.le_refl _) (.string ⟨D.toArray⟩))
        have hR7 := hide (hn2.out _ hR6.out)
        clear hb6
        go_wp2_with fail
        go_roundg g2
        case rel => exact ⟨k + 1, by omega, by go_num, hR7.out, hB6.out⟩
        case measure => omega
end Go.Proofs.YtkekanllfpdeaaaDoor
