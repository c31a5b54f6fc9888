/-
  Boards of hexagons: mirrored boards, the model's text.
-/
import Derived.Test.YtidcpocfdppobaaMr
import Derived.Deep.RegionLaw
import Derived.Deep.AppendLies
namespace Go.Proofs.Ytidcpocfdppobaa
open Go.RowKit
set_option linter.unusedVariables false

theorem own_not_box {w : World} {lo n g : Nat} {v : Value} {xs : List Value} {cs : Array Value} (h : w.ownsRow lo 2 1 v n xs) (hb : w.heap[g]? = some (.cells cs 27 (0, 0))) : v.ownBlock ≠ some g := by
  intro e
  rcases h.2 with ⟨hv, _⟩ | ⟨g', cap, cur, hv, _, hh, _⟩
  · rw [hv] at e; simp [Value.ownBlock] at e
  · rw [hv] at e
    simp [Value.ownBlock] at e
    subst e
    rw [hb] at hh
    have := congrArg (fun o => match o with | some (Obj.cells _ t _) => t | _ => 0) hh
    simp at this
theorem own_other {w : World} {lo n g o : Nat} {e : TypeId} {v u : Value} {xs : List Value} (h : w.ownsRow lo e 1 v n xs) (hne : v.ownBlock ≠ some g) : (w.setCell ⟨g, o, none⟩ u).ownsRow lo e 1 v n xs := by
  refine ⟨h.1, ?_⟩
  rcases h.2 with h2 | ⟨g', cap, cur, hv, hg, hh, r⟩
  · exact .inl h2
  · refine .inr ⟨g', cap, cur, hv, hg, (Below.heap_setCell _ _ _ _ (fun e => hne (by rw [hv, e]; rfl))).trans hh, r⟩

theorem two_alloc (w : World) (o : Obj) (x : Value) : ((w.alloc o).alloc (.cells #[x] 2)).heap[w.heap.size + 1]? = some (.cells #[x] 2 (0, 0)) := by
  have := alloc_row (w.alloc o) #[x] 2
  simpa using this
/-- Between two rounds: the new board's box, its list; all that was there as it was. -/
def MidM (N g lo : Nat) (ml : List Int) (W1 : World) (k : Nat) (W : World) : Prop :=
  ∃ av kv, W.heap[g]? = some (.cells #[.int .i64 N, .slice av k kv] 27 (0, 0)) ∧ W.ownsRow lo 2 1 (.slice av k kv) k ((ml.take k).map intV) ∧ Below lo W1 W
theorem MidM.next {N g lo k : Nat} {ml : List Int} {W1 wr w0 w1 : World} {v : Value} {x : Int} {g' cap : Nat} {av : Option Addr} {kv : Nat} (hlo : lo ≤ wr.heap.size) (hlg : lo ≤ g) (hbox : wr.heap[g]? = some (.cells #[.int .i64 N, .slice av k kv] 27 (0, 0))) (hv : v = .slice av k kv) (hown0 : wr.ownsRow lo 2 1 v k ((ml.take k).map intV)) (hold : Below lo W1 wr) (h0 : Below wr.heap.size wr w0)
    (hown : w1.ownsRow lo 2 1 (.slice (some ⟨g', 0, none⟩) (k + 1) cap) (k + 1) ((ml.take k).map intV ++ [.int .i64 x])) (hg : w0.grownBy w1 v.ownBlock) (hx : ml[k]? = some x) :
    w1.heap[g]? = some (.cells #[.int .i64 N, .slice av k kv] 27 (0, 0)) ∧ MidM N g lo ml W1 (k + 1) (w1.setCell ⟨g, 1, none⟩ (.slice (some ⟨g', 0, none⟩) (k + 1) cap)) := by
  have hb0 := box_keep hbox h0
  have hne := own_not_box (ownsRow_keep hown0 h0) hb0
  have hb1 : w1.heap[g]? = some (.cells #[.int .i64 N, .slice av k kv] 27 (0, 0)) := (hg.block g (block_lt hb0) (Ne.symm hne)).trans hb0
  have hne1 := own_not_box hown hb1
  refine ⟨hb1, some ⟨g', 0, none⟩, cap, box_set21 hb1, ?_, ?_⟩
  · rw [take_more hx, List.map_append]
    exact own_other hown hne1
  · refine Below.setCell (p := ⟨g, 1, none⟩) ?_ hlg _
    exact hold.trans ((h0.mono hlo).trans ⟨hg.os, hg.tape, hg.output, hg.size, fun j hj => hg.block j (by have := h0.size; omega) (fun e => by have := (hown0.lt j e.symm).1; omega)⟩)

set_option maxRecDepth 100000 in
set_option maxHeartbeats 4000000 in
theorem specMirror_any (n : Int) (a : Option Addr) (c : Nat) (cs : List Int) (W : World) (ha : IntsAt W a cs) (hl : cs.length ≤ 1048576) :
    Calls Try.prog 43 #[.agg #[.int .i64 n, .slice a cs.length c]] W (NewHexR (mirR n cs) W) := by
  obtain ⟨i0, hi, hz0, hz1, hz2⟩ := info_parts Try.info2
  obtain ⟨W0, hW0⟩ : ∃ W0, W0 = (W.alloc (.cells #[.int .i64 n, .slice a cs.length c] 27)).alloc (.cells #[.int .i64 0, .slice none 0 0] 27) := ⟨_, rfl⟩
  have hB0 : Hid (Below W.heap.size W W0) := by rw [hW0]; exact hide ((below_alloc _ _).alloc (by simp) _)
  have hs0 : Hid (W0.heap.size = W.heap.size + 2) := by rw [hW0]; exact hide (by simp)
  have hx0 : W0.heap[W.heap.size]? = some (.cells #[.int .i64 n, .slice a cs.length c] 27 (0, 0)) := by rw [hW0, Below.heap_alloc _ _ _ (by simp)]; exact alloc_row _ _ _
  have hy0 : Hid (W0.heap[W.heap.size + 1]? = some (.cells #[.int .i64 0, .slice none 0 0] 27 (0, 0))) := by
    have := alloc_row (W.alloc (.cells #[.int .i64 n, .slice a cs.length c] 27)) #[.int .i64 0, .slice none 0 0] 27
    rw [hW0]; exact hide (by simpa using this)
  have HX0 := hide hx0
  have hA0 := hide (ha.keep hB0.out)
  obtain ⟨c0, c1, _, _⟩ := row2' hx0
  clear hx0 ha
  cases hok : okH n cs
  · have hR : Hid (mirR n cs = (0, [], 1)) := hide (by simp [mirR, hok])
    have HOK := hide hok
    rw [hR.out]
    clear hok
    go_enter Try.func43, Try.ntmps43
    go_wp2_with fail
    rw [← hW0]
    clear hW0
    refine (specIsX_is HOK.out hA0.out hl).mono ?_
    rintro e w1 ⟨rfl, hb1⟩
    have hB1 := hide (Below.trans' hB0.out hb1)
    have hY1 := box_keep hy0.out hb1
    have HY1 := hide hY1
    obtain ⟨x0, x1, f0, f1⟩ := row2' hY1
    have hsz1 : Hid (W0.heap.size ≤ w1.heap.size) := hide hb1.size
    clear hb1 c0 c1 hY1
    go_wp2_with fail
    have hbx := box_set2' (x' := .int .i64 0) (y' := .slice none 0 0) HY1.out
    obtain ⟨j0, j1, _⟩ := row2' hbx
    have hB := (hB1.out.setCell (p := ⟨W.heap.size + 1, 0, none⟩) (by simp) (.int .i64 0)).setCell (p := ⟨W.heap.size + 1, 1, none⟩) (by simp) (.slice none 0 0)
    exact bodyPost_ret (v := .tuple #[.agg #[.int .i64 0, .slice none 0 0], .int .i64 1]) (by simp [results, Try.results43, go_sem, j0, j1]) rfl ⟨none, 0, rfl, World.ownsRow_nil _ _ _ _, hB⟩
  · have hR : Hid (mirR n cs = (n, mirH n cs, 0)) := hide (by simp [mirR, hok])
    have HOK := hide hok
    rw [hR.out]
    obtain ⟨n1, n8, hlen, hz⟩ := okH_yes hok
    obtain ⟨N, hN⟩ : ∃ N : Nat, n = N := ⟨n.toNat, by omega⟩
    subst hN
    have hlenN : cs.length = N * N := by exact_mod_cast hlen
    have hsq := sqN8 (N := N) (by omega)
    have hl1 : 1 ≤ cs.length := (okH_len hok).1
    obtain ⟨b, off, rfl, _⟩ := IntsAt.at hA0.out hl1
    obtain ⟨ml, hml⟩ : ∃ ml, ml = mirH (N : Int) cs := ⟨_, rfl⟩
    rw [← hml]
    have HML : Hid (ml.length = cs.length ∧ ∀ r q : Nat, r < N → q < N → ml[N * r + q]? = some (swP (hexAt cs ((N * q + r : Nat) : Int)))) := hide (by
      refine ⟨by rw [hml, mirH_len], fun r q hr hq => ?_⟩
      have h1 := sqN hr
      rw [hml, mirH_get (by omega), trH_at (r := q) (c := r) hq])
    have HZ := hide hz
    have HLN := hide hlenN
    clear hok hlen hz hml
    have hl64 : cs.length ≤ 64 := by omega
    obtain ⟨L, hL⟩ : ∃ L, L = cs.length := ⟨_, rfl⟩
    rw [← hL] at hl64 HLN HX0 hW0 c1 ⊢
    have HLC := hide hL
    have HIS : Hid (Calls Try.prog 52 #[.agg #[.int .i64 N, .slice (some ⟨b, off, none⟩) L c]] W0 (RetB (.bool true) W0)) := hide (by rw [hL]; exact specIsX_is HOK.out hA0.out hl)
    have n8' : N ≤ 8 := by omega
    have n1' : 1 ≤ N := by omega
    clear hlenN hsq hl1 hL hl n1 n8
    go_enter Try.func43, Try.ntmps43
    go_wp2_with fail
    rw [← hW0]
    clear hW0
    refine (HIS.out).mono ?_
    rintro e w1 ⟨rfl, hb1⟩
    have hB1 := hide (Below.trans' hB0.out hb1)
    have hY1 := hide (box_keep hy0.out hb1)
    have hX1 := hide (box_keep HX0.out hb1)
    have hA1 := hide (hA0.out.keep hb1)
    obtain ⟨d0, d1, _, _⟩ := row2' hX1.out
    have hsz1 : Hid (W.heap.size + 2 ≤ w1.heap.size) := hide (by have := hb1.size; have := hs0.out; omega)
    obtain ⟨W2, hW2⟩ : ∃ W2, W2 = (w1.alloc (.cells #[] 2)).alloc (.cells #[.int .i64 N, .slice (some ⟨w1.heap.size, 0, none⟩) 0 0] 27) := ⟨_, rfl⟩
    have hM0 : Hid (MidM N (w1.heap.size + 1) w1.heap.size ml w1 0 W2) := by
      rw [hW2]
      refine hide ⟨some ⟨w1.heap.size, 0, none⟩, 0, ?_, ?_, (below_alloc _ _).alloc (by simp) _⟩
      · have := alloc_row (w1.alloc (.cells #[] 2)) #[.int .i64 N, .slice (some ⟨w1.heap.size, 0, none⟩) 0 0] 27
        simpa using this
      · exact ownsRow_keep (ownsRow_empty (alloc_row _ _ _) (Nat.le_refl _)) (below_alloc _ _)
    have hbl : Hid (b < w1.heap.size) := hide (by
      obtain ⟨b', o', he, hc'⟩ := hA1.out.at (by rw [← HLC.out, HLN.out]; exact Nat.mul_le_mul n1' n1')
      cases he
      have h1 := hc' 0 (by rw [← HLC.out, HLN.out]; exact Nat.mul_le_mul n1' n1')
      have := World.block_lt_of_cell? w1 _ h1
      simpa using this)
    have HKEEP : Hid (∀ k V, MidM N (w1.heap.size + 1) w1.heap.size ml w1 k V → V.cell? ⟨W.heap.size, 0, none⟩ = some (.int .i64 N) ∧ V.cell? ⟨W.heap.size, 1, none⟩ = some (.slice (some ⟨b, off, none⟩) L c) ∧ (∀ i, i < L → V.cell? ⟨b, off + i, none⟩ = some (.int .i64 (hexAt cs (i : Int)))) ∧ w1.heap.size + 1 < V.heap.size) := hide (fun k V h => by
      obtain ⟨av, kv, m1, m2, m3⟩ := h
      have hx := (m3.block W.heap.size (by have := hsz1.out; omega)).trans hX1.out
      refine ⟨(row2' hx).1, (row2' hx).2.1, fun i hi => ?_, block_lt m1⟩
      obtain ⟨b', o', he, hc'⟩ := hA1.out.at (by rw [← HLC.out]; omega)
      cases he
      exact (m3.cell (p := ⟨b, off + i, none⟩) hbl.out).trans (hc' i (by rw [← HLC.out]; exact hi)))
    clear hb1 c0 c1
    go_wp2_with fail
    rw [← hW2]
    clear hW2 d0 d1
    obtain ⟨x0, x1, _, _⟩ := HKEEP.out _ _ hM0.out
    (try go_wp2_with fail)
    go_loopw [5] (fun i wr => ∃ r : Nat, r ≤ N ∧ i = .int .i64 r ∧ Hid (MidM N (w1.heap.size + 1) w1.heap.size ml w1 (N * r) wr) ∧ wr.cell? ⟨W.heap.size, 0, none⟩ = some (.int .i64 N)) (fun i _ => N - (intOf i).toNat)
    case atStart => exact ⟨0, Nat.zero_le _, rfl, by rw [Nat.mul_zero]; exact hM0, x0⟩
    case round =>
      clear hM0 x0 x1
      obtain ⟨r, hr, rfl, hM, x0⟩ := hrel
      obtain ⟨wo, rfl⟩ : ∃ wo : World, wo = wr := ⟨_, rfl⟩
      by_cases hlt : r < N
      · obtain ⟨s, hs⟩ : ∃ s, s = N * r := ⟨_, rfl⟩
        have hsl : s + N ≤ L := by rw [hs, HLN.out]; exact sqN hlt
        have HS : Hid (N * (r + 1) = s + N) := hide (by rw [hs, Nat.mul_succ])
        have HGET : Hid (∀ q : Nat, q < N → ml[s + q]? = some (swP (hexAt cs ((N * q + r : Nat) : Int)))) := hide (fun q hq => by rw [hs]; exact HML.out.2 r q hlt hq)
        rw [← hs] at hM
        clear hs
        go_wp2_with fail
        go_loopw [6] (fun i wr => ∃ q : Nat, q ≤ N ∧ i = .int .i64 q ∧ Hid (MidM N (w1.heap.size + 1) w1.heap.size ml w1 (s + q) wr) ∧ wr.cell? ⟨W.heap.size, 0, none⟩ = some (.int .i64 N)) (fun i _ => N - (intOf i).toNat)
        case atStart => exact ⟨0, Nat.zero_le _, rfl, hM, x0⟩
        case round =>
          clear hM x0
          obtain ⟨q, hq, rfl, hM, x0⟩ := hrel
          by_cases hql : q < N
          · obtain ⟨x0', x1, hcc, hgl⟩ := HKEEP.out _ _ hM.out
            obtain ⟨t, ht⟩ : ∃ t, t = N * q := ⟨_, rfl⟩
            have htl : t + N ≤ L := by rw [ht, HLN.out]; exact sqN hql
            have hget := HGET.out q hql
            rw [← ht] at hget
            have hmul : (N : Int) * (q : Int) = (t : Int) := by rw [ht]; push_cast; rfl
            have hw1 : IntKind.i64.wrap (t : Int) = (t : Int) := by rw [IntKind.wrap_i64]; omega
            have htr : t + r < L := by omega
            have h0t : 0 ≤ (t : Int) + (r : Int) := by omega
            have h1t : (t : Int) + (r : Int) < (L : Int) := by omega
            have htn : ((t : Int) + (r : Int)).toNat = t + r := by omega
            have hw3 : IntKind.i64.wrap ((t : Int) + (r : Int)) = (t : Int) + (r : Int) := by rw [IntKind.wrap_i64]; omega
            obtain ⟨z, hzz⟩ : ∃ z, z = hexAt cs ((t + r : Nat) : Int) := ⟨_, rfl⟩
            have cz : wr.cell? ⟨b, off + (t + r), none⟩ = some (.int .i64 z) := by rw [hzz]; exact hcc _ (by omega)
            have hzr : 0 ≤ z ∧ z ≤ 2 := by rw [hzz]; exact HZ.out _ (hexAt_mem (by rw [← HLC.out]; omega))
            rw [← hzz] at hget
            obtain ⟨av, kv, m1, m2, m3⟩ := hM.out
            have hbw : b < wr.heap.size := by have := hbl.out; omega
            have hWw : W.heap.size < wr.heap.size := by have := hsz1.out; omega
            have hne1 : ¬ w1.heap.size = wr.heap.size := by omega
            have hne2 : ¬ w1.heap.size + 1 = wr.heap.size := by omega
            have hne3 : w1.heap.size < wr.heap.size := by omega
            have y1 : wr.cell? ⟨w1.heap.size + 1, 1, none⟩ = some (.slice av (s + q) kv) := (row2' m1).2.1
            have HM1 := hide m1
            have HM2 := hide m2
            have HM3 := hide m3
            have HGT := hide hget
            have hown := m2
            have hll : (ml.take (s + q)).length ≤ 64 := by rw [List.length_take]; omega
            clear ht hzz hcc m1 m2 m3 hget
            obtain ⟨zn, rfl⟩ : ∃ zn : Nat, z = zn := ⟨z.toNat, by omega⟩
            have hzn3 : zn < 3 := by omega
            have hzn4 : (zn : Int) < 3 := by omega
            obtain ⟨v, hv⟩ : ∃ v, v = swP (zn : Int) := ⟨_, rfl⟩
            have hlit1 : (#[Value.int .i64 0, .int .i64 2, .int .i64 1] : Array Value)[zn]? = some (.int .i64 v) := by
              rw [hv]
              rcases (by omega : zn = 0 ∨ zn = 1 ∨ zn = 2) with rfl | rfl | rfl <;> rfl
            have hlit2 : (wr.alloc (.cells #[.int .i64 0, .int .i64 2, .int .i64 1] 2)).cell? ⟨wr.heap.size, zn, none⟩ = some (.int .i64 v) := (cell_of_row _ _ zn _ _ (0, 0) (alloc_row _ _ _)).trans hlit1
            rw [← hv] at HGT
            clear hv
            go_wp2_with fail
            go_region_law ((refine step_append_lies _ (by rfl) _ _ _ (by rfl) w1.heap.size 2 i0 (.int .i64 0) 1 8 Try.underlying22 hi hz0 hz1 hz2 rfl (by decide) _ _ _ (by rfl) (ownsRow_keep hown (by first | exact (((below_alloc wr _).alloc (by simp) _).drew) | exact ((((Below.refl _ _).drew).alloc (by simp) _).alloc (by simp; omega) _))) ⟨wr.heap.size + 1, 0, none⟩ 1 1 [.int .i64 v] (by rfl) rfl (World.news_of_block (two_alloc wr _ _)) (by simp [Value.oneCell']) (by omega) (by unfold maxLen; omega) (by omega) (by simp; omega) (wr.heap.size + 2) (by simp) ?_; intro g' cap w5 hown1 hgrow hat hlt1; obtain ⟨hb5, hM5⟩ := MidM.next (N := N) (g := w1.heap.size + 1) (lo := w1.heap.size) (ml := ml) (W1 := w1) (by omega) (by omega) HM1.out rfl hown HM3.out (by first | exact (((below_alloc wr _).alloc (by simp) _).drew) | exact ((((Below.refl _ _).drew).alloc (by simp) _).alloc (by simp; omega) _)) hown1 hgrow HGT.out; have HM5 := hide hM5; have hcx : w5.cell? ⟨w1.heap.size + 1, 1, none⟩ = some (.slice av (s + q) kv) := (row2' hb5).2.1; have hfx : w5.frozen? ⟨w1.heap.size + 1, 1, none⟩ = false := (row2' hb5).2.2.2; clear hM5 hb5 hown1 hgrow hat hlt1 y1 cz x1 x0' hlit1 hlit2 hzn3 hzn4 hmul hw1 hw3 h0t h1t htn htr htl hll hzr hbw hWw hne1 hne2 hne3 hgl))
            all_goals
              go_wp2_with fail
              have hxx := (HKEEP.out _ _ HM5.out).1
              go_roundw
              case rel => exact ⟨q + 1, by omega, by go_num, HM5, hxx⟩
              case measure => simp [intOf]; omega
          · obtain rfl : q = N := by omega
            go_wp2_with fail
            go_roundw
            case rel => exact ⟨r + 1, by omega, by go_num, by rw [HS.out]; exact hM, x0⟩
            case measure => simp [intOf]; omega
      · obtain rfl : r = N := by omega
        obtain ⟨av, kv, m1, m2, m3⟩ := hM.out
        have hY4 := (m3.block (W.heap.size + 1) (by have := hsz1.out; omega)).trans hY1.out
        obtain ⟨y0, y1, f0, f1⟩ := row2' hY4
        obtain ⟨d0, d1, _, _⟩ := row2' m1
        have HY4 := hide hY4
        have hlen : Hid (r * r = ml.length) := hide (by rw [HML.out.1, ← HLC.out, HLN.out])
        have HB4 : Hid (Below W.heap.size W wo) := hide (hB1.out.trans (m3.mono (by have := hsz1.out; omega)))
        have hMM := hide m2
        have HM1 := hide m1
        rw [hlen.out] at d1
        clear hY4 m1 m2 m3
        go_wp2_with fail
        have hbx := box_set2' (x' := .int .i64 r) (y' := .slice av ml.length kv) HY4.out
        obtain ⟨j0, j1, _⟩ := row2' hbx
        have hB := (HB4.out.setCell (p := ⟨W.heap.size + 1, 0, none⟩) (by simp) (.int .i64 r)).setCell (p := ⟨W.heap.size + 1, 1, none⟩) (by simp) (.slice av ml.length kv)
        have hown := hMM.out
        rw [hlen.out, List.take_length] at hown
        have hsz := hsz1.out
        exact bodyPost_ret (v := .tuple #[.agg #[.int .i64 r, .slice av ml.length kv], .int .i64 0]) (by simp [results, Try.results43, go_sem, j0, j1]) rfl
          ⟨av, kv, rfl, ownsRow_base (ownsRow_setCell_below (ownsRow_setCell_below hown (show W.heap.size + 1 < w1.heap.size by omega) _) (show W.heap.size + 1 < w1.heap.size by omega) _) (by omega), hB⟩
end Go.Proofs.Ytidcpocfdppobaa
