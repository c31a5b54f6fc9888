/-
  pointsToWin, the program's text.
-/
import Derived.Test.YtdimmlpnfghndaaFy
namespace Go.Proofs.Ytdimmlpnfghndaa
open Go.RowKit Go.Maps
set_option linter.unusedVariables false

/-- A list of the call's own handed back beside a map that turned. -/
def NewLM (bm : Nat) (I : World → Prop) (zs : List Int) (w : World) (e : Ending) (w' : World) : Prop := NewLB bm zs w e w' ∧ I w'
/-- Behind an append a block below is as it was. -/
theorem blockB {B n : Nat} {W0 w w' : World} {v : Value} {zs : List Int} {o : Obj} (h : OwnB B n W0 w v zs) {k : Nat} (hn : k < B) (hl : k < w.heap.size) (hg : (w.alloc o).grownBy w' v.ownBlock) : w'.heap[k]? = w.heap[k]? := by
  refine (hg.block k (by simp; omega) (fun hbe => ?_)).trans (Below.heap_alloc _ _ _ hl)
  rcases h.own.2 with ⟨hv, _⟩ | ⟨g', cap, cur, hv, hgg, _⟩
  · rw [hv] at hbe; simp [Value.ownBlock] at hbe
  · rw [hv] at hbe; simp [Value.ownBlock] at hbe; omega
def qB (N L game R B pl : Int) (i : Int) : Bool := !win N L (mvR R pl i) (mvB B pl i) game (1 - pl)
theorem best_q (N L R B game pl : Int) : best N L R B game pl = (pts N L R B game pl).filter (qB N L game R B pl) := rfl
theorem fil_yes {zs : List Int} {q : Int → Bool} {j : Nat} {z : Int} (h : zs[j]? = some z) (hq : q z = true) : (zs.take (j + 1)).filter q = (zs.take j).filter q ++ [z] := by
  rw [List.take_add_one, h, List.filter_append]
  simp [hq]
theorem fil_no {zs : List Int} {q : Int → Bool} {j : Nat} {z : Int} (h : zs[j]? = some z) (hq : q z = false) : (zs.take (j + 1)).filter q = (zs.take j).filter q := by
  rw [List.take_add_one, h, List.filter_append]
  simp [hq]

set_option maxRecDepth 100000 in
set_option maxHeartbeats 4000000 in
theorem toWin_any (N L game : Int) (ext : List (Nat × Obj)) (hg : 0 ≤ game ∧ game ≤ 1) (bm : Nat) (R B pl : Int) (hok : okT N L R B pl) (W : World) (hK : KnM (lvB N L game) 4 N L ext bm W) :
    Calls Try.prog 65 #[.agg #[.int .i64 N, .int .i64 L, .int .i64 R, .int .i64 B, .int .i64 pl], .agg #[ruleV game, .func (.func 62) #[] #[], .map (some bm)]] W (NewLM bm (KnM (lvB N L game) 4 N L ext bm) (best N L R B game pl) W) := by
  obtain ⟨i0, hi0, hz0, hz1, hz2⟩ := info_parts Try.info2
  have HVA0 : Hid (∀ (R B pl : Int) (V : World), okT N L R B pl → KnM (lvB N L game) 4 N L ext bm V → Calls Try.prog 63 #[.agg #[ruleV game, .func (.func 62) #[] #[], .map (some bm)], .agg #[.int .i64 N, .int .i64 L, .int .i64 R, .int .i64 B, .int .i64 pl]] V (RetK bm (KnM (lvB N L game) 4 N L ext bm) (.bool (win N L R B game pl)) V)) := hide (fun R B pl V hok hk => valueB_any N L game ext hg bm _ R B pl V hok rfl hk)
  obtain ⟨rv, hrv⟩ : ∃ rv, rv = ruleV game := ⟨_, rfl⟩
  have HPO : Hid (∀ V : World, Calls Try.prog 54 #[.agg #[.int .i64 N, .int .i64 L, .int .i64 R, .int .i64 B, .int .i64 pl], rv] V (NewL (pts N L R B game pl) V)) := hide (fun V => by rw [hrv]; exact points_any N L R B game pl hok.1 hg ⟨hok.2.1, hok.2.2⟩ V)
  rw [← hrv] at HVA0 ⊢
  obtain ⟨W0, hW0⟩ : ∃ W0, W0 = (W.alloc (.cells #[.int .i64 N, .int .i64 L, .int .i64 R, .int .i64 B, .int .i64 pl] 64)).alloc (.cells #[rv, .func (.func 62) #[] #[], .map (some bm)] 77) := ⟨_, rfl⟩
  have hB0 : Hid (Below W.heap.size W W0) := by rw [hW0]; exact hide ((below_alloc _ _).alloc (by simp) _)
  have hT0 : Hid (W0.heap[W.heap.size]? = some (.cells #[.int .i64 N, .int .i64 L, .int .i64 R, .int .i64 B, .int .i64 pl] 64 (0, 0))) := by rw [hW0]; exact hide (row_alloc (alloc_row _ _ _) _)
  have hS0 : Hid (W0.heap[W.heap.size + 1]? = some (.cells #[rv, .func (.func 62) #[] #[], .map (some bm)] 77 (0, 0))) := by rw [hW0]; exact hide (alloc_row2 _ _ _ _)
  have hz : Hid (W0.heap.size = W.heap.size + 2) := by rw [hW0]; exact hide (by simp)
  have hbm : bm < W.heap.size := hK.lt
  have HK0 := hide (hK.keep hB0.out)
  have HOT := hide hok
  have HG := hide hg
  obtain ⟨zb, hzb⟩ : ∃ zb, zb = best N L R B game pl := ⟨_, rfl⟩
  rw [← hzb]
  have HZB := hide hzb
  have hN8 := (okF_nums hok.1).2.1
  obtain ⟨f0, f1, f2, _⟩ := row3 hS0.out
  obtain ⟨t0, t1, t2, t3, t4, _⟩ := row5 hT0.out
  clear hK hok hg hrv hzb
  go_enter Try.func65, Try.ntmps65
  go_wp2_with fail
  rw [← hW0]
  clear hW0
  (try go_wp2_with fail)
  refine (HPO.out _).mono ?_
  rintro e w1 ⟨a1, c1, rfl, ho1, hb1⟩
  obtain ⟨zs, hzs⟩ : ∃ zs, zs = pts N L R B game pl := ⟨_, rfl⟩
  rw [← hzs] at ho1 ⊢
  have HZS := hide hzs
  have HI1 := hide (intsAt_of_ownsRow ho1)
  have HFAR : Hid (∀ g off, a1 = some ⟨g, off, none⟩ → g < w1.heap.size ∧ g ≠ bm) := hide (fun g off e => by
    rcases ho1.2 with ⟨hv, _⟩ | ⟨g', cap, cur, hv, hgg, hh, _⟩
    · simp only [Value.slice.injEq] at hv
      rw [e] at hv
      cases hv.1
    · simp only [Value.slice.injEq] at hv
      rw [e] at hv
      have e2 := hv.1
      simp only [Option.some.injEq, Addr.mk.injEq] at e2
      have hlt := (Array.getElem?_eq_some_iff.1 hh).1
      have := hz.out
      omega)
  have hzl : zs.length ≤ 8 := by rw [hzs]; exact pts_le hN8
  have HK1 := hide (HK0.out.keep hb1)
  have hB1 := hide (Below.trans' hB0.out hb1)
  have hS1 := hide (box_keep hS0.out hb1)
  have hT1 := hide (box_keep hT0.out hb1)
  have hs1 : W.heap.size + 2 ≤ w1.heap.size := by have := hb1.size; have := hz.out; omega
  obtain ⟨n, hn⟩ : ∃ n, n = zs.length := ⟨_, rfl⟩
  have HN := hide hn
  rw [← hn] at hzl ⊢
  obtain ⟨q, hq⟩ : ∃ q, q = qB N L game R B pl := ⟨_, rfl⟩
  have HQ := hide hq
  have hO1 : Hid (OwnB w1.heap.size bm w1 w1 (.slice none 0 0) ((zs.take 0).filter q)) := hide (by rw [List.take_zero]; exact OwnB.nil (ButB.refl _ _ _) (Nat.le_refl _))
  clear ho1 hb1 hzs hn hq f0 f1 f2 t0 t1 t2 t3 t4
  obtain ⟨f0, f1, f2, _⟩ := row3 hS1.out
  obtain ⟨t0, t1, t2, t3, t4, _⟩ := row5 hT1.out
  (try go_wp2_with fail)
  go_loopw [5, 13] (fun v5 i wr => ∃ (j : Nat) (v0 : Value), v0 = v5 ∧ j ≤ n ∧ i = .int .i64 j ∧ OwnB w1.heap.size bm w1 wr v5 ((zs.take j).filter q) ∧ KnM (lvB N L game) 4 N L ext bm wr) (fun _ i _ => n - (intOf i).toNat)
  case atStart => exact ⟨0, _, rfl, Nat.zero_le _, rfl, hO1.out, HK1.out⟩
  case round =>
    clear hO1 f0 f1 f2 t0 t1 t2 t3 t4
    obtain ⟨j, v5, rfl, hj, rfl, hO, hKr⟩ := hrel
    have HO := hide hO
    have HKR := hide hKr
    have hSr := hO.old.row hS1.out (by omega) (by omega)
    have hTr := hO.old.row hT1.out (by omega) (by omega)
    by_cases hlt : j < n
    · obtain ⟨b, off, z, rfl, cz, hz⟩ := (hO.old.ints HI1.out HFAR.out).one (k := j) (by rw [← HN.out]; exact hlt)
      have hmem : z ∈ pts N L R B game pl := by rw [← HZS.out]; exact mem_of_get hz.out
      obtain ⟨z0, z1, z2, z3⟩ := pts_mem hmem
      obtain ⟨h1, _, h3⟩ := move_of_pts HOT.out.1 hmem
      obtain ⟨x, hx⟩ : ∃ x, x = win N L (mvR R pl z) (mvB B pl z) game (1 - pl) := ⟨_, rfl⟩
      have hqz : Hid (q z = !x) := hide (by rw [HQ.out, hx]; rfl)
      obtain ⟨p0, p1⟩ := HOT.out.2
      obtain ⟨_, _, _, _, r0, r1, b0, b1⟩ := okF_nums HOT.out.1
      obtain ⟨r, hr⟩ : ∃ r, r = mvR R pl z := ⟨_, rfl⟩
      obtain ⟨bb, hbb⟩ : ∃ bb, bb = mvB B pl z := ⟨_, rfl⟩
      have HAF : Hid (∀ V : World, Calls Try.prog 66 #[.agg #[.int .i64 N, .int .i64 L, .int .i64 R, .int .i64 B, .int .i64 pl], .int .i64 z] V (RetB (.agg #[.int .i64 N, .int .i64 L, .int .i64 r, .int .i64 bb, .int .i64 (1 - pl)]) V)) := hide (fun V => by rw [hr, hbb]; exact after_any N L R B pl z r0 r1 b0 b1 z0 (by omega) p0 p1 V)
      have HVA : Hid (∀ V : World, KnM (lvB N L game) 4 N L ext bm V → Calls Try.prog 63 #[.agg #[rv, .func (.func 62) #[] #[], .map (some bm)], .agg #[.int .i64 N, .int .i64 L, .int .i64 r, .int .i64 bb, .int .i64 (1 - pl)]] V (RetK bm (KnM (lvB N L game) 4 N L ext bm) (.bool x) V)) := hide (fun V hk => by rw [hr, hbb, hx]; exact HVA0.out _ _ _ V ⟨h1, by omega, by omega⟩ hk)
      obtain ⟨f0, f1, f2, _⟩ := row3 hSr
      obtain ⟨t0, t1, t2, t3, t4, _⟩ := row5 hTr
      have g0 : ∀ p : PB bm (KnM (lvB N L game) 4 N L ext bm) wr, p.to.cell? ⟨W.heap.size + 1, 0, none⟩ = some rv := fun p => p.cell f0 (by show W.heap.size + 1 ≠ bm; omega)
      have g1 : ∀ p : PB bm (KnM (lvB N L game) 4 N L ext bm) wr, p.to.cell? ⟨W.heap.size + 1, 1, none⟩ = some (.func (.func 62) #[] #[]) := fun p => p.cell f1 (by show W.heap.size + 1 ≠ bm; omega)
      have g2 : ∀ p : PB bm (KnM (lvB N L game) 4 N L ext bm) wr, p.to.cell? ⟨W.heap.size + 1, 2, none⟩ = some (.map (some bm)) := fun p => p.cell f2 (by show W.heap.size + 1 ≠ bm; omega)
      have q0 : ∀ p : PB bm (KnM (lvB N L game) 4 N L ext bm) wr, p.to.cell? ⟨W.heap.size, 0, none⟩ = some (.int .i64 N) := fun p => p.cell t0 (by show W.heap.size ≠ bm; omega)
      have q1 : ∀ p : PB bm (KnM (lvB N L game) 4 N L ext bm) wr, p.to.cell? ⟨W.heap.size, 1, none⟩ = some (.int .i64 L) := fun p => p.cell t1 (by show W.heap.size ≠ bm; omega)
      have q2 : ∀ p : PB bm (KnM (lvB N L game) 4 N L ext bm) wr, p.to.cell? ⟨W.heap.size, 2, none⟩ = some (.int .i64 R) := fun p => p.cell t2 (by show W.heap.size ≠ bm; omega)
      have q3 : ∀ p : PB bm (KnM (lvB N L game) 4 N L ext bm) wr, p.to.cell? ⟨W.heap.size, 3, none⟩ = some (.int .i64 B) := fun p => p.cell t3 (by show W.heap.size ≠ bm; omega)
      have q4 : ∀ p : PB bm (KnM (lvB N L game) 4 N L ext bm) wr, p.to.cell? ⟨W.heap.size, 4, none⟩ = some (.int .i64 pl) := fun p => p.cell t4 (by show W.heap.size ≠ bm; omega)
      have hlj : ((zs.take j).filter q).length ≤ 8 := by have h1 := List.length_filter_le q (zs.take j); have h2 := List.length_take_le j zs; omega
      clear hO hKr hSr hTr hmem hx hr hbb r0 r1 b0 b1 p0 p1 h1 h3
      go_wp2_with fail
      refine wp_region_pb (bm) (KnM (lvB N L game) 4 N L ext bm) (fun _ _ h k => KnM.keep h k) (by kernel_rfl) (by kernel_rfl) ?_
      repeat (first | fail | go_big_quiet_step ((first | (go_at_call 66; with_reducible exact retB_pb (fun _ _ h k => KnM.keep h k) (HAF.out _)) | (go_at_call 63; with_reducible exact retK_pb (HVA.out _ (PB.inv _ HKR.out))))) | quiet_step ((first | (go_at_call 66; with_reducible exact retB_pb (fun _ _ h k => KnM.keep h k) (HAF.out _)) | (go_at_call 63; with_reducible exact retK_pb (HVA.out _ (PB.inv _ HKR.out))))))
      refine wpQuiet_nil ?_
      rintro _ ⟨pq, rfl⟩
      have hO2 := HO.out.keep (by omega) pq.old
      have HK2 := hide (pq.inv HKR.out)
      have hown2 := hO2.own
      have hsz := hO2.size
      have HO2 := hide hO2
      clear hO2 g0 g1 g2 q0 q1 q2 q3 q4 cz f0 f1 f2 t0 t1 t2 t3 t4
      cases x
      · have hnew := hide (fil_yes (q := q) hz.out (by rw [hqz.out]; rfl))
        go_wp2_with (at_builtin; refine wpList_append_own _ rfl _ _ 33 rfl (w1.heap.size) 2 i0 (.int .i64 0) 1 8 Try.underlying33 hi0 hz0 hz1 hz2 rfl (by decide) _ _ _ rfl (hown2.alloc _) ⟨pq.to.heap.size, 0, none⟩ 1 1 [.int .i64 z] rfl rfl (cell_one_new _ _ _) (by simp [Value.oneCell']) (by unfold maxLen; omega) (by omega) (by simp; omega) ?_)
        intro v' w7 hown' hgrow _
        have HO7 := hide (HO2.out.snoc (by simpa using hown') hgrow)
        have HK7 := hide (HK2.out.turn (HO2.out.blockOf (by omega) (by have := HK2.out.lt; exact this) hgrow) (fun p hp => blockB (HO2.out) (by have h1 := (HK1.out.2 p hp).2; exact (Array.getElem?_eq_some_iff.1 h1).1) (Array.getElem?_eq_some_iff.1 (HK2.out.2 p hp).2).1 hgrow))
        clear hown' hgrow hown2
        go_wp2_with fail
        go_roundw
        case rel => exact ⟨j + 1, _, rfl, by omega, by go_num, by rw [hnew.out]; exact HO7.out, HK7.out⟩
        case measure => simp [intOf]; omega
      · have hnew := hide (fil_no (q := q) hz.out (by rw [hqz.out]; rfl))
        go_wp2_with fail
        go_roundw
        case rel => exact ⟨j + 1, _, rfl, by omega, by go_num, by rw [hnew.out]; exact HO2.out, HK2.out⟩
        case measure => simp [intOf]; omega
    · obtain rfl : j = n := by omega
      rw [show zs.take j = zs by rw [HN.out, List.take_length]] at hO
      have HFIN : Hid (NewLM bm (KnM (lvB N L game) 4 N L ext bm) zb W (.returned v5) wr) := hide ⟨by rw [HZB.out, best_q, ← HZS.out, ← HQ.out]; exact hO.list (But.of_below hB1.out) (by omega), HKR.out⟩
      clear hO hKr hSr hTr
      go_wp2_with fail
      go_ret
      exact HFIN.out
end Go.Proofs.Ytdimmlpnfghndaa
