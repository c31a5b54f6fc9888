/-
  Ends of dots and boxes: values and best openings beside the map of values, the program's text.
-/
import Derived.Test.YtbfpbkbhikogiabSv
namespace Go.Proofs.Ytbfpbkbhikogiab
open Go.RowKit Go.Maps
set_option linter.unusedVariables false

theorem knd_nat (p : Nat) : knd p = ((p / 31 : Nat) : Int) := rfl
theorem bxs_nat (p : Nat) : bxs p = ((p % 31 : Nat) : Int) := rfl
theorem place_of (p : Nat) : p / 31 * 31 + p % 31 = p := by omega

set_option maxRecDepth 100000 in
set_option maxHeartbeats 2000000 in
theorem taken_any (bm : Nat) (l : List Nat) (p : Nat) (hl : okT l) (hp : p < 62) (h0 : 0 < tg l p) (W : World) (hK : KnowsT bm W) (x T : Int)
    (hA : ∀ W', KnowsT bm W' → Calls Try.prog 29 #[.agg #[.map (some bm)], .agg #[.int .i64 (knd p), .int .i64 (bxs p)], .agg (tc (decT l p))] W' (RetK bm (KnowsT bm) (.tuple #[.int .i64 x, .int .i64 T]) W')) :
    Calls Try.prog 23 #[.agg #[.map (some bm)], .agg (tc l), .agg #[.int .i64 (knd p), .int .i64 (bxs p)]] W (RetK bm (KnowsT bm) (.int .i64 T) W) := by
  have hwo : ∀ V : World, Calls Try.prog 30 #[.agg (tc l), .agg #[.int .i64 (knd p), .int .i64 (bxs p)]] V (RetB (.agg (tc (decT l p))) V) := fun V => by
    have h := takeOne_any l hl (p / 31) (p % 31) (by omega) (by omega) (by rw [place_of]; exact h0) V
    rw [place_of] at h
    exact h
  obtain ⟨k, hk⟩ : ∃ k, k = knd p := ⟨_, rfl⟩
  obtain ⟨b, hb⟩ : ∃ b, b = bxs p := ⟨_, rfl⟩
  obtain ⟨m, hm⟩ : ∃ m, m = decT l p := ⟨_, rfl⟩
  rw [← hk, ← hb, ← hm] at hwo hA
  rw [← hk, ← hb]
  have HWO := hide hwo
  have HA := hide hA
  have HOT := hide hl
  clear hwo hA hk hb hm hl
  obtain ⟨W0, hW0⟩ : ∃ W0, W0 = ((W.alloc (.cells #[.map (some bm)] 36)).alloc (.cells (tc l) 41)).alloc (.cells #[.int .i64 k, .int .i64 b] 55) := ⟨_, rfl⟩
  have hB0 : Hid (Below W.heap.size W W0) := by rw [hW0]; exact hide (((below_alloc _ _).alloc (by simp) _).alloc (by simp; omega) _)
  have r1 : W0.heap[W.heap.size]? = some (.cells #[.map (some bm)] 36 (0, 0)) := by
    rw [hW0, Below.heap_alloc _ _ _ (by simp; omega), Below.heap_alloc _ _ _ (by simp)]
    exact heap_alloc_new W _
  have r2 : TallyIn W0 (W.heap.size + 1) l := by
    have := TallyIn.new (W.alloc (.cells #[.map (some bm)] 36)) l
    rw [hW0]
    exact TallyIn.keep (by simpa using this) (below_alloc _ _)
  have r3 : W0.heap[W.heap.size + 1 + 1]? = some (.cells #[.int .i64 k, .int .i64 b] 55 (0, 0)) := by
    have := heap_alloc_new ((W.alloc (.cells #[.map (some bm)] 36)).alloc (.cells (tc l) 41)) (.cells #[.int .i64 k, .int .i64 b] 55 (0, 0))
    rw [hW0]
    simpa using this
  have hbm : bm < W.heap.size := hK.lt
  have K0 := hide (hK.keep hB0.out)
  have s0 : ∀ q : PB bm (KnowsT bm) W0, q.to.cell? ⟨W.heap.size, 0, none⟩ = some (.map (some bm)) := fun q => q.cell ((cell_of_row _ _ 0 _ _ (0, 0) r1).trans rfl) (by show W.heap.size ≠ bm; omega)
  obtain ⟨d0, d1, _⟩ := row2' r3
  have e0 : ∀ q : PB bm (KnowsT bm) W0, q.to.cell? ⟨W.heap.size + 1 + 1, 0, none⟩ = some (.int .i64 k) := fun q => q.cell d0 (by show W.heap.size + 1 + 1 ≠ bm; omega)
  have e1 : ∀ q : PB bm (KnowsT bm) W0, q.to.cell? ⟨W.heap.size + 1 + 1, 1, none⟩ = some (.int .i64 b) := fun q => q.cell d1 (by show W.heap.size + 1 + 1 ≠ bm; omega)
  have hTl : Hid (∀ w, (∃ q : PB bm (KnowsT bm) W0, w = q.to) → (Instr.loadAt 41 (.pointer (some ⟨W.heap.size + 1, 0, none⟩))).run Try.prog w = .ok (.agg (tc l)) w) := hide (fun w ⟨q, hq⟩ => by
    rw [hq]
    exact TallyIn.load (q.row r2 (by show W.heap.size + 1 ≠ bm; omega)) HOT.out.1)
  clear hK r1 r2 r3 d0 d1
  go_enter Try.func23, Try.ntmps23
  go_wp2_with fail
  rw [← hW0]
  clear hW0
  refine wp_region_pb (bm) (KnowsT (bm)) (fun _ _ h k => KnowsT.keep h k) (by kernel_rfl) (by kernel_rfl) ?_
  repeat (first | (go_big_quiet_want; refine quiet_load 41 _ rfl _ _ rfl hTl.out ?_; go_simp; go_big_quiet_on) | go_big_quiet_step ((first | (go_at_call 30; with_reducible exact retB_pb (fun _ _ h k => KnowsT.keep h k) (HWO.out _)) | (go_at_call 29; exact retK_pb (HA.out _ (PB.inv _ K0.out))))) | quiet_step ((first | (go_at_call 30; with_reducible exact retB_pb (fun _ _ h k => KnowsT.keep h k) (HWO.out _)) | (go_at_call 29; exact retK_pb (HA.out _ (PB.inv _ K0.out))))))
  refine wpQuiet_nil ?_
  rintro _ ⟨pq, rfl⟩
  have hfin := hide (And.intro ((But.of_below hB0.out).trans pq.old) (pq.inv K0.out))
  clear s0 e0 e1
  go_wp2_with fail
  go_ret
  exact ⟨rfl, hfin.out⟩

set_option maxRecDepth 100000 in
set_option maxHeartbeats 2000000 in
/-- The closure that compares two openings. -/
theorem cmpO_any (bm B2 B3 : Nat) (l : List Nat) (hl : okT l) (kx bx ky y : Int) (Tx Ty : Int) (W : World) (hK : KnowsT bm W)
    (h2 : W.heap[B2]? = some (.cells #[.map (some bm)] 36 (0, 0))) (h3 : TallyIn W B3 l)
    (hX : ∀ W', KnowsT bm W' → Calls Try.prog 23 #[.agg #[.map (some bm)], .agg (tc l), .agg #[.int .i64 kx, .int .i64 bx]] W' (RetK bm (KnowsT bm) (.int .i64 Tx) W'))
    (hY : ∀ W', KnowsT bm W' → Calls Try.prog 23 #[.agg #[.map (some bm)], .agg (tc l), .agg #[.int .i64 ky, .int .i64 y]] W' (RetK bm (KnowsT bm) (.int .i64 Ty) W')) :
    Calls Try.prog 33 #[.agg #[.int .i64 kx, .int .i64 bx], .agg #[.int .i64 ky, .int .i64 y], .pointer (some ⟨B2, 0, none⟩), .pointer (some ⟨B3, 0, none⟩)] W (RetK bm (KnowsT bm) (.int .i64 (cmpI Tx Ty)) W) := by
  obtain ⟨W0, hW0⟩ : ∃ W0, W0 = (W.alloc (.cells #[.int .i64 kx, .int .i64 bx] 55)).alloc (.cells #[.int .i64 ky, .int .i64 y] 55) := ⟨_, rfl⟩
  have hB0 : Hid (Below W.heap.size W W0) := by rw [hW0]; exact hide ((below_alloc _ _).alloc (by simp) _)
  have r1 : W0.heap[W.heap.size]? = some (.cells #[.int .i64 kx, .int .i64 bx] 55 (0, 0)) := by
    rw [hW0, Below.heap_alloc _ _ _ (by simp)]
    exact heap_alloc_new W _
  have r3 : W0.heap[W.heap.size + 1]? = some (.cells #[.int .i64 ky, .int .i64 y] 55 (0, 0)) := by
    have := heap_alloc_new (W.alloc (.cells #[.int .i64 kx, .int .i64 bx] 55)) (.cells #[.int .i64 ky, .int .i64 y] 55 (0, 0))
    rw [hW0]
    simpa using this
  have hbm : bm < W.heap.size := hK.lt
  have hn2 := knows_row hK h2
  have hn3 := knows_row hK h3
  have r2 := box_keep h2 hB0.out
  have r4 := h3.keep hB0.out
  have K0 := hide (hK.keep hB0.out)
  have s0 : ∀ q : PB bm (KnowsT bm) W0, q.to.cell? ⟨B2, 0, none⟩ = some (.map (some bm)) := fun q => q.cell ((cell_of_row _ _ 0 _ _ (0, 0) r2).trans rfl) hn2
  obtain ⟨d0, d1, _⟩ := row2' r1
  have e0 : ∀ q : PB bm (KnowsT bm) W0, q.to.cell? ⟨W.heap.size, 0, none⟩ = some (.int .i64 kx) := fun q => q.cell d0 (by show W.heap.size ≠ bm; omega)
  have e1 : ∀ q : PB bm (KnowsT bm) W0, q.to.cell? ⟨W.heap.size, 1, none⟩ = some (.int .i64 bx) := fun q => q.cell d1 (by show W.heap.size ≠ bm; omega)
  obtain ⟨d2, d3, _⟩ := row2' r3
  have e2 : ∀ q : PB bm (KnowsT bm) W0, q.to.cell? ⟨W.heap.size + 1, 0, none⟩ = some (.int .i64 ky) := fun q => q.cell d2 (by show W.heap.size + 1 ≠ bm; omega)
  have e3 : ∀ q : PB bm (KnowsT bm) W0, q.to.cell? ⟨W.heap.size + 1, 1, none⟩ = some (.int .i64 y) := fun q => q.cell d3 (by show W.heap.size + 1 ≠ bm; omega)
  have hTl : Hid (∀ w, (∃ q : PB bm (KnowsT bm) W0, w = q.to) → (Instr.loadAt 41 (.pointer (some ⟨B3, 0, none⟩))).run Try.prog w = .ok (.agg (tc l)) w) := hide (fun w ⟨q, hq⟩ => by
    rw [hq]
    exact TallyIn.load (q.row r4 hn3) hl.1)
  have HX := hide hX
  have HY := hide hY
  have hcp : Hid (∀ V : World, Calls Try.prog 19 #[.int .i64 Tx, .int .i64 Ty] V (RetB (.int .i64 (cmpI Tx Ty)) V)) := hide (fun V => compare_any Tx Ty V)
  obtain ⟨q, hq⟩ : ∃ q, q = cmpI Tx Ty := ⟨_, rfl⟩
  rw [← hq] at hcp ⊢
  clear hK h2 h3 r1 r2 r3 r4 d0 d1 d2 d3 hX hY hq
  go_enter Try.func33, Try.ntmps33
  go_wp2_with fail
  rw [← hW0]
  clear hW0
  refine wp_region_pb (bm) (KnowsT (bm)) (fun _ _ h k => KnowsT.keep h k) (by kernel_rfl) (by kernel_rfl) ?_
  repeat (first | (go_big_quiet_want; refine quiet_load 41 _ rfl _ _ rfl hTl.out ?_; go_simp; go_big_quiet_on) | go_big_quiet_step ((first | (go_at_call 23; (first | with_reducible exact retK_pb (HX.out _ (PB.inv _ K0.out)) | with_reducible exact retK_pb (HY.out _ (PB.inv _ K0.out)))) | (go_at_call 19; with_reducible exact retB_pb (fun _ _ h k => KnowsT.keep h k) (hcp.out _)))) | quiet_step ((first | (go_at_call 23; (first | with_reducible exact retK_pb (HX.out _ (PB.inv _ K0.out)) | with_reducible exact retK_pb (HY.out _ (PB.inv _ K0.out)))) | (go_at_call 19; with_reducible exact retB_pb (fun _ _ h k => KnowsT.keep h k) (hcp.out _)))))
  refine wpQuiet_nil ?_
  rintro _ ⟨pq, rfl⟩
  have hfin := hide (And.intro ((But.of_below hB0.out).trans pq.old) (pq.inv K0.out))
  clear s0 e0 e1 e2 e3
  go_wp2_with fail
  go_ret
  exact ⟨rfl, hfin.out⟩

/-- What takenBehind does at the places of a tally. -/
def TakenAt (bm : Nat) (l : List Nat) : Prop := ∀ (p : Nat) (W : World), p < 62 → 0 < tg l p → KnowsT bm W → Calls Try.prog 23 #[.agg #[.map (some bm)], .agg (tc l), .agg #[.int .i64 (knd p), .int .i64 (bxs p)]] W (RetK bm (KnowsT bm) (.int .i64 (tkT l p)) W)

set_option maxRecDepth 100000 in
set_option maxHeartbeats 2000000 in
theorem bestO_any (bm : Nat) (l : List Nat) (hl : okT l) (hs : 0 < l.sum) (W : World) (hK : KnowsT bm W) (hT : TakenAt bm l) :
    Calls Try.prog 24 #[.agg #[.map (some bm)], .agg (tc l)] W (RetK bm (KnowsT bm) (.agg #[.int .i64 (knd (opT l)), .int .i64 (bxs (opT l))]) W) := by
  have hbst := bst_op hl.1 hs
  have hne := plc_ne hl.1 hs
  have hpl : (plc l).length ≤ 62 := Nat.le_trans (List.length_filter_le _ _) (by simp)
  obtain ⟨W0, hW0⟩ : ∃ W0, W0 = ((W.alloc (.cells #[.map (some bm)] 36)).alloc (.cells (tc l) 41)).alloc (.cells #[.int .i64 0, .int .i64 0] 55) := ⟨_, rfl⟩
  have hB0 : Hid (Below W.heap.size W W0) := by rw [hW0]; exact hide (((below_alloc _ _).alloc (by simp) _).alloc (by simp; omega) _)
  have hs0 : W0.heap.size = W.heap.size + 3 := by rw [hW0]; simp
  have r1 : Hid (W0.heap[W.heap.size]? = some (.cells #[.map (some bm)] 36 (0, 0))) := hide (by
    rw [hW0, Below.heap_alloc _ _ _ (by simp; omega), Below.heap_alloc _ _ _ (by simp)]
    exact heap_alloc_new W _)
  have r2 : Hid (TallyIn W0 (W.heap.size + 1) l) := hide (by
    have := TallyIn.new (W.alloc (.cells #[.map (some bm)] 36)) l
    rw [hW0]
    exact TallyIn.keep (by simpa using this) (below_alloc _ _))
  have r2' : Hid (((((W.alloc (.cells #[.map (some bm)] 36)).alloc (.cells (tc l) 41)).alloc (.cells #[.int .i64 0, .int .i64 0] 55)).heap[W.heap.size + 1]? = some (.cells (tc l) 41 (0, 0)))) := hide (by have := r2.out; rw [hW0] at this; exact this)
  have r3 : Hid (W0.heap[W.heap.size + 1 + 1]? = some (.cells #[.int .i64 0, .int .i64 0] 55 (0, 0))) := hide (by
    have := heap_alloc_new ((W.alloc (.cells #[.map (some bm)] 36)).alloc (.cells (tc l) 41)) (.cells #[.int .i64 0, .int .i64 0] 55 (0, 0))
    rw [hW0]
    simpa using this)
  have hsz : Hid (((Try.prog).info? 41).map (·.size) = some (tc l).size) := hide (by rw [tc_size, hl.1]; exact tInfo)
  have hbm : bm < W.heap.size := hK.lt
  have K0 := hide (hK.keep hB0.out)
  have HOT := hide hl
  have HT := hide hT
  have HBST := hide hbst
  have HNE : Hid (0 < (plc l).length) := hide (List.length_pos_iff.2 hne)
  clear hK hl hs hT hbst hne
  go_enter Try.func24, Try.ntmps24
  go_wp2_with (refine wpList_load_row rfl 41 (.tmp 3) rfl (W.heap.size + 1) rfl 41 (tc l) (0, 0) _ r2'.out tUnder rfl hsz.out ?_)
  rw [← hW0]
  clear hW0 r2'
  (try go_wp2_with fail)
  refine (openings_any l HOT.out _).mono ?_
  rintro e w1 ⟨a, c, rfl, ho, hb1⟩
  rw [List.length_map]
  have hS1 := hide (sliceS_of_own ho)
  have K1 := hide (K0.out.keep hb1)
  have r11 := hide (box_keep r1.out hb1)
  have r21 := hide (r2.out.keep hb1)
  have r31 := hide (box_keep r3.out hb1)
  have hB1 := hide (Below.trans' hB0.out hb1)
  clear ho hb1
  go_wp2_with fail
  refine (minS_any bm W.heap.size (W.heap.size + 1) (tkT l) (plc l) a c _ hS1.out HNE.out hpl K1.out (fun x hx y hy W' hb' hk' => ?_)).mono ?_
  · obtain ⟨x1, x2⟩ := plc_mem.1 hx
    obtain ⟨y1, y2⟩ := plc_mem.1 hy
    exact cmpO_any bm _ _ l HOT.out _ _ _ _ _ _ W' hk' (hb'.row r11.out (by omega)) (hb'.row r21.out (by omega)) (fun W'' hk'' => HT.out x W'' x1 x2 hk'') (fun W'' hk'' => HT.out y W'' y1 y2 hk'')
  rintro e w2 ⟨m, rfl, hbm2, hb2, hk2⟩
  have hmo : m = opT l := by have h1 := HBST.out; rw [hbm2] at h1; exact Option.some.inj h1
  subst hmo
  have r32 := hb2.row r31.out (by omega)
  obtain ⟨k, hk⟩ : ∃ k, k = knd (opT l) := ⟨_, rfl⟩
  obtain ⟨b, hb⟩ : ∃ b, b = bxs (opT l) := ⟨_, rfl⟩
  rw [← hk, ← hb]
  have hfin : Hid (But bm W ((w2.setCell ⟨W.heap.size + 1 + 1, 0, none⟩ (.int .i64 k)).setCell ⟨W.heap.size + 1 + 1, 1, none⟩ (.int .i64 b)) ∧ KnowsT bm ((w2.setCell ⟨W.heap.size + 1 + 1, 0, none⟩ (.int .i64 k)).setCell ⟨W.heap.size + 1 + 1, 1, none⟩ (.int .i64 b))) := hide
    ⟨(((But.of_below hB1.out).trans hb2).setNew (by omega) _ _).setNew (by omega) _ _, hk2.block ((Below.heap_setCell _ _ _ _ (by show bm ≠ W.heap.size + 1 + 1; omega)).trans (Below.heap_setCell _ _ _ _ (by show bm ≠ W.heap.size + 1 + 1; omega)))⟩
  have hr4 := hide (box_set2' (x' := .int .i64 k) (y' := .int .i64 b) r32)
  have HKB := hide (And.intro hk hb)
  obtain ⟨d0, d1, f0, f1⟩ := row2' r32
  clear hbm2 hb2 hk2 r32 hk hb
  go_wp2_with fail
  obtain ⟨j0, j1, _⟩ := row2' hr4.out
  exact bodyPost_ret (v := .agg #[.int .i64 k, .int .i64 b]) (by simp [results, Try.results24, go_sem, j0, j1]) rfl ⟨by rw [HKB.out.1, HKB.out.2], hfin.out⟩

set_option maxRecDepth 100000 in
set_option maxHeartbeats 4000000 in
theorem implValue_walk (bm : Nat) (l : List Nat) (hl : okT l) (W : World) (hK : KnowsT bm W) (hT : TakenAt bm l) :
    Calls Try.prog 14 #[.agg #[.map (some bm)], .agg (tc l)] W (RetK bm (KnowsT bm) (.int .i64 (vT l)) W) := by
  obtain ⟨W0, hW0⟩ : ∃ W0, W0 = (W.alloc (.cells #[.map (some bm)] 36)).alloc (.cells (tc l) 41) := ⟨_, rfl⟩
  have hB0 : Hid (Below W.heap.size W W0) := by rw [hW0]; exact hide ((below_alloc _ _).alloc (by simp) _)
  have r1 : Hid (W0.heap[W.heap.size]? = some (.cells #[.map (some bm)] 36 (0, 0))) := hide (by
    rw [hW0, Below.heap_alloc _ _ _ (by simp)]
    exact heap_alloc_new W _)
  have r2 : Hid (TallyIn W0 (W.heap.size + 1) l) := hide (by
    have := TallyIn.new (W.alloc (.cells #[.map (some bm)] 36)) l
    rw [hW0]
    simpa using this)
  have r2' : Hid (((W.alloc (.cells #[.map (some bm)] 36)).alloc (.cells (tc l) 41)).heap[W.heap.size + 1]? = some (.cells (tc l) 41 (0, 0))) := hide (by have := r2.out; rw [hW0] at this; exact this)
  have hsz : Hid (((Try.prog).info? 41).map (·.size) = some (tc l).size) := hide (by rw [tc_size, hl.1]; exact tInfo)
  have hbm : bm < W.heap.size := hK.lt
  have K0 := hide (hK.keep hB0.out)
  obtain ⟨v, hv⟩ : ∃ v, v = vT l := ⟨_, rfl⟩
  have hvb := hl.bd
  rw [← hv] at hvb ⊢
  obtain ⟨v1, v2⟩ := hvb
  have HV := hide hv
  have HOT := hide hl
  have HT := hide hT
  obtain ⟨kl, hkl⟩ := tally_key l hl
  have HKL := hide hkl
  clear hK hl hT hv hkl
  by_cases hsum : l.sum = 0
  · have hd : Hid (decide (l.sum = 0) = true) := hide (by simp [hsum])
    have hv0 : Hid (v = 0) := hide (by rw [HV.out, vT_over hsum])
    clear hsum
    go_enter Try.func14, Try.ntmps14
    go_wp2_with (refine wpList_load_row rfl 41 (.tmp 3) rfl (W.heap.size + 1) rfl 41 (tc l) (0, 0) _ r2'.out tUnder rfl hsz.out ?_)
    rw [← hW0]
    clear hW0 r2'
    (try go_wp2_with fail)
    refine (isOver_any l HOT.out _).mono ?_
    rw [hd.out]
    rintro e w1 ⟨rfl, hb1⟩
    have hfin := hide (And.intro (But.of_below (n := bm) (Below.trans' hB0.out hb1)) (K0.out.keep hb1))
    clear hb1
    go_wp2_with fail
    go_ret
    exact ⟨by rw [hv0.out]; rfl, hfin.out⟩
  · have hd : Hid (decide (l.sum = 0) = false) := hide (by simp [hsum])
    have hpos : Hid (0 < l.sum) := hide (by omega)
    have hst : Hid (v = -tkT l (opT l)) := hide (by rw [HV.out, vT_step HOT.out.1 hpos.out])
    clear hsum
    go_enter Try.func14, Try.ntmps14
    go_wp2_with (refine wpList_load_row rfl 41 (.tmp 3) rfl (W.heap.size + 1) rfl 41 (tc l) (0, 0) _ r2'.out tUnder rfl hsz.out ?_)
    rw [← hW0]
    clear hW0 r2'
    (try go_wp2_with fail)
    refine (isOver_any l HOT.out _).mono ?_
    rw [hd.out]
    rintro e w1 ⟨rfl, hb1⟩
    have K1 := K0.out.keep hb1
    have r11 := hide (box_keep r1.out hb1)
    have r21 := hide (r2.out.keep hb1)
    have hB1 := hide (Below.trans' hB0.out hb1)
    have HK1 := hide K1
    obtain ⟨D, hown, hD⟩ := K1.room
    have HD := hide hD
    have s0 : w1.cell? ⟨W.heap.size, 0, none⟩ = some (.map (some bm)) := (cell_of_row _ _ 0 _ _ (0, 0) r11.out).trans rfl
    clear hb1 K1 hD
    cases hh : has D kl
    · have HH := hide hh
      clear hh
      go_wp2_with (first | (refine wpList_load_row rfl 41 (.tmp 3) rfl (W.heap.size + 1) rfl 41 (tc l) (0, 0) _ r21.out tUnder rfl hsz.out ?_) | (at_lookup; refine wpList_lookup_own_ok_int _ rfl _ _ 34 rfl 41 2 .i64 tallyKeyed Try.underlying34 Try.underlying2 (zeroE _) bm 248155780267521 D rfl hown _ kl rfl HKL.out ?_; intro cc hat hwc; rw [HH.out]))
      clear hat hwc
      have s1 : ∀ q : PB bm (KnowsT bm) w1, q.to.cell? ⟨W.heap.size, 0, none⟩ = some (.map (some bm)) := fun q => q.cell s0 (by show W.heap.size ≠ bm; omega)
      have hTl : Hid (∀ w, (∃ q : PB bm (KnowsT bm) w1, w = q.to) → (Instr.loadAt 41 (.pointer (some ⟨W.heap.size + 1, 0, none⟩))).run Try.prog w = .ok (.agg (tc l)) w) := hide (fun w ⟨q, hq⟩ => by
        rw [hq]
        exact TallyIn.load (q.row r21.out (by show W.heap.size + 1 ≠ bm; omega)) HOT.out.1)
      have hop := op_mem HOT.out.1 hpos.out
      obtain ⟨T, hT⟩ : ∃ T, T = tkT l (opT l) := ⟨_, rfl⟩
      have htb := HOT.out.tk hop.1 hop.2
      have hbo : Hid (∀ V : World, KnowsT bm V → Calls Try.prog 24 #[.agg #[.map (some bm)], .agg (tc l)] V (RetK bm (KnowsT bm) (.agg #[.int .i64 (knd (opT l)), .int .i64 (bxs (opT l))]) V)) := hide (fun V hk => bestO_any bm l HOT.out hpos.out V hk HT.out)
      have htk : Hid (∀ V : World, KnowsT bm V → Calls Try.prog 23 #[.agg #[.map (some bm)], .agg (tc l), .agg #[.int .i64 (knd (opT l)), .int .i64 (bxs (opT l))]] V (RetK bm (KnowsT bm) (.int .i64 (tkT l (opT l))) V)) := hide (fun V hk => HT.out _ V hop.1 hop.2 hk)
      obtain ⟨k, hk⟩ : ∃ k, k = knd (opT l) := ⟨_, rfl⟩
      obtain ⟨b, hb⟩ : ∃ b, b = bxs (opT l) := ⟨_, rfl⟩
      rw [← hk, ← hb] at hbo htk
      rw [← hT] at htk hst htb
      obtain ⟨t1, t2⟩ := htb
      clear hop hT hk hb hown s0
      refine wp_region_pb (bm) (KnowsT (bm)) (fun _ _ h k => KnowsT.keep h k) (by kernel_rfl) (by kernel_rfl) ?_
      repeat (first | (go_big_quiet_want; refine quiet_load 41 _ rfl _ _ rfl hTl.out ?_; go_simp; go_big_quiet_on) | go_big_quiet_step ((first | (go_at_call 24; with_reducible exact retK_pb (hbo.out _ (PB.inv _ HK1.out))) | (go_at_call 23; with_reducible exact retK_pb (htk.out _ (PB.inv _ HK1.out))))) | quiet_step ((first | (go_at_call 24; with_reducible exact retK_pb (hbo.out _ (PB.inv _ HK1.out))) | (go_at_call 23; with_reducible exact retK_pb (htk.out _ (PB.inv _ HK1.out))))))
      refine wpQuiet_nil ?_
      rintro _ ⟨pq, rfl⟩
      have K2 := pq.inv HK1.out
      obtain ⟨D2, hown2, hD2⟩ := K2.room
      have HD2 := hide hD2
      have r22 := hide (pq.row r21.out (by show W.heap.size + 1 ≠ bm; omega))
      have s2 := s1 pq
      have HB2 := hide ((But.of_below hB1.out).trans pq.old)
      have hmap := hide hown2.isMap
      have hwf : (Lit.int .i64 (-T)).wf = true := WalkArith.wf_i64 (by omega)
      clear K2 hD2 s1
      go_wp2_with (first | (refine wpList_load_row rfl 41 (.tmp 3) rfl (W.heap.size + 1) rfl 41 (tc l) (0, 0) _ r22.out tUnder rfl hsz.out ?_) | (at_mapUpdate; refine wpList_mapUpdate_own _ rfl _ _ _ 34 rfl 41 2 tallyKeyed Try.underlying34 (plainElem Try.prog 2) bm 248155780267521 D2 rfl hown2 (by unfold maxLen; omega) _ _ kl rfl rfl HKL.out (.lit (.int .i64 (-T))) [] (plainElem_int Try.underlying2 hwf) ?_; intro w4 hown4 hgrow4))
      have hfin : Hid (RetK bm (KnowsT bm) (.int .i64 v) W (.returned (.int .i64 (-T))) w4) := hide ⟨by rw [hst.out], HB2.out.trans (But.of_grown hgrow4), ⟨_, _, hown4, by have := HD2.out.put hmap.out HOT.out HKL.out; rw [← HV.out, hst.out] at this; exact this⟩⟩
      clear hown4 hgrow4 s2
      go_wp2_with fail
      go_ret
      exact hfin.out
    · have HH := hide hh
      clear hh
      go_wp2_with (first | (refine wpList_load_row rfl 41 (.tmp 3) rfl (W.heap.size + 1) rfl 41 (tc l) (0, 0) _ r21.out tUnder rfl hsz.out ?_) | (at_lookup; refine wpList_lookup_own_ok_int _ rfl _ _ 34 rfl 41 2 .i64 tallyKeyed Try.underlying34 Try.underlying2 (zeroE _) bm 248155780267521 D rfl hown _ kl rfl HKL.out ?_; intro cc hat hwc; rw [HH.out]))
      have hcc : Hid (cc = v) := hide (by
        have h1 := HD.out.vals l kl HOT.out HKL.out HH.out (.lit (.int .i64 0))
        rw [hat, ← HV.out] at h1
        simpa using h1)
      have hfin := hide (And.intro (But.of_below (n := bm) hB1.out) HK1.out)
      clear hat hwc hown s0
      go_ret
      exact ⟨by rw [hcc.out]; rfl, hfin.out⟩

/-- The values of all tallies of n strands. -/
theorem implValue_any (bm : Nat) : ∀ (n : Nat) (l : List Nat) (W : World), okT l → l.sum = n → KnowsT bm W → TakenAt bm l ∧ Calls Try.prog 14 #[.agg #[.map (some bm)], .agg (tc l)] W (RetK bm (KnowsT bm) (.int .i64 (vT l)) W) := by
  intro n
  induction n with
  | zero =>
    intro l W hl hs hK
    have hT : TakenAt bm l := fun p W' _ h0 _ => by have := tg_le l p; omega
    exact ⟨hT, implValue_walk bm l hl W hK hT⟩
  | succ n ih =>
    intro l W hl hs hK
    have hT : TakenAt bm l := fun p W' hp h0 hk => by
      have h1 := sum_dec l p h0
      have h2 := hl.dec p h0
      obtain ⟨k1, k2, k3, k4, _⟩ := knd_bd hp
      have hb := h2.bd
      refine taken_any bm l p hl hp h0 W' hk (ixA (knd p) (bxs p) (vT (decT l p))) (tkT l p) (fun W'' hk'' => ?_)
      exact bestAns_any bm (knd p) (bxs p) (vT (decT l p)) (decT l p) (by omega) k3 k4 h2 hb.1 hb.2 W'' hk'' (fun W3 hk3 => (ih _ W3 h2 (by omega) hk3).2)
    exact ⟨hT, implValue_walk bm l hl W hK hT⟩
end Go.Proofs.Ytbfpbkbhikogiab
