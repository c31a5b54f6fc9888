/-
  Ends of dots and boxes: the best answer beside the map of values, the program's text.
-/
import Derived.Test.YtbfpbkbhikogiabMx
import Derived.Test.YtbfpbkbhikogiabPm
namespace Go.Proofs.Ytbfpbkbhikogiab
open Go.RowKit Go.Maps
set_option linter.unusedVariables false

/-- What the answers bring. -/
def ansL (k b v : Int) : List Int := if spOpen (k, b) = true then [b + v, b - 2 * leftOf k - v] else [b + v]
theorem ansL_len (k b v : Int) : (ansL k b v).length = nAns k b := by unfold ansL nAns; split <;> rfl
theorem ansL_0 (k b v : Int) : (ansL k b v)[0]? = some (b + v) := by unfold ansL; split <;> rfl
theorem ansL_1 {k b v : Int} (h : spOpen (k, b) = true) : (ansL k b v)[1]? = some (b - 2 * leftOf k - v) := by unfold ansL; rw [if_pos h]; rfl
def ixA (k b v : Int) : Int := if (ansB k b v).2 = true then 1 else 0
theorem ansL_mx (k b v : Int) : mx (ansL k b v) = (ansB k b v).1 := by
  unfold ansL ansB
  by_cases h : spOpen (k, b) = true
  · simp only [h, if_true, true_and, mx, List.foldl_cons, List.foldl_nil]
    by_cases h2 : b + v < b - 2 * leftOf k - v
    · rw [if_pos h2, if_pos h2]
    · rw [if_neg h2, if_neg h2]
  · simp [h, mx]
theorem ansL_ix (k b v : Int) : ixI (ansL k b v) (ansB k b v).1 0 = ixA k b v := by
  unfold ansL ansB ixA ansB
  by_cases h : spOpen (k, b) = true
  · simp only [h, if_true, true_and]
    by_cases h2 : b + v < b - 2 * leftOf k - v
    · have hne : ¬ b - 2 * leftOf k - v = b + v := by omega
      simp [h2, ixI, hne]
    · simp [h2, ixI]
  · simp [h, ixI]

set_option maxRecDepth 100000 in
set_option maxHeartbeats 4000000 in
theorem bestAns_any (bm : Nat) (k b v : Int) (l : List Nat) (hk : k = 0 ∨ k = 1) (hb0 : 0 ≤ b) (hb1 : b ≤ 30) (hl : okT l) (hv0 : -320 ≤ v) (hv1 : v ≤ 320) (W : World) (hK : KnowsT bm W)
    (hV : ∀ W', KnowsT bm W' → Calls Try.prog 14 #[.agg #[.map (some bm)], .agg (tc l)] W' (RetK bm (KnowsT bm) (.int .i64 v) W')) :
    Calls Try.prog 29 #[.agg #[.map (some bm)], .agg #[.int .i64 k, .int .i64 b], .agg (tc l)] W (RetK bm (KnowsT bm) (.tuple #[.int .i64 (ixA k b v), .int .i64 (ansB k b v).1]) W) := by
  obtain ⟨i0, hi0, hz0, hz1, hz2⟩ := info_parts Try.info2
  obtain ⟨zs, hzs⟩ : ∃ zs, zs = ansL k b v := ⟨_, rfl⟩
  obtain ⟨M, hM⟩ : ∃ M, M = (ansB k b v).1 := ⟨_, rfl⟩
  obtain ⟨I, hI⟩ : ∃ I, I = ixA k b v := ⟨_, rfl⟩
  have HMX : Hid (mx zs = M) := hide (by rw [hzs, hM, ansL_mx])
  have HIX : Hid (ixI zs M 0 = I) := hide (by rw [hzs, hM, hI, ansL_ix])
  have HLEN : Hid (zs.length = nAns k b) := hide (by rw [hzs, ansL_len])
  have HZ0 : Hid (zs[0]? = some (b + v)) := hide (by rw [hzs, ansL_0])
  have HZ1 : Hid (spOpen (k, b) = true → zs[1]? = some (b - 2 * leftOf k - v)) := hide (fun h => by rw [hzs, ansL_1 h])
  have hN12 : Hid (1 ≤ nAns k b ∧ nAns k b ≤ 2 ∧ (1 < nAns k b → spOpen (k, b) = true)) := hide (by unfold nAns; by_cases h : spOpen (k, b) = true <;> simp [h])
  rw [← hM, ← hI]
  clear hzs hM hI
  obtain ⟨W0, hW0⟩ : ∃ W0, W0 = ((W.alloc (.cells #[.map (some bm)] 36)).alloc (.cells #[.int .i64 k, .int .i64 b] 55)).alloc (.cells (tc l) 41) := ⟨_, rfl⟩
  have hB0 : Hid (Below W.heap.size W W0) := by rw [hW0]; exact hide (((below_alloc _ _).alloc (by simp) _).alloc (by simp; omega) _)
  have hs0 : Hid (W0.heap.size = W.heap.size + 3) := by rw [hW0]; exact hide (by simp)
  have hR1 : Hid (W0.heap[W.heap.size]? = some (.cells #[.map (some bm)] 36 (0, 0))) := hide (by
    rw [hW0, Below.heap_alloc _ _ _ (by simp; omega), Below.heap_alloc _ _ _ (by simp)]
    exact heap_alloc_new W _)
  have hR2 : Hid (W0.heap[W.heap.size + 1]? = some (.cells #[.int .i64 k, .int .i64 b] 55 (0, 0))) := hide (by
    have := heap_alloc_new (W.alloc (.cells #[.map (some bm)] 36)) (.cells #[.int .i64 k, .int .i64 b] 55 (0, 0))
    rw [hW0, Below.heap_alloc _ _ _ (by simp)]
    simpa using this)
  have hR3 : Hid (TallyIn W0 (W.heap.size + 1 + 1) l) := hide (by
    have := TallyIn.new ((W.alloc (.cells #[.map (some bm)] 36)).alloc (.cells #[.int .i64 k, .int .i64 b] 55)) l
    rw [hW0]
    simpa using this)
  have hbm : bm < W.heap.size := hK.lt
  have K0 := hide (hK.keep hB0.out)
  have HV := hide hV
  have HOT := hide hl
  have HK01 := hide hk
  obtain ⟨c0, c1, _⟩ := row2' hR2.out
  clear hK hV hl hk
  go_enter Try.func29, Try.ntmps29
  go_wp2_with fail
  rw [← hW0]
  clear hW0
  (try go_wp2_with fail)
  refine (answers_any k b _ HK01.out).mono ?_
  rintro e w1 ⟨g, rfl, hAn, hb1⟩
  have hgb := knows_far (K0.out.keep hb1) hAn.1
  have hgl : g < w1.heap.size := World.block_lt_of_cell? w1 _ hAn.1
  have K1 := hide (K0.out.keep hb1)
  have hB1 := hide (Below.trans' hB0.out hb1)
  have hR11 := hide (box_keep hR1.out hb1)
  have hR21 := hide (box_keep hR2.out hb1)
  have hR31 := hide (hR3.out.keep hb1)
  have hAN := hide hAn
  have hs1 : W.heap.size + 3 ≤ w1.heap.size := by have := hb1.size; have := hs0.out; omega
  obtain ⟨n, hn⟩ : ∃ n, n = nAns k b := ⟨_, rfl⟩
  rw [← hn] at HLEN hN12 ⊢
  have hn1 : 1 ≤ n := hN12.out.1
  have hn2 : n ≤ 2 := hN12.out.2.1
  have hO1 : Hid (OwnB w1.heap.size bm w1 w1 (.slice none 0 0) (zs.take 0)) := hide (OwnB.nil (ButB.refl _ _ _) (Nat.le_refl _))
  clear hAn hb1 c0 c1 hn
  go_wp2_with fail
  go_loopg [8, 15] n (fun g2 v8 i wr => ∃ (j : Nat) (v0 : Value), v0 = v8 ∧ j + g2 = n ∧ i = .int .i64 j ∧ OwnB w1.heap.size bm w1 wr v8 (zs.take j) ∧ KnowsT bm wr)
  case atStart => exact ⟨0, _, rfl, by omega, rfl, hO1.out, K1.out⟩
  case round =>
    clear hO1
    obtain ⟨j, v8, rfl, hj, rfl, hO, hKr⟩ := hrel
    have HO := hide hO
    have HKR := hide hKr
    cases gk with
    | zero =>
      obtain rfl : j = n := by omega
      rw [show zs.take j = zs by rw [← HLEN.out, List.take_length]] at hO
      obtain ⟨av, cv, rfl⟩ := own_form hO.own
      have hin := hide (intsAt_of_ownsRow hO.own)
      have hbut := hide ((But.of_below hB1.out).trans hO.old.but)
      have hz1' : 0 < zs.length := by rw [HLEN.out]; omega
      have hz2' : zs.length ≤ 1048576 := by rw [HLEN.out]; omega
      clear hO hKr HO
      go_wp2_with fail
      refine (max_any _ _ zs _ hin.out hz1' hz2').mono ?_
      rw [HMX.out]
      rintro e w2 ⟨rfl, hb2⟩
      have hin2 := hide (hin.out.keep hb2)
      have hbut2 := hide (hbut.out.below hb2)
      have hK2 := hide (HKR.out.keep hb2)
      clear hb2
      go_wp2_with fail
      refine (indexI_any _ _ zs M _ hin2.out hz2').mono ?_
      rw [HIX.out]
      rintro e w3 ⟨rfl, hb3⟩
      have hfin := hide (And.intro (hbut2.out.below hb3) (hK2.out.keep hb3))
      clear hb3
      go_wp2_with fail
      go_ret2
      exact ⟨rfl, hfin.out⟩
    | succ g2 =>
      have hjn : j < n := by omega
      have hbut := hO.old
      have r1 := hbut.row hR11.out (by omega) (by omega)
      have r2 := hbut.row hR21.out (by omega) (by omega)
      have r3 : TallyIn wr (W.heap.size + 1 + 1) l := hbut.row hR31.out (by omega) (by omega)
      have s0 : ∀ p : PB bm (KnowsT bm) wr, p.to.cell? ⟨W.heap.size, 0, none⟩ = some (.map (some bm)) := fun p => p.cell ((cell_of_row _ _ 0 _ _ (0, 0) r1).trans rfl) (by show W.heap.size ≠ bm; omega)
      obtain ⟨d0, d1, _⟩ := row2' r2
      have e0 : ∀ p : PB bm (KnowsT bm) wr, p.to.cell? ⟨W.heap.size + 1, 0, none⟩ = some (.int .i64 k) := fun p => p.cell d0 (by show W.heap.size + 1 ≠ bm; omega)
      have e1 : ∀ p : PB bm (KnowsT bm) wr, p.to.cell? ⟨W.heap.size + 1, 1, none⟩ = some (.int .i64 b) := fun p => p.cell d1 (by show W.heap.size + 1 ≠ bm; omega)
      have hTl : Hid (∀ w, (∃ p : PB bm (KnowsT bm) wr, w = p.to) → (Instr.loadAt 41 (.pointer (some ⟨W.heap.size + 1 + 1, 0, none⟩))).run Try.prog w = .ok (.agg (tc l)) w) := hide (fun w ⟨p, hp⟩ => by
        rw [hp]
        exact TallyIn.load (p.row r3 (by show W.heap.size + 1 + 1 ≠ bm; omega)) HOT.out.1)
      have hvc : Hid (∀ p : PB bm (KnowsT bm) wr, Calls Try.prog 14 #[.agg #[.map (some bm)], .agg (tc l)] p.to (RetK bm (KnowsT bm) (.int .i64 v) p.to)) := hide (fun p => HV.out _ (p.inv HKR.out))
      have hzl : (zs.take j).length ≤ 8 := by have := List.length_take_le j zs; omega
      have hlb := leftOf_bd k
      have hcase : (j = 0) ∨ (j = 1 ∧ spOpen (k, b) = true) := by
        rcases (by omega : j = 0 ∨ j = 1) with h | h
        · exact .inl h
        · exact .inr ⟨h, hN12.out.2.2 (by omega)⟩
      clear hO hKr r1 r2 r3 d0 d1 hbut
      rcases hcase with hj0 | ⟨hj1, hsp⟩
      · have fc : wr.cell? ⟨g, j, none⟩ = some (.func (.func 38) #[] #[]) := by rw [hj0]; exact (World.cell?_of_block (a := ⟨g, 0, none⟩) (HO.out.old.block g hgl hgb)).trans hAN.out.1
        obtain ⟨z, hz⟩ : ∃ z, z = b + v := ⟨_, rfl⟩
        have hfn : Hid (∀ p : PB bm (KnowsT bm) wr, Calls Try.prog 38 #[.agg #[.int .i64 k, .int .i64 b], .int .i64 v] p.to (RetB (.int .i64 z) p.to)) := hide (fun p => by rw [hz]; exact greedy_any k b v p.to hb0 hb1 (by omega) (by omega))
        have hnew : Hid (zs.take (j + 1) = zs.take j ++ [z]) := hide (by rw [List.take_add_one, hj0, HZ0.out, hz]; rfl)
        clear hz hj0 hlb
        go_wp2_with fail
        refine wp_region_pb_float (bm) (KnowsT (bm)) (fun _ _ h k => KnowsT.keep h k) 7 (.tmp 8) rfl rfl (by kernel_rfl) (by kernel_rfl) (fun _ _ _ _ h => h) ?_
        simp only [Nat.reduceSub, List.take_succ_cons, List.take_zero, List.drop_succ_cons, List.drop_zero]
        repeat (first | (go_big_quiet_want; refine quiet_load 41 _ rfl _ _ rfl hTl.out ?_; go_simp; go_big_quiet_on) | go_big_quiet_step ((first | (go_at_call 14; with_reducible exact retK_pb (hvc.out _)) | (with_reducible exact retB_pb (fun _ _ h k => KnowsT.keep h k) (hfn.out _)))) | quiet_step ((first | (go_at_call 14; with_reducible exact retK_pb (hvc.out _)) | (with_reducible exact retB_pb (fun _ _ h k => KnowsT.keep h k) (hfn.out _)))))
        refine wpQuiet_nil ?_
        rintro _ ⟨pq, rfl⟩
        have hO2 := HO.out.keep (by omega) pq.old
        have hK2 := hide (pq.inv HKR.out)
        have hown := hO2.own
        have hsz := hO2.size
        have HO2 := hide hO2
        clear hO2 s0 e0 e1 fc
        go_wp2_with (at_builtin; refine wpList_append_own _ rfl _ _ 22 rfl (w1.heap.size) 2 i0 (.int .i64 0) 1 8 Try.underlying22 hi0 hz0 hz1 hz2 rfl (by decide) _ _ _ rfl (hown.alloc _) ⟨pq.to.heap.size, 0, none⟩ 1 1 [.int .i64 z] rfl rfl (cell_one_new _ _ _) (by simp [Value.oneCell']) (by unfold maxLen; omega) (by omega) (by simp; omega) ?_)
        intro v' w7 hown' hgrow _
        have hO7 := hide (HO2.out.snoc (by simpa using hown') hgrow)
        have hK7 := hide (hK2.out.block (HO2.out.blockOf (by omega) (by omega) hgrow))
        clear hown' hgrow hown
        go_wp2_with fail
        go_roundg g2
        case rel => exact ⟨j + 1, _, rfl, by omega, by go_num, by rw [hnew.out]; exact hO7.out, hK7.out⟩
        case measure => omega
      · have fc : wr.cell? ⟨g, j, none⟩ = some (.func (.func 39) #[] #[]) := by rw [hj1]; exact (World.cell?_of_block (a := ⟨g, 1, none⟩) (HO.out.old.block g hgl hgb)).trans (hAN.out.2 hsp)
        obtain ⟨z, hz⟩ : ∃ z, z = b - 2 * leftOf k - v := ⟨_, rfl⟩
        have hfn : Hid (∀ p : PB bm (KnowsT bm) wr, Calls Try.prog 39 #[.agg #[.int .i64 k, .int .i64 b], .int .i64 v] p.to (RetB (.int .i64 z) p.to)) := hide (fun p => by rw [hz]; exact sparing_any k b v p.to hb0 hb1 (by omega) (by omega))
        have hnew : Hid (zs.take (j + 1) = zs.take j ++ [z]) := hide (by rw [List.take_add_one, hj1, HZ1.out hsp, hz]; rfl)
        clear hz hj1 hlb hsp
        go_wp2_with fail
        refine wp_region_pb_float (bm) (KnowsT (bm)) (fun _ _ h k => KnowsT.keep h k) 7 (.tmp 8) rfl rfl (by kernel_rfl) (by kernel_rfl) (fun _ _ _ _ h => h) ?_
        simp only [Nat.reduceSub, List.take_succ_cons, List.take_zero, List.drop_succ_cons, List.drop_zero]
        repeat (first | (go_big_quiet_want; refine quiet_load 41 _ rfl _ _ rfl hTl.out ?_; go_simp; go_big_quiet_on) | go_big_quiet_step ((first | (go_at_call 14; with_reducible exact retK_pb (hvc.out _)) | (with_reducible exact retB_pb (fun _ _ h k => KnowsT.keep h k) (hfn.out _)))) | quiet_step ((first | (go_at_call 14; with_reducible exact retK_pb (hvc.out _)) | (with_reducible exact retB_pb (fun _ _ h k => KnowsT.keep h k) (hfn.out _)))))
        refine wpQuiet_nil ?_
        rintro _ ⟨pq, rfl⟩
        have hO2 := HO.out.keep (by omega) pq.old
        have hK2 := hide (pq.inv HKR.out)
        have hown := hO2.own
        have hsz := hO2.size
        have HO2 := hide hO2
        clear hO2 s0 e0 e1 fc
        go_wp2_with (at_builtin; refine wpList_append_own _ rfl _ _ 22 rfl (w1.heap.size) 2 i0 (.int .i64 0) 1 8 Try.underlying22 hi0 hz0 hz1 hz2 rfl (by decide) _ _ _ rfl (hown.alloc _) ⟨pq.to.heap.size, 0, none⟩ 1 1 [.int .i64 z] rfl rfl (cell_one_new _ _ _) (by simp [Value.oneCell']) (by unfold maxLen; omega) (by omega) (by simp; omega) ?_)
        intro v' w7 hown' hgrow _
        have hO7 := hide (HO2.out.snoc (by simpa using hown') hgrow)
        have hK7 := hide (hK2.out.block (HO2.out.blockOf (by omega) (by omega) hgrow))
        clear hown' hgrow hown
        go_wp2_with fail
        go_roundg g2
        case rel => exact ⟨j + 1, _, rfl, by omega, by go_num, by rw [hnew.out]; exact hO7.out, hK7.out⟩
        case measure => omega
end Go.Proofs.Ytbfpbkbhikogiab
