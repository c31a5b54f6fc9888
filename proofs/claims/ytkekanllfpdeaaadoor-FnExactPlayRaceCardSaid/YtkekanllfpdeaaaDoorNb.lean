/-
  Nodes that are taken: freeOn, isFull, endOfMaking, endOfRace; checkSolve.
-/
import Derived.Test.YtkekanllfpdeaaaDoorNa
namespace Go.Proofs.YtkekanllfpdeaaaDoor
open Go.RowKit
set_option linter.unusedVariables false

theorem pre_cut {p : Int → Bool} {n : Nat} : ∀ {m : Nat}, n ≤ m → (∀ i : Nat, n ≤ i → i < m → p (i : Int) = false) → pre p m = pre p n
  | 0, h, _ => by rw [show n = 0 by omega]
  | m + 1, h, hp => by
    by_cases e : n = m + 1
    · rw [e]
    · rw [pre_no (hp m (by omega) (by omega))]
      exact pre_cut (by omega) (fun i h1 h2 => hp i h1 (by omega))
theorem frees_nodes {n F S : Int} (h : St n F S) : nodesL (diffI (allI n) (orI F S)) = frees n F S := by
  have a0 := allI_range n
  have o0 := orI_range h.f.1 h.f.2 h.s.1 h.s.2
  have hd : ∀ i : Nat, drawn (diffI (allI n) (orI F S)) i = (decide (i < n.toNat) && isFree F S i) := fun i => by
    rw [drawn_diffI a0.1 o0.1 (by omega), drawn_allI]; rfl
  unfold nodesL frees
  have hn := h.nn
  rw [pre_cut (n := n.toNat) (m := 16) (by omega) (fun i h1 h2 => by rw [hd]; simp; omega)]
  exact pre_congr (fun i hi => by rw [hd, decide_eq_true hi]; rfl)

set_option maxRecDepth 100000 in
set_option maxHeartbeats 2000000 in
theorem freeOn_any (n : Int) (a : Option Addr) (K c : Nat) (F S : Int) (hst : St n F S) (W : World) (hT : TzTab W) :
    Calls Tryd.prog 129 #[.agg #[.int .i64 F, .int .i64 S], .agg #[.int .i64 n, .slice a K c]] W (NewL (frees n F S) W) := by
  obtain ⟨W0, hW0⟩ : ∃ W0, W0 = (W.alloc (.cells #[.int .i64 F, .int .i64 S] 92)).alloc (.cells #[.int .i64 n, .slice a K c] 28) := ⟨_, rfl⟩
  have hB0 : Hid (Below W.heap.size W W0) := by rw [hW0]; exact hide ((below_alloc _ _).alloc (by simp) _)
  have hX0 : Hid (W0.heap[W.heap.size]? = some (.cells #[.int .i64 F, .int .i64 S] 92 (0, 0))) := by rw [hW0]; exact hide (row_alloc (alloc_row _ _ _) _)
  have hR0 : Hid (W0.heap[W.heap.size + 1]? = some (.cells #[.int .i64 n, .slice a K c] 28 (0, 0))) := by rw [hW0]; exact hide (alloc_row2 _ _ _ _)
  obtain ⟨f0, f1, s0, s1⟩ := hst.lt
  have hnn := hst.nn
  have o0 := orI_range (x := F) (y := S) (n := 16) f0 (by omega) s0 (by omega)
  have hor := or_walkI (x := F) (y := S) f0 (by omega) s0 (by omega)
  have ha16 := allI_16 (n := n) (by omega)
  obtain ⟨o, ho⟩ : ∃ o, o = orI F S := ⟨_, rfl⟩
  obtain ⟨m, hm⟩ : ∃ m, m = allI n := ⟨_, rfl⟩
  obtain ⟨d, hd⟩ : ∃ d, d = diffI m o := ⟨_, rfl⟩
  rw [← ho] at o0 hor
  rw [← hm] at ha16
  obtain ⟨o1, o2⟩ := o0
  obtain ⟨m1, m2⟩ := ha16
  have hdf := diff_walkI (x := m) (y := o) m1 (by omega) o1 (by omega)
  have hdr := diffI_range (x := m) (y := o) (n := 16) m1 (by omega) o1
  rw [← hd] at hdf hdr
  obtain ⟨d1, d2⟩ := hdr
  have HF : Hid (nodesL d = frees n F S) := hide (by rw [hd, hm, ho]; exact frees_nodes hst)
  have HAN : Hid (∀ V : World, Calls Tryd.prog 78 #[.agg #[.int .i64 n, .slice a K c]] V (RetB (.int .i64 m) V)) := hide (fun V => by rw [hm]; exact allNodes_any n a K c (by omega) (by omega) V)
  have HNO : Hid (∀ V : World, TzTab V → Calls Tryd.prog 60 #[.int .i64 d] V (NewL (nodesL d) V)) := hide (fun V hv => nodesOf_any d d1 (by omega) V hv)
  have HT0 := hide (hT.keep hB0.out)
  rw [← HF.out]
  obtain ⟨x0, x1, _⟩ := row2' hX0.out
  obtain ⟨r0, r1, _⟩ := row2' hR0.out
  have q0 : ∀ p : Past W0, p.to.cell? ⟨W.heap.size, 0, none⟩ = some (.int .i64 F) := fun p => p.cell x0
  have q1 : ∀ p : Past W0, p.to.cell? ⟨W.heap.size, 1, none⟩ = some (.int .i64 S) := fun p => p.cell x1
  have q2 : ∀ p : Past W0, p.to.cell? ⟨W.heap.size + 1, 0, none⟩ = some (.int .i64 n) := fun p => p.cell r0
  have q3 : ∀ p : Past W0, p.to.cell? ⟨W.heap.size + 1, 1, none⟩ = some (.slice a K c) := fun p => p.cell r1
  clear hT ho hm hd hst hnn HF x0 x1 r0 r1
  go_enter Tryd.func129, Tryd.ntmps129
  go_wp2_with fail
  rw [← hW0]
  clear hW0
  (try go_wp2_with fail)
  refine wp_region_past_tail 8 (by kernel_rfl) (by kernel_rfl) ?_
  simp only [List.take_succ_cons, List.take_zero, List.drop_succ_cons, List.drop_zero]
  repeat (first | go_big_quiet_step ((go_at_call 78; (with_reducible exact ret_past (HAN.out _)))) | quiet_step ((go_at_call 78; (with_reducible exact ret_past (HAN.out _)))))
  refine wpQuiet_nil ?_
  rintro _ ⟨pq, rfl⟩
  have hB1 := hide (Below.trans' hB0.out pq.old)
  have HT1 := hide (HT0.out.keep pq.old)
  clear q0 q1 q2 q3
  go_wp2_with fail
  refine (HNO.out _ HT1.out).mono ?_
  rintro e w2 ⟨a2, c2, rfl, ho2, hb2⟩
  have HL : Hid (NewL (nodesL d) W (.returned (.slice a2 (nodesL d).length c2)) w2) := hide ⟨a2, c2, rfl, ownsRow_base ho2 hB1.out.size, Below.trans' hB1.out hb2⟩
  clear ho2 hb2
  go_wp2_with fail
  go_ret
  exact HL.out

set_option maxRecDepth 100000 in
set_option maxHeartbeats 2000000 in
theorem isFull_any (n : Int) (a : Option Addr) (K c : Nat) (F S : Int) (hn : 1 ≤ n ∧ n ≤ 16) (f0 : 0 ≤ F) (f1 : F < 65536) (s0 : 0 ≤ S) (s1 : S < 65536) (W : World) :
    Calls Tryd.prog 171 #[.agg #[.int .i64 F, .int .i64 S], .agg #[.int .i64 n, .slice a K c]] W (RetB (.bool (decide (orI F S = allI n))) W) := by
  obtain ⟨W0, hW0⟩ : ∃ W0, W0 = (W.alloc (.cells #[.int .i64 F, .int .i64 S] 92)).alloc (.cells #[.int .i64 n, .slice a K c] 28) := ⟨_, rfl⟩
  have hB0 : Hid (Below W.heap.size W W0) := by rw [hW0]; exact hide ((below_alloc _ _).alloc (by simp) _)
  have hX0 : Hid (W0.heap[W.heap.size]? = some (.cells #[.int .i64 F, .int .i64 S] 92 (0, 0))) := by rw [hW0]; exact hide (row_alloc (alloc_row _ _ _) _)
  have hR0 : Hid (W0.heap[W.heap.size + 1]? = some (.cells #[.int .i64 n, .slice a K c] 28 (0, 0))) := by rw [hW0]; exact hide (alloc_row2 _ _ _ _)
  have hor := or_walkI (x := F) (y := S) f0 (by omega) s0 (by omega)
  obtain ⟨o, ho⟩ : ∃ o, o = orI F S := ⟨_, rfl⟩
  obtain ⟨m, hm⟩ : ∃ m, m = allI n := ⟨_, rfl⟩
  rw [← ho] at hor ⊢
  rw [← hm]
  have HR : Hid (decide (o = m) = (o == m)) := hide (by by_cases e : o = m <;> simp [e])
  rw [HR.out]
  have HAN : Hid (∀ V : World, Calls Tryd.prog 78 #[.agg #[.int .i64 n, .slice a K c]] V (RetB (.int .i64 m) V)) := hide (fun V => by rw [hm]; exact allNodes_any n a K c (by omega) (by omega) V)
  obtain ⟨x0, x1, _⟩ := row2' hX0.out
  obtain ⟨r0, r1, _⟩ := row2' hR0.out
  have q0 : ∀ p : Past W0, p.to.cell? ⟨W.heap.size, 0, none⟩ = some (.int .i64 F) := fun p => p.cell x0
  have q1 : ∀ p : Past W0, p.to.cell? ⟨W.heap.size, 1, none⟩ = some (.int .i64 S) := fun p => p.cell x1
  have q2 : ∀ p : Past W0, p.to.cell? ⟨W.heap.size + 1, 0, none⟩ = some (.int .i64 n) := fun p => p.cell r0
  have q3 : ∀ p : Past W0, p.to.cell? ⟨W.heap.size + 1, 1, none⟩ = some (.slice a K c) := fun p => p.cell r1
  clear ho hm HR x0 x1 r0 r1
  go_enter Tryd.func171, Tryd.ntmps171
  go_wp2_with fail
  rw [← hW0]
  clear hW0
  (try go_wp2_with fail)
  refine wp_region_past (by kernel_rfl) (by kernel_rfl) ?_
  repeat (first | go_big_quiet_step ((go_at_call 78; (with_reducible exact ret_past (HAN.out _)))) | quiet_step ((go_at_call 78; (with_reducible exact ret_past (HAN.out _)))))
  refine wpQuiet_nil ?_
  rintro _ ⟨pq, rfl⟩
  have hB1 := hide (Below.trans' hB0.out pq.old)
  go_wp2_with fail
  go_ret
  exact ⟨rfl, hB1.out⟩
theorem isFull_is {n : Int} {F S : Int} {b : Bool} (h : decide (orI F S = allI n) = b) (a : Option Addr) (K c : Nat) (hn : 1 ≤ n ∧ n ≤ 16) (f0 : 0 ≤ F) (f1 : F < 65536) (s0 : 0 ≤ S) (s1 : S < 65536) (W : World) :
    Calls Tryd.prog 171 #[.agg #[.int .i64 F, .int .i64 S], .agg #[.int .i64 n, .slice a K c]] W (RetB (.bool b) W) := by rw [← h]; exact isFull_any n a K c F S hn f0 f1 s0 s1 W

/-- What an end tells. -/
def endV (E : Option Int) (d : Int) : Value := .tuple #[.int .i64 (E.getD d), .bool E.isSome]

set_option maxRecDepth 100000 in
set_option maxHeartbeats 2000000 in
theorem endMaking_any (n : Int) (a : Option Addr) (c : Nat) (cs : List Int) (F S : Int) (hok : okB n cs = true) (f0 : 0 ≤ F) (f1 : F < 65536) (s0 : 0 ≤ S) (s1 : S < 65536) (W : World) (ha : IntsAt W a cs) (hl : cs.length ≤ 1048576) :
    Calls Tryd.prog 166 #[.agg #[.int .i64 F, .int .i64 S], .agg #[.int .i64 n, .slice a cs.length c]] W (RetB (endV (endM n cs F S) (-1)) W) := by
  obtain ⟨W0, hW0⟩ : ∃ W0, W0 = (W.alloc (.cells #[.int .i64 F, .int .i64 S] 92)).alloc (.cells #[.int .i64 n, .slice a cs.length c] 28) := ⟨_, rfl⟩
  have hB0 : Hid (Below W.heap.size W W0) := by rw [hW0]; exact hide ((below_alloc _ _).alloc (by simp) _)
  have hX0 : Hid (W0.heap[W.heap.size]? = some (.cells #[.int .i64 F, .int .i64 S] 92 (0, 0))) := by rw [hW0]; exact hide (row_alloc (alloc_row _ _ _) _)
  have hR0 : Hid (W0.heap[W.heap.size + 1]? = some (.cells #[.int .i64 n, .slice a cs.length c] 28 (0, 0))) := by rw [hW0]; exact hide (alloc_row2 _ _ _ _)
  have hA0 := hide (ha.keep hB0.out)
  have hn := (okB_parts hok).1
  obtain ⟨x0, x1, _⟩ := row2' hX0.out
  obtain ⟨r0, r1, _⟩ := row2' hR0.out
  have HLI : Hid (∀ V : World, Below W0.heap.size W0 V → Calls Tryd.prog 170 #[.agg #[.int .i64 n, .slice a cs.length c], .int .i64 F] V (RetB (.tuple #[.int .i64 ((lin cs F).getD 0), .bool (fil cs F)]) V)) := hide (fun V hv => lineIn_any n a c cs F (sets_of hok) f0 f1 V (hA0.out.keep hv) hl)
  cases hf : fil cs F
  · rw [hf] at HLI
    obtain ⟨b, hb⟩ : ∃ b, b = decide (orI F S = allI n) := ⟨_, rfl⟩
    have HV : Hid (endV (endM n cs F S) (-1) = .tuple #[.int .i64 (-1), .bool b]) := hide (by
      unfold endM endV
      rw [hf, hb]
      by_cases e : orI F S = allI n <;> simp [e])
    have HFU : Hid (∀ V : World, Calls Tryd.prog 171 #[.agg #[.int .i64 F, .int .i64 S], .agg #[.int .i64 n, .slice a cs.length c]] V (RetB (.bool b) V)) := hide (fun V => isFull_is hb.symm a _ c hn f0 f1 s0 s1 V)
    rw [HV.out]
    clear hf hb ha hn
    go_enter Tryd.func166, Tryd.ntmps166
    go_wp2_with fail
    rw [← hW0]
    clear hW0
    (try go_wp2_with fail)
    refine (HLI.out _ (Below.refl _ _)).mono ?_
    rintro e w1 ⟨rfl, hb1⟩
    have hB1 := hide (Below.trans' hB0.out hb1)
    have hX1 := hide (box_keep hX0.out hb1)
    have hR1 := hide (box_keep hR0.out hb1)
    clear hb1 x0 x1 r0 r1
    obtain ⟨x0, x1, _⟩ := row2' hX1.out
    obtain ⟨r0, r1, _⟩ := row2' hR1.out
    go_wp2_with fail
    refine (HFU.out _).mono ?_
    rintro e w2 ⟨rfl, hb2⟩
    have hB2 := hide (Below.trans' hB1.out hb2)
    clear hb2
    go_wp2_with fail
    go_ret2
    exact ⟨rfl, hB2.out⟩
  · rw [hf] at HLI
    have HV : Hid (endV (endM n cs F S) (-1) = .tuple #[.int .i64 1, .bool true]) := hide (by unfold endM endV; rw [hf]; rfl)
    rw [HV.out]
    clear hf ha hn
    go_enter Tryd.func166, Tryd.ntmps166
    go_wp2_with fail
    rw [← hW0]
    clear hW0
    (try go_wp2_with fail)
    refine (HLI.out _ (Below.refl _ _)).mono ?_
    rintro e w1 ⟨rfl, hb1⟩
    have hB1 := hide (Below.trans' hB0.out hb1)
    clear hb1
    go_wp2_with fail
    go_ret2
    exact ⟨rfl, hB1.out⟩

set_option maxRecDepth 100000 in
set_option maxHeartbeats 2000000 in
theorem endRace_any (n : Int) (a : Option Addr) (c : Nat) (cs : List Int) (F S : Int) (hok : okB n cs = true) (f0 : 0 ≤ F) (f1 : F < 65536) (s0 : 0 ≤ S) (s1 : S < 65536) (W : World) (ha : IntsAt W a cs) (hl : cs.length ≤ 1048576) :
    Calls Tryd.prog 127 #[.agg #[.int .i64 F, .int .i64 S], .agg #[.int .i64 n, .slice a cs.length c]] W (RetB (endV (endR n cs F S) 0) W) := by
  obtain ⟨W0, hW0⟩ : ∃ W0, W0 = (W.alloc (.cells #[.int .i64 F, .int .i64 S] 92)).alloc (.cells #[.int .i64 n, .slice a cs.length c] 28) := ⟨_, rfl⟩
  have hB0 : Hid (Below W.heap.size W W0) := by rw [hW0]; exact hide ((below_alloc _ _).alloc (by simp) _)
  have hX0 : Hid (W0.heap[W.heap.size]? = some (.cells #[.int .i64 F, .int .i64 S] 92 (0, 0))) := by rw [hW0]; exact hide (row_alloc (alloc_row _ _ _) _)
  have hR0 : Hid (W0.heap[W.heap.size + 1]? = some (.cells #[.int .i64 n, .slice a cs.length c] 28 (0, 0))) := by rw [hW0]; exact hide (alloc_row2 _ _ _ _)
  have hA0 := hide (ha.keep hB0.out)
  have hn := (okB_parts hok).1
  obtain ⟨x0, x1, _⟩ := row2' hX0.out
  obtain ⟨r0, r1, _⟩ := row2' hR0.out
  have HLI : Hid (∀ V : World, Below W0.heap.size W0 V → Calls Tryd.prog 170 #[.agg #[.int .i64 n, .slice a cs.length c], .int .i64 F] V (RetB (.tuple #[.int .i64 ((lin cs F).getD 0), .bool (fil cs F)]) V)) := hide (fun V hv => lineIn_any n a c cs F (sets_of hok) f0 f1 V (hA0.out.keep hv) hl)
  have HLS : Hid (∀ V : World, Below W0.heap.size W0 V → Calls Tryd.prog 170 #[.agg #[.int .i64 n, .slice a cs.length c], .int .i64 S] V (RetB (.tuple #[.int .i64 ((lin cs S).getD 0), .bool (fil cs S)]) V)) := hide (fun V hv => lineIn_any n a c cs S (sets_of hok) s0 s1 V (hA0.out.keep hv) hl)
  cases hf : fil cs F
  · rw [hf] at HLI
    cases hg : fil cs S
    · rw [hg] at HLS
      obtain ⟨b, hb⟩ : ∃ b, b = decide (orI F S = allI n) := ⟨_, rfl⟩
      have HV : Hid (endV (endR n cs F S) 0 = .tuple #[.int .i64 0, .bool b]) := hide (by
        unfold endR endV
        rw [hf, hg, hb]
        by_cases e : orI F S = allI n <;> simp [e])
      have HFU : Hid (∀ V : World, Calls Tryd.prog 171 #[.agg #[.int .i64 F, .int .i64 S], .agg #[.int .i64 n, .slice a cs.length c]] V (RetB (.bool b) V)) := hide (fun V => isFull_is hb.symm a _ c hn f0 f1 s0 s1 V)
      rw [HV.out]
      clear hf hg hb ha hn
      go_enter Tryd.func127, Tryd.ntmps127
      go_wp2_with fail
      rw [← hW0]
      clear hW0
      (try go_wp2_with fail)
      refine (HLI.out _ (Below.refl _ _)).mono ?_
      rintro e w1 ⟨rfl, hb1⟩
      have hB1 := hide (Below.trans' hB0.out hb1)
      have hX1 := hide (box_keep hX0.out hb1)
      have hR1 := hide (box_keep hR0.out hb1)
      have hb1' := hide hb1
      clear hb1 x0 x1 r0 r1
      obtain ⟨x0, x1, _⟩ := row2' hX1.out
      obtain ⟨r0, r1, _⟩ := row2' hR1.out
      go_wp2_with fail
      refine (HLS.out _ hb1'.out).mono ?_
      rintro e w2 ⟨rfl, hb2⟩
      have hB2 := hide (Below.trans' hB1.out hb2)
      have hX2 := hide (box_keep hX1.out hb2)
      have hR2 := hide (box_keep hR1.out hb2)
      clear hb2 x0 x1 r0 r1
      obtain ⟨x0, x1, _⟩ := row2' hX2.out
      obtain ⟨r0, r1, _⟩ := row2' hR2.out
      go_wp2_with fail
      refine (HFU.out _).mono ?_
      rintro e w3 ⟨rfl, hb3⟩
      have hB3 := hide (Below.trans' hB2.out hb3)
      clear hb3
      go_wp2_with fail
      go_ret2
      exact ⟨rfl, hB3.out⟩
    · rw [hg] at HLS
      have HV : Hid (endV (endR n cs F S) 0 = .tuple #[.int .i64 (-1), .bool true]) := hide (by unfold endR endV; rw [hf, hg]; rfl)
      rw [HV.out]
      clear hf hg ha hn
      go_enter Tryd.func127, Tryd.ntmps127
      go_wp2_with fail
      rw [← hW0]
      clear hW0
      (try go_wp2_with fail)
      refine (HLI.out _ (Below.refl _ _)).mono ?_
      rintro e w1 ⟨rfl, hb1⟩
      have hB1 := hide (Below.trans' hB0.out hb1)
      have hX1 := hide (box_keep hX0.out hb1)
      have hR1 := hide (box_keep hR0.out hb1)
      have hb1' := hide hb1
      clear hb1 x0 x1 r0 r1
      obtain ⟨x0, x1, _⟩ := row2' hX1.out
      obtain ⟨r0, r1, _⟩ := row2' hR1.out
      go_wp2_with fail
      refine (HLS.out _ hb1'.out).mono ?_
      rintro e w2 ⟨rfl, hb2⟩
      have hB2 := hide (Below.trans' hB1.out hb2)
      clear hb2
      go_wp2_with fail
      go_ret2
      exact ⟨rfl, hB2.out⟩
  · rw [hf] at HLI
    have HV : Hid (endV (endR n cs F S) 0 = .tuple #[.int .i64 1, .bool true]) := hide (by unfold endR endV; rw [hf]; rfl)
    rw [HV.out]
    clear hf ha hn
    go_enter Tryd.func127, Tryd.ntmps127
    go_wp2_with fail
    rw [← hW0]
    clear hW0
    (try go_wp2_with fail)
    refine (HLI.out _ (Below.refl _ _)).mono ?_
    rintro e w1 ⟨rfl, hb1⟩
    have hB1 := hide (Below.trans' hB0.out hb1)
    clear hb1
    go_wp2_with fail
    go_ret2
    exact ⟨rfl, hB1.out⟩

/-! ### checkSolve -/
def codeL (n : Int) (cs : List Int) : Int := if okB n cs = true then (if n ≤ 9 then 0 else 3) else 1
theorem codeL_zero {n : Int} {cs : List Int} (h : codeL n cs = 0) : okB n cs = true ∧ 1 ≤ n ∧ n ≤ 9 := by
  unfold codeL at h
  split at h
  · rename_i h1
    split at h
    · exact ⟨h1, (okB_parts h1).1.1, by assumption⟩
    · omega
  · omega
set_option maxHeartbeats 1000000 in
theorem checkSolve_any (n : Int) (a : Option Addr) (c : Nat) (cs : List Int) (W : World) (ha : IntsAt W a cs) (hl : cs.length ≤ 1048576) :
    Calls Tryd.prog 66 #[.agg #[.int .i64 n, .slice a cs.length c]] W (RetB (.int .i64 (codeL n cs)) W) := by
  obtain ⟨W0, hW0⟩ : ∃ W0, W0 = W.alloc (.cells #[.int .i64 n, .slice a cs.length c] 28) := ⟨_, rfl⟩
  have hB0 : Hid (Below W.heap.size W W0) := by rw [hW0]; exact hide (below_alloc _ _)
  have hX0 : Hid (HexIn W0 W.heap.size n a cs.length c) := by rw [hW0]; exact hide (hexIn_new _ _ _ _ _ _)
  have hA0 := hide (ha.keep hB0.out)
  obtain ⟨c0, c1⟩ := hX0.out
  obtain ⟨b, hb⟩ : ∃ b, b = okB n cs := ⟨_, rfl⟩
  have HI : Hid (Calls Tryd.prog 58 #[.agg #[.int .i64 n, .slice a cs.length c]] W0 (RetB (.bool b) W0)) := hide (implIs_is hb.symm hA0.out hl)
  clear ha
  cases b
  · have HR : Hid (codeL n cs = 1) := hide (by unfold codeL; rw [← hb]; rfl)
    rw [HR.out]
    clear hb
    go_enter Tryd.func66, Tryd.ntmps66
    go_wp2_with fail
    rw [← hW0]
    clear hW0
    (try go_wp2_with fail)
    refine (HI.out).mono ?_
    rintro e w1 ⟨rfl, hb1⟩
    have hB1 := hide (Below.trans' hB0.out hb1)
    clear hb1
    go_wp2_with fail
    go_ret
    exact ⟨rfl, hB1.out⟩
  · by_cases h9 : n ≤ 9
    · have HR : Hid (codeL n cs = 0) := hide (by unfold codeL; rw [← hb, if_pos rfl, if_pos h9])
      rw [HR.out]
      have hgt : ¬ (9 < n) := by omega
      clear hb
      go_enter Tryd.func66, Tryd.ntmps66
      go_wp2_with fail
      rw [← hW0]
      clear hW0
      (try go_wp2_with fail)
      refine (HI.out).mono ?_
      rintro e w1 ⟨rfl, hb1⟩
      have hB1 := hide (Below.trans' hB0.out hb1)
      have hX1 := hide (hX0.out.keep hb1)
      clear hb1 c0 c1
      obtain ⟨c0, c1⟩ := hX1.out
      go_wp2_with fail
      go_ret
      exact ⟨rfl, hB1.out⟩
    · have HR : Hid (codeL n cs = 3) := hide (by unfold codeL; rw [← hb, if_pos rfl, if_neg h9])
      rw [HR.out]
      have hgt : 9 < n := by omega
      clear hb
      go_enter Tryd.func66, Tryd.ntmps66
      go_wp2_with fail
      rw [← hW0]
      clear hW0
      (try go_wp2_with fail)
      refine (HI.out).mono ?_
      rintro e w1 ⟨rfl, hb1⟩
      have hB1 := hide (Below.trans' hB0.out hb1)
      have hX1 := hide (hX0.out.keep hb1)
      clear hb1 c0 c1
      obtain ⟨c0, c1⟩ := hX1.out
      go_wp2_with fail
      go_ret
      exact ⟨rfl, hB1.out⟩
end Go.Proofs.YtkekanllfpdeaaaDoor
