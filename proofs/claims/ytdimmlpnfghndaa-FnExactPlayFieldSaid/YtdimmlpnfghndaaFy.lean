/-
  A new search of turns; OutcomeOf and MovesLeft, the program's text.
-/
import Derived.Test.YtdimmlpnfghndaaFvi
import Derived.Test.YtdimmlpnfghndaaFq
import Derived.Carry
import Derived.Laws.EntriesVeiled
namespace Go.Proofs.Ytdimmlpnfghndaa
open Go.RowKit Go.Maps
set_option linter.unusedVariables false

theorem below_but {n : Nat} {W a b : World} (h : Below W.heap.size W a) (k : But n a b) (hn : W.heap.size ≤ n) : Below W.heap.size W b := ((ButB.of_below (n := n) h).trans (k.butB h.size)).old hn
theorem row_keep {w w' : World} {b : Nat} {o : Obj} (h : w.heap[b]? = some o) (hb : Below w.heap.size w w') : w'.heap[b]? = some o := (hb.block b (Array.getElem?_eq_some_iff.1 h).1).trans h

set_option maxRecDepth 100000 in
theorem newB_any (N L : Int) (lv : Int → Int → Int → Lit) (ext : List (Nat × Obj)) (K : TypeId) (W : World) (hext : ∀ p ∈ ext, W.heap[p.1]? = some p.2) : Calls Try.prog 61 #[.iface K (.agg #[]), .func (.func 62) #[] #[]] W fun e W' => ∃ b, e = .returned (.agg #[.iface K (.agg #[]), .func (.func 62) #[] #[], .map (some b)]) ∧ KnM lv 4 N L ext b W' ∧ W.heap.size ≤ b ∧ Below W.heap.size W W' := by
  have hmm := @run_makeMap Try.prog
  have HEX := hide hext
  clear hext
  go_enter Try.func61, Try.ntmps61
  go_wp2_with fail
  obtain ⟨W1, hW1⟩ : ∃ W1, W1 = W.alloc (.cells #[.iface K (.agg #[]), .func (.func 62) #[] #[], .map (some (W.heap.size + 1))] 77) := ⟨_, rfl⟩
  have hB1 : Hid (Below W.heap.size W W1) := by rw [hW1]; exact hide (below_alloc _ _)
  have hs1 : W1.heap.size = W.heap.size + 1 := by rw [hW1]; simp
  have hr1 : Hid (W1.heap[W.heap.size]? = some (.cells #[.iface K (.agg #[]), .func (.func 62) #[] #[], .map (some (W.heap.size + 1))] 77 (0, 0))) := by rw [hW1]; exact hide (heap_alloc_new W _)
  rw [← hW1]
  clear hW1
  have hext1 : ∀ p ∈ ext, W1.heap[p.1]? = some p.2 := fun p hp => row_keep (HEX.out p hp) hB1.out
  obtain ⟨W2, hW2⟩ : ∃ W2, W2 = W1.alloc (.map #[] 0) := ⟨_, rfl⟩
  have hB2 : Hid (Below W1.heap.size W1 W2) := by rw [hW2]; exact hide (below_alloc _ _)
  have hr2 := box_keep hr1.out hB2.out
  have hK2 : Hid (KnM lv 4 N L ext (W.heap.size + 1) W2) := by rw [hW2, ← hs1]; exact hide (KnM.made W1 hext1)
  rw [← hW2]
  clear hW2
  have c0 : W2.cell? ⟨W.heap.size, 0, none⟩ = some (.iface K (.agg #[])) := (cell_of_row _ _ 0 _ _ (0, 0) hr2).trans rfl
  have c1 : W2.cell? ⟨W.heap.size, 1, none⟩ = some (.func (.func 62) #[] #[]) := (cell_of_row _ _ 1 _ _ (0, 0) hr2).trans rfl
  have c2 : W2.cell? ⟨W.heap.size, 2, none⟩ = some (.map (some (W.heap.size + 1))) := (cell_of_row _ _ 2 _ _ (0, 0) hr2).trans rfl
  exact bodyPost_ret (v := .agg #[.iface K (.agg #[]), .func (.func 62) #[] #[], .map (some (W.heap.size + 1))]) (by simp [results, Try.results61, go_sem, c0, c1, c2]) rfl ⟨_, rfl, hK2.out, by omega, Below.trans' hB1.out hB2.out⟩

set_option maxRecDepth 100000 in
theorem newI_any (N L : Int) (lv : Int → Int → Int → Lit) (ext : List (Nat × Obj)) (pb : Nat) (K : TypeId) (W : World) (hext : ∀ p ∈ ext, W.heap[p.1]? = some p.2) : Calls Try.prog 68 #[.iface K (.agg #[]), .func (.func 79) #[] #[.pointer (some ⟨pb, 0, none⟩)]] W fun e W' => ∃ b, e = .returned (.agg #[.iface K (.agg #[]), .func (.func 79) #[] #[.pointer (some ⟨pb, 0, none⟩)], .map (some b)]) ∧ KnM lv 2 N L ext b W' ∧ W.heap.size ≤ b ∧ Below W.heap.size W W' := by
  have hmm := @run_makeMap Try.prog
  have HEX := hide hext
  clear hext
  go_enter Try.func68, Try.ntmps68
  go_wp2_with fail
  obtain ⟨W1, hW1⟩ : ∃ W1, W1 = W.alloc (.cells #[.iface K (.agg #[]), .func (.func 79) #[] #[.pointer (some ⟨pb, 0, none⟩)], .map (some (W.heap.size + 1))] 88) := ⟨_, rfl⟩
  have hB1 : Hid (Below W.heap.size W W1) := by rw [hW1]; exact hide (below_alloc _ _)
  have hs1 : W1.heap.size = W.heap.size + 1 := by rw [hW1]; simp
  have hr1 : Hid (W1.heap[W.heap.size]? = some (.cells #[.iface K (.agg #[]), .func (.func 79) #[] #[.pointer (some ⟨pb, 0, none⟩)], .map (some (W.heap.size + 1))] 88 (0, 0))) := by rw [hW1]; exact hide (heap_alloc_new W _)
  rw [← hW1]
  clear hW1
  have hext1 : ∀ p ∈ ext, W1.heap[p.1]? = some p.2 := fun p hp => row_keep (HEX.out p hp) hB1.out
  obtain ⟨W2, hW2⟩ : ∃ W2, W2 = W1.alloc (.map #[] 0) := ⟨_, rfl⟩
  have hB2 : Hid (Below W1.heap.size W1 W2) := by rw [hW2]; exact hide (below_alloc _ _)
  have hr2 := box_keep hr1.out hB2.out
  have hK2 : Hid (KnM lv 2 N L ext (W.heap.size + 1) W2) := by rw [hW2, ← hs1]; exact hide (KnM.made W1 hext1)
  rw [← hW2]
  clear hW2
  have c0 : W2.cell? ⟨W.heap.size, 0, none⟩ = some (.iface K (.agg #[])) := (cell_of_row _ _ 0 _ _ (0, 0) hr2).trans rfl
  have c1 : W2.cell? ⟨W.heap.size, 1, none⟩ = some (.func (.func 79) #[] #[.pointer (some ⟨pb, 0, none⟩)]) := (cell_of_row _ _ 1 _ _ (0, 0) hr2).trans rfl
  have c2 : W2.cell? ⟨W.heap.size, 2, none⟩ = some (.map (some (W.heap.size + 1))) := (cell_of_row _ _ 2 _ _ (0, 0) hr2).trans rfl
  exact bodyPost_ret (v := .agg #[.iface K (.agg #[]), .func (.func 79) #[] #[.pointer (some ⟨pb, 0, none⟩)], .map (some (W.heap.size + 1))]) (by simp [results, Try.results68, go_sem, c0, c1, c2]) rfl ⟨_, rfl, hK2.out, by omega, Below.trans' hB1.out hB2.out⟩

theorem ruleV_form (game : Int) : ∃ K, ruleV game = .iface K (.agg #[]) := by
  unfold ruleV
  split
  · exact ⟨_, rfl⟩
  · exact ⟨_, rfl⟩
/-- The outcome and its code. -/
def outR (n L R B game : Int) : Value := if codeP n L R B game 0 = 0 then .tuple #[.bool (win n L R B game 0), .bool (win n L R B game 1), .int .i64 0] else .tuple #[.bool false, .bool false, .int .i64 (codeP n L R B game 0)]

set_option maxRecDepth 100000 in
set_option maxHeartbeats 1000000 in
theorem implOut_any (n L R B game : Int) (W : World) : Calls Try.prog 30 #[.agg #[.int .i64 n, .int .i64 L, .int .i64 R, .int .i64 B], .int .i64 game] W (RetB (outR n L R B game) W) := by
  have hB0 := hide (below_alloc W (.cells #[.int .i64 n, .int .i64 L, .int .i64 R, .int .i64 B] 25))
  have hX0 := hide (fieldIn_new W n L R B 25)
  by_cases hc : codeP n L R B game 0 = 0
  · have HC := hide hc
    obtain ⟨b0, hb0⟩ : ∃ b, b = win n L R B game 0 := ⟨_, rfl⟩
    obtain ⟨b1, hb1⟩ : ∃ b, b = win n L R B game 1 := ⟨_, rfl⟩
    have HR : Hid (outR n L R B game = .tuple #[.bool b0, .bool b1, .int .i64 0]) := hide (by unfold outR; rw [if_pos hc, hb0, hb1])
    obtain ⟨K, hrv⟩ := ruleV_form game
    obtain ⟨g1, g2, g3, g4⟩ := codeP_zero hc
    have HRF : Hid (∀ V : World, Calls Try.prog 53 #[.agg #[.int .i64 n, .int .i64 L, .int .i64 R, .int .i64 B], .int .i64 game, .int .i64 0] V (RetB (.tuple #[.iface K (.agg #[]), .int .i64 0]) V)) := hide (fun V => by rw [← hrv]; exact rulesFor_ok HC.out V)
    have HV0 : Hid (∀ (bm : Nat) (V : World), KnM (lvB n L game) 4 n L [] bm V → Calls Try.prog 63 #[.agg #[.iface K (.agg #[]), .func (.func 62) #[] #[], .map (some bm)], .agg #[.int .i64 n, .int .i64 L, .int .i64 R, .int .i64 B, .int .i64 0]] V (RetK bm (KnM (lvB n L game) 4 n L [] bm) (.bool b0) V)) := hide (fun bm V hk => by rw [← hrv, hb0]; exact valueB_any n L game [] g2 bm _ R B 0 V ⟨g1, by omega, by omega⟩ rfl hk)
    have HV1 : Hid (∀ (bm : Nat) (V : World), KnM (lvB n L game) 4 n L [] bm V → Calls Try.prog 63 #[.agg #[.iface K (.agg #[]), .func (.func 62) #[] #[], .map (some bm)], .agg #[.int .i64 n, .int .i64 L, .int .i64 R, .int .i64 B, .int .i64 1]] V (RetK bm (KnM (lvB n L game) 4 n L [] bm) (.bool b1) V)) := hide (fun bm V hk => by rw [← hrv, hb1]; exact valueB_any n L game [] g2 bm _ R B 1 V ⟨g1, by omega, by omega⟩ rfl hk)
    rw [HR.out]
    clear hc hrv hb0 hb1 g1 g2 g3 g4
    go_enter Try.func30, Try.ntmps30
    go_wp2_with fail
    refine (HRF.out _).mono ?_
    rintro e w1 ⟨rfl, hb1⟩
    (try clear X0 X1 X2 X3)
    have hX1 := hide (hX0.out.keep hb1)
    obtain ⟨X0, X1, X2, X3⟩ := hX1.out
    have hB1 := hide (Below.trans' hB0.out hb1)
    clear hb1
    go_wp2_with fail
    refine (newB_any n L (lvB n L game) [] K _ (fun p hp => by cases hp)).mono ?_
    rintro e w2 ⟨bm, rfl, hk2, hb2, hB2'⟩
    have HK2 := hide hk2
    have hB2 := hide (Below.trans' hB1.out hB2')
    have hX2 := hide (hX1.out.keep hB2')
    have hbs := hX1.out.lt
    clear hk2 hB2'
    go_wp2_with fail
    obtain ⟨w3, hw3⟩ : ∃ w3, w3 = w2.alloc (.cells #[.iface K (.agg #[]), .func (.func 62) #[] #[], .map (some bm)] 77) := ⟨_, rfl⟩
    have hB3' : Below w2.heap.size w2 w3 := by rw [hw3]; exact below_alloc _ _
    have hS3 : w3.heap[w2.heap.size]? = some (.cells #[.iface K (.agg #[]), .func (.func 62) #[] #[], .map (some bm)] 77 (0, 0)) := by rw [hw3]; exact heap_alloc_new _ _
    rw [← hw3]
    have HK3 := hide (HK2.out.keep hB3')
    have hB3 := hide (Below.trans' hB2.out hB3')
    obtain ⟨x0, x1, x2, x3⟩ := hX2.out.keep hB3'
    obtain ⟨f0, f1, f2, _⟩ := row3 hS3
    have hlt2 := HK2.out.lt
    have HBM : Hid (bm < w2.heap.size) := hide hlt2
    have hWl : W.heap.size < w2.heap.size := hX2.out.lt
    have n0 : W.heap.size ≠ bm := by omega
    have n1 : w2.heap.size ≠ bm := by omega
    have g0 : ∀ p : PB bm (KnM (lvB n L game) 4 n L [] bm) w3, p.to.cell? ⟨w2.heap.size, 0, none⟩ = some (.iface K (.agg #[])) := fun p => p.cell f0 n1
    have g1 : ∀ p : PB bm (KnM (lvB n L game) 4 n L [] bm) w3, p.to.cell? ⟨w2.heap.size, 1, none⟩ = some (.func (.func 62) #[] #[]) := fun p => p.cell f1 n1
    have g2 : ∀ p : PB bm (KnM (lvB n L game) 4 n L [] bm) w3, p.to.cell? ⟨w2.heap.size, 2, none⟩ = some (.map (some bm)) := fun p => p.cell f2 n1
    have q0 : ∀ p : PB bm (KnM (lvB n L game) 4 n L [] bm) w3, p.to.cell? ⟨W.heap.size, 0, none⟩ = some (.int .i64 n) := fun p => p.cell x0 n0
    have q1 : ∀ p : PB bm (KnM (lvB n L game) 4 n L [] bm) w3, p.to.cell? ⟨W.heap.size, 1, none⟩ = some (.int .i64 L) := fun p => p.cell x1 n0
    have q2 : ∀ p : PB bm (KnM (lvB n L game) 4 n L [] bm) w3, p.to.cell? ⟨W.heap.size, 2, none⟩ = some (.int .i64 R) := fun p => p.cell x2 n0
    have q3 : ∀ p : PB bm (KnM (lvB n L game) 4 n L [] bm) w3, p.to.cell? ⟨W.heap.size, 3, none⟩ = some (.int .i64 B) := fun p => p.cell x3 n0
    clear hw3 hB3' hS3 f0 f1 f2 x0 x1 x2 x3 hlt2
    go_wp2_with fail
    refine wp_region_pb (bm) (KnM (lvB n L game) 4 n L [] bm) (fun _ _ h k => KnM.keep h k) (by kernel_rfl) (by kernel_rfl) ?_
    repeat (first | fail | go_big_quiet_step ((first | (go_at_call 63; with_reducible exact retK_pb (HV0.out _ _ (PB.inv _ HK3.out))) | (go_at_call 63; with_reducible exact retK_pb (HV1.out _ _ (PB.inv _ HK3.out))))) | quiet_step ((first | (go_at_call 63; with_reducible exact retK_pb (HV0.out _ _ (PB.inv _ HK3.out))) | (go_at_call 63; with_reducible exact retK_pb (HV1.out _ _ (PB.inv _ HK3.out))))))
    refine wpQuiet_nil ?_
    rintro _ ⟨pq, rfl⟩
    have hfin : Below W.heap.size W pq.to := below_but hB3.out pq.old (by omega)
    have HFIN := hide hfin
    clear hfin g0 g1 g2 q0 q1 q2 q3
    go_wp2_with fail
    go_ret3
    exact ⟨rfl, HFIN.out⟩
  · obtain ⟨c, hcc⟩ : ∃ c, c = codeP n L R B game 0 := ⟨_, rfl⟩
    have HR : Hid (outR n L R B game = .tuple #[.bool false, .bool false, .int .i64 c]) := hide (by unfold outR; rw [if_neg hc, hcc])
    rw [HR.out]
    rw [← hcc] at hc
    have HC := hide hcc.symm
    have HN := hide hc
    have hd : (c != 0) = true := by simp [hc]
    clear hcc hc
    go_enter Try.func30, Try.ntmps30
    go_wp2_with fail
    refine (rulesFor_bad HC.out HN.out _).mono ?_
    rintro e w1 ⟨rfl, hb1⟩
    (try clear X0 X1 X2 X3)
    have hX1 := hide (hX0.out.keep hb1)
    obtain ⟨X0, X1, X2, X3⟩ := hX1.out
    have hB1 := hide (Below.trans' hB0.out hb1)
    clear hb1
    go_wp2_with fail
    go_ret3
    exact ⟨rfl, hB1.out⟩

end Go.Proofs.Ytdimmlpnfghndaa
