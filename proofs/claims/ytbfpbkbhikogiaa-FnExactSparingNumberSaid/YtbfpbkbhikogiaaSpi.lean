/-
  Ends of dots and boxes: SparingNumber, the program's text.
-/
import Derived.Test.YtbfpbkbhikogiaaIts
import Derived.Test.YtbfpbkbhikogiaaSpn
namespace Go.Proofs.Ytbfpbkbhikogiaa
open Go.RowKit Go.Shelf
attribute [local go_sem] Oper.semAt_some
set_option linter.unusedVariables false

/-- Between two rounds: the number's box; all below it as it was. -/
def MidS (ss : List (Int × Int)) {n : Nat} (pre : List (Pl n)) (N5 : Nat) (W3 W : World) : Prop :=
  N5 + 2 ≤ W.heap.size ∧ W.heap[N5]? = some (.cells #[.int .i64 (spL ss pre)] 2 (0, 0)) ∧ Below N5 W3 W
theorem MidS.below {ss : List (Int × Int)} {n : Nat} {pre : List (Pl n)} {N5 : Nat} {w2 W W' : World} (h : MidS ss pre N5 w2 W) (hb : Below (N5 + 2) W W') : MidS ss pre N5 w2 W' :=
  ⟨Nat.le_trans h.1 hb.size, (hb.block _ (by omega)).trans h.2.1, h.2.2.trans (hb.mono (by omega))⟩
theorem MidS.put {ss : List (Int × Int)} {n : Nat} {pre : List (Pl n)} {x : Pl n} {N5 : Nat} {w2 W W' : World} {v : Int} (h : MidS ss pre N5 w2 W) (hb : Below W.heap.size W W') (hv : stepS ss x.1 (spL ss pre) = v) : MidS ss (pre ++ [x]) N5 w2 (W'.setCell ⟨N5, 0, none⟩ (.int .i64 v)) := by
  refine ⟨?_, ?_, ?_⟩
  · have := hb.size
    have := h.1
    simp [World.setCell]
    omega
  · rw [spL_snoc, hv]
    exact heap_setCell_same _ N5 0 _ _ _ ((hb.block _ (by have := h.1; omega)).trans h.2.1)
  · exact (h.2.2.trans (hb.mono (by have := h.1; omega))).setCell (p := ⟨N5, 0, none⟩) (Nat.le_refl _) _
theorem cellsOwn {B nb : Nat} {cs : Array Value} {t : TypeId} {fr : Nat × Nat} : OwnFrom B (fun (_ : Unit) W => W.heap[nb]? = some (.cells cs t fr)) := fun _ W W' row hs hg hr =>
  (hg.block nb (Array.getElem?_eq_some_iff.1 hs).1 (fun e => by
    obtain ⟨_, o, ho, hc⟩ := hr nb e.symm
    have hs' : W.heap[nb]? = some (.cells cs t fr) := hs
    rw [hs'] at ho
    cases ho
    cases hc)).trans hs

theorem AnsPost_eq (k b : Int) (W : World) : AnsPost k b W = fun e W' => ∃ g, e = .returned (.slice (some ⟨g, 0, none⟩) (nAns k b) (nAns k b)) ∧ AnsAt W' g k b ∧ Below W.heap.size W W' := rfl

set_option maxRecDepth 100000 in
set_option maxHeartbeats 4000000 in
theorem implSpar_ok (a : Option Addr) (c : Nat) (cs : List Int) (a' : Option Addr) (c' : Nat) (ls : List Int) (W : World) (ha : IntsAt W a cs) (ha' : IntsAt W a' ls) (hl : cs.length ≤ 1048576) (hl' : ls.length ≤ 1048576) (hok : okEn cs ls = true) :
    Calls Try.prog 21 #[.agg #[.slice a cs.length c, .slice a' ls.length c']] W (RetB (.tuple #[.int .i64 (spar (strs cs ls)), .int .i64 0]) W) := by
  have hB0 := hide (below_alloc W (.cells #[.slice a cs.length c, .slice a' ls.length c'] 26))
  have hX0 := endIn_new W a cs.length c a' ls.length c' 26
  have hA0 := hide (ha.keep hB0.out)
  have hA0' := hide (ha'.keep hB0.out)
  have HX0 := hide hX0
  obtain ⟨c0, c1⟩ := hX0
  have HK := hide hok
  obtain ⟨ss, hss⟩ : ∃ ss, ss = strs cs ls := ⟨_, rfl⟩
  have HSS := hide hss
  have h8 := (okEn_parts hok).1
  have hn8 : ss.length ≤ 8 := by rw [hss, strs_len]; exact h8
  have HM : Hid (∀ s ∈ ss, (s.1 = 0 ∧ 1 ≤ s.2 ∨ s.1 = 1 ∧ 4 ≤ s.2) ∧ s.2 ≤ 30) := hide (by rw [hss]; exact strs_mem hok)
  clear ha ha' hok hss
  refine (callsIn_wide (n := 6)).1 ?_
  refine callsIn_of_wp_marks Try.func21 rfl trivial ?_ rfl
  simp only [Try.ntmps21, List.size_toArray, List.length_cons, List.length_nil, Nat.reduceAdd, Nat.reduceSub, Array.replicate_succ, Array.replicate_zero, List.push_toArray, List.append_toArray, List.nil_append, List.cons_append]
  gi_wp2_with (first
    | (refine ⟨trivial, ?_⟩; gi_at_call 38; refine (callsIn_wide.2 (implIsE_any _ _ cs _ _ ls _ hA0.out hA0'.out hl hl')).mono ?_; rw [HK.out]; rintro e w1 ⟨rfl, hb1⟩; have hB1 := hide (Below.trans' hB0.out hb1); have hA1 := hide (hA0.out.keep hb1); have hA1' := hide (hA0'.out.keep hb1); have hX1 := HX0.out.keep hb1; clear hb1 c0 c1; obtain ⟨c0, c1⟩ := hX1)
    | (refine ⟨trivial, ?_⟩; gi_at_call 60; refine (callsIn_wide.2 (strandsOf_any _ _ cs _ _ ls _ hA1.out hA1'.out h8)).mono ?_; rw [← HSS.out]; rintro e w2 ⟨a2, k2, rfl, ho2, hb2⟩; have hB2 := hide (Below.trans' hB1.out hb2); have hS2 := hide (sliceS_of_own ho2); clear hb2 ho2 c0 c1)
    | (refine ⟨trivial, ?_⟩; gi_at_call 64; refine (callsIn_wide.2 (backward_any _ _ _ _)).mono ?_; rintro e w3 ⟨rfl, rfl⟩))
  obtain ⟨N5, hN5⟩ : ∃ N5, N5 = w2.heap.size + 1 := ⟨_, rfl⟩
  obtain ⟨nn, hnn⟩ : ∃ nn, nn = ss.length := ⟨_, rfl⟩
  rw [← hnn] at hn8 ⊢
  have HNN := hide hnn
  obtain ⟨W3, hW3⟩ : ∃ W3, W3 = ((w2.alloc (.cells #[.slice a2 nn k2] 76)).alloc (.cells #[.int .i64 0] 2)).alloc (.cells #[.slice a2 nn k2] 76) := ⟨_, rfl⟩
  have hb3 : Below w2.heap.size w2 W3 := by rw [hW3]; exact ((below_alloc _ _).alloc (by simp) _).alloc (by simp; omega) _
  have hs3 : W3.heap.size = N5 + 2 := by rw [hW3, hN5]; simp
  have hq4 : W3.heap[w2.heap.size]? = some (.cells #[.slice a2 nn k2] 76 (0, 0)) := by
    rw [hW3, Below.heap_alloc _ _ _ (by simp; omega), Below.heap_alloc _ _ _ (by simp)]
    exact heap_alloc_new w2 _
  have hq5 : W3.heap[N5]? = some (.cells #[.int .i64 0] 2 (0, 0)) := by
    rw [hW3, hN5, Below.heap_alloc _ _ _ (by simp)]
    have := heap_alloc_new (w2.alloc (.cells #[.slice a2 nn k2] 76)) (.cells #[.int .i64 0] 2 (0, 0))
    simpa using this
  have hq6 : W3.heap[N5 + 1]? = some (.cells #[.slice a2 nn k2] 76 (0, 0)) := by
    rw [hW3, hN5]
    have := heap_alloc_new ((w2.alloc (.cells #[.slice a2 nn k2] 76)).alloc (.cells #[.int .i64 0] 2)) (.cells #[.slice a2 nn k2] 76 (0, 0))
    simpa using this
  rw [← hW3]
  have hM0 : Hid (MidS ss ([] : List (Pl nn)) N5 W3 W3) := hide ⟨by omega, hq5, Below.refl _ _⟩
  have hBW3 := hide (Below.trans' hB2.out hb3)
  have hS3 := hide (hS2.out.keep hb3)
  obtain ⟨gb, hgb, hga, hgc⟩ : ∃ gb, (0 < nn → gb < N5) ∧ (0 < nn → a2 = some ⟨gb, 0, none⟩) ∧ (0 < nn → StrsAt W3 gb ss) := by
    by_cases h0 : 0 < nn
    · obtain ⟨g, e, hg⟩ := hS2.out (by intro e; rw [HNN.out, e] at h0; simp at h0)
      refine ⟨g, fun _ => ?_, fun _ => e, fun _ => hg.keep hb3⟩
      have := World.block_lt_of_cell? w2 _ (hg 0 ss[0] (List.getElem?_eq_getElem (by rw [← HNN.out]; exact h0))).1
      simp at this
      omega
    · exact ⟨0, fun h => absurd h h0, fun h => absurd h h0, fun h => absurd h h0⟩
  have hcells : Hid (∀ p, p < nn → W3.cell? ⟨gb, p * 2, none⟩ = some (.int .i64 (ss[p]?.getD (0, 0)).1) ∧ W3.cell? ⟨gb, p * 2 + 1, none⟩ = some (.int .i64 (ss[p]?.getD (0, 0)).2)) := hide (fun p hp => by
    have hs := List.getElem?_eq_getElem (l := ss) (i := p) (by rw [← HNN.out]; exact hp)
    have := hgc (by omega) p _ hs
    rw [hs]
    exact this)
  have hbox6 : W3.cell? ⟨N5 + 1, 0, none⟩ = some (.slice a2 nn k2) := (cell_of_row _ _ 0 _ _ (0, 0) hq6).trans rfl
  have HQ4 := hide hq4
  have eN : w2.heap.size + 1 = N5 := hN5.symm
  have eN2 : w2.heap.size + 1 + 1 = N5 + 1 := by omega
  have H4 : Hid (w2.heap.size < N5) := hide (by omega)
  simp only [eN]
  clear hW3 hq4 hq5 hq6 hb3 hN5 hnn hgc eN eN2
  refine wpIn_rangeFunc_ownH (F := Fence.wide) rfl (by omega) (gf := 95) (lb := #[.pointer (some ⟨N5 + 1, 0, none⟩)]) rfl trivial (enters_of Try.func95 (by kernel_rfl) rfl)
    (iter_stops 5 (by omega) (N5 + 1) N5 gb k2 nn a2 (fun p => (ss[p]?.getD (0, 0)).1) (fun p => (ss[p]?.getD (0, 0)).2) (by omega) hgb hga W3 (by omega) (by omega) hbox6 hcells.out) KeepB.trans (keepB_b (by omega) (by omega)) (Below.refl _ _) (fun _ => rfl)
    (fun pre W => MidS ss pre N5 W3 W)
    (fun _ _ _ => False)
    (ownFrom_of_below (fun s W h => by rw [hs3]; exact h.1) (fun s W W' h hb => h.below (by rw [← hs3]; exact hb)))
    (fun _ _ _ _ _ hs _ _ => hs)
    hM0.out
    (fun x ac V => ∃ nb : Nat, ac = { tmps := #[.agg #[.slice a cs.length c, .slice a' ls.length c'], .pointer (some ⟨W.heap.size, 0, none⟩), .int .i64 0, .int .i64 0, .pointer (some ⟨w2.heap.size, 0, none⟩), .pointer (some ⟨N5, 0, none⟩), .int .i64 (x.1 : Int), .pointer (some ⟨nb, 0, none⟩), undef, undef, .agg #[.slice a cs.length c, .slice a' ls.length c'], .bool true, .bool false, .agg #[.slice a cs.length c, .slice a' ls.length c'], .slice a2 nn k2, .slice a2 nn k2, .func (.func 95) #[] #[.pointer (some ⟨N5 + 1, 0, none⟩)], .int .i64 (x.1 : Int), .agg #[.int .i64 (ss[x.1]?.getD (0, 0)).1, .int .i64 (ss[x.1]?.getD (0, 0)).2], undef, undef, undef, undef, undef, undef, undef, undef, undef, undef, undef, undef, undef, undef, undef, undef, undef, undef, undef, undef, undef, undef], defers := [] } ∧ V.heap[nb]? = some (Obj.cells #[Value.int .i64 (ss[x.1]?.getD (0, 0)).1, Value.int .i64 (ss[x.1]?.getD (0, 0)).2] 65 (0, 0)))
    ?own ?assign ?body ?done ?stop
  case own =>
    rintro x ac s V V' row ⟨nb, rfl, h⟩ hg hr
    exact ⟨nb, rfl, cellsOwn () V V' row h hg hr⟩
  case assign =>
    intro l pre x V K hM hK
    have hb := below_alloc V (.cells #[.int .i64 (ss[x.1]?.getD (0, 0)).1, .int .i64 (ss[x.1]?.getD (0, 0)).2] 65)
    have h1 := hM.1
    gi_wp2
    exact hK _ _ ((keepsOthers_below hb).from _) (KeepB.of_below hb (by omega) (by omega)) (hM.below (hb.mono h1)) ⟨V.heap.size, rfl, heap_alloc_new V _⟩
  case body =>
    rintro l pre x ac V hl3 hrec hM ⟨nb, rfl, hnb⟩ hlt
    obtain ⟨⟨kx, bx⟩, hkb⟩ : ∃ s, ss[x.1]? = some s := ⟨_, List.getElem?_eq_getElem (by rw [← HNN.out]; exact x.2)⟩
    rw [hkb] at hnb ⊢
    simp only [Option.getD_some] at hnb ⊢
    have hm := HM.out _ (mem_of_get hkb)
    have hk01 : Hid (kx = 0 ∨ kx = 1) := hide (by rcases hm.1 with h | h; exact .inl h.1; exact .inr h.1)
    obtain ⟨xp, hxp⟩ : ∃ xp, xp = x.1 := ⟨_, rfl⟩
    have hxn : xp < nn := by rw [hxp]; exact x.2
    have hb0 : 0 ≤ bx := by rcases hm.1 with h | h <;> have := h.2 <;> simp at this <;> omega
    have hb1 : bx ≤ 30 := hm.2
    obtain ⟨acc, hacc⟩ : ∃ acc, acc = spL ss pre := ⟨_, rfl⟩
    have hab := spL_bd (ss := ss) (fun s hs => by have := HM.out s hs; omega) pre
    rw [← hacc] at hab
    have ha0 : -400 ≤ acc := by omega
    have ha1 : acc ≤ 400 := by omega
    have hn5 := hM.2.1
    rw [← hacc] at hn5
    have e5 : V.cell? ⟨N5, 0, none⟩ = some (.int .i64 acc) := (cell_of_row _ _ 0 _ _ (0, 0) hn5).trans rfl
    have f5 : V.frozen? ⟨N5, 0, none⟩ = false := frozen_of_row _ _ 0 _ _ hn5
    have e4 : V.cell? ⟨w2.heap.size, 0, none⟩ = some (.slice a2 nn k2) := (cell_of_row _ _ 0 _ _ (0, 0) ((hM.2.2.block _ H4.out).trans HQ4.out)).trans rfl
    obtain ⟨b0, b1, _⟩ := row2' hnb
    have HSTEP : Hid (stepS ss x.1 (spL ss pre) = if spOpen (kx, bx) = true ∧ xp + 1 < nn then bx - 2 * leftOf kx + acc else bx - acc) := hide (by unfold stepS; rw [hkb, ← hacc, ← HNN.out, ← hxp]; rfl)
    have HMM := hide hM
    rw [← hxp]
    clear hm hnb hn5 hM hacc hab hkb hxp hrec hcells hbox6 hgb hga
    have HALL : Hid (∀ (v : Int) (w6 : World), Below V.heap.size V w6 → (if spOpen (kx, bx) = true ∧ xp + 1 < nn then bx - 2 * leftOf kx + acc else bx - acc) = v → KeepsFrom W3.heap.size V (w6.setCell ⟨N5, 0, none⟩ (.int .i64 v)) ∧ KeepB N5 (N5 + 1) V (w6.setCell ⟨N5, 0, none⟩ (.int .i64 v)) ∧ MidS ss (pre ++ [x]) N5 W3 (w6.setCell ⟨N5, 0, none⟩ (.int .i64 v))) := hide (fun v w6 hb6 hv => by
      have h1 := HMM.out.1
      refine ⟨((keepsOthers_below hb6).trans (KeepsOthers.setCell _ _ _)).from _, (KeepB.of_below hb6 (by omega) (by omega)).trans ⟨(Below.refl _ _).setCell (p := ⟨N5, 0, none⟩) (Nat.le_refl _) _, Below.heap_setCell w6 _ _ _ (by simp)⟩, HMM.out.put hb6 (by rw [HSTEP.out]; exact hv)⟩)
    clear HMM HSTEP
    cases ho : spOpen (kx, bx)
    · have HO := hide ho
      have HN : Hid (nAns kx bx = 1) := hide (by unfold nAns; rw [ho]; rfl)
      clear ho
      by_cases hlast : xp + 1 < nn
      · have hq : ((xp : Int) == (nn : Int) - 1) = false := by rw [beq_eq_false_iff_ne]; omega
        have HV : Hid ((if spOpen (kx, bx) = true ∧ xp + 1 < nn then bx - 2 * leftOf kx + acc else bx - acc) = bx + -acc) := hide (by rw [if_neg (fun h => by rw [HO.out] at h; cases h.1)]; omega)
        gi_wp2_with (first
          | (refine ⟨trivial, ?_⟩; gi_at_call 65; refine (CallsIn.inRound l (callsIn_wide.2 (answers_any kx bx _ hk01.out))).mono ?_; rw [AnsPost_eq, HN.out]; rintro e w5 ⟨g, rfl, hAns, hb5⟩; have HB5 := hide hb5; have d5 := cell_keep hb5 e5; have t5 := (hb5.frozen (p := ⟨N5, 0, none⟩) (World.block_lt_of_cell? V _ e5)).trans f5; have d4 := cell_keep hb5 e4; have p0 := cell_keep hb5 b0; have p1 := cell_keep hb5 b1; have q0 := hAns.1; clear hb5 hAns e5 f5 e4 b0 b1)
          | (refine ⟨trivial, ?_⟩; gi_at_call 96; refine (CallsIn.inRound l (callsIn_wide.2 (greedy_any kx bx (-acc) _ hb0 hb1 (by omega) (by omega)))).mono ?_; rintro e w6 ⟨rfl, hb6⟩; have HB6 := hide (Below.trans' HB5.out hb6); have d6 := cell_keep hb6 d5; have t6 := (hb6.frozen (p := ⟨N5, 0, none⟩) (World.block_lt_of_cell? w5 _ d5)).trans t5; clear hb6 d5 t5 d4 p0 p1 q0))
        exact HALL.out _ _ HB6.out (by first | exact HV.out | (rw [HV.out]; omega))
      · have hq : ((xp : Int) == (nn : Int) - 1) = true := by rw [beq_iff_eq]; omega
        have HV : Hid ((if spOpen (kx, bx) = true ∧ xp + 1 < nn then bx - 2 * leftOf kx + acc else bx - acc) = bx + -acc) := hide (by rw [if_neg (fun h => hlast h.2)]; omega)
        gi_wp2_with (first
          | (refine ⟨trivial, ?_⟩; gi_at_call 65; refine (CallsIn.inRound l (callsIn_wide.2 (answers_any kx bx _ hk01.out))).mono ?_; rw [AnsPost_eq, HN.out]; rintro e w5 ⟨g, rfl, hAns, hb5⟩; have HB5 := hide hb5; have d5 := cell_keep hb5 e5; have t5 := (hb5.frozen (p := ⟨N5, 0, none⟩) (World.block_lt_of_cell? V _ e5)).trans f5; have d4 := cell_keep hb5 e4; have p0 := cell_keep hb5 b0; have p1 := cell_keep hb5 b1; have q0 := hAns.1; clear hb5 hAns e5 f5 e4 b0 b1)
          | (refine ⟨trivial, ?_⟩; gi_at_call 96; refine (CallsIn.inRound l (callsIn_wide.2 (greedy_any kx bx (-acc) _ hb0 hb1 (by omega) (by omega)))).mono ?_; rintro e w6 ⟨rfl, hb6⟩; have HB6 := hide (Below.trans' HB5.out hb6); have d6 := cell_keep hb6 d5; have t6 := (hb6.frozen (p := ⟨N5, 0, none⟩) (World.block_lt_of_cell? w5 _ d5)).trans t5; clear hb6 d5 t5 d4 p0 p1 q0))
        exact HALL.out _ _ HB6.out (by first | exact HV.out | (rw [HV.out]; omega))
    · have HO := hide ho
      have HN : Hid (nAns kx bx = 2) := hide (by unfold nAns; rw [ho]; rfl)
      clear ho
      by_cases hlast : xp + 1 < nn
      · have hq : ((xp : Int) == (nn : Int) - 1) = false := by rw [beq_eq_false_iff_ne]; omega
        have HV : Hid ((if spOpen (kx, bx) = true ∧ xp + 1 < nn then bx - 2 * leftOf kx + acc else bx - acc) = bx - 2 * leftOf kx - -acc) := hide (by rw [if_pos ⟨HO.out, hlast⟩]; omega)
        gi_wp2_with (first
          | (refine ⟨trivial, ?_⟩; gi_at_call 65; refine (CallsIn.inRound l (callsIn_wide.2 (answers_any kx bx _ hk01.out))).mono ?_; rw [AnsPost_eq, HN.out]; rintro e w5 ⟨g, rfl, hAns, hb5⟩; have HB5 := hide hb5; have d5 := cell_keep hb5 e5; have t5 := (hb5.frozen (p := ⟨N5, 0, none⟩) (World.block_lt_of_cell? V _ e5)).trans f5; have d4 := cell_keep hb5 e4; have p0 := cell_keep hb5 b0; have p1 := cell_keep hb5 b1; have q0 := hAns.1; have q1 := hAns.2 HO.out; clear hb5 hAns e5 f5 e4 b0 b1)
          | (refine ⟨trivial, ?_⟩; gi_at_call 97; refine (CallsIn.inRound l (callsIn_wide.2 (sparing_any kx bx (-acc) _ hb0 hb1 (by omega) (by omega)))).mono ?_; rintro e w6 ⟨rfl, hb6⟩; have HB6 := hide (Below.trans' HB5.out hb6); have d6 := cell_keep hb6 d5; have t6 := (hb6.frozen (p := ⟨N5, 0, none⟩) (World.block_lt_of_cell? w5 _ d5)).trans t5; clear hb6 d5 t5 d4 p0 p1 q0))
        exact HALL.out _ _ HB6.out (by first | exact HV.out | (rw [HV.out]; omega))
      · have hq : ((xp : Int) == (nn : Int) - 1) = true := by rw [beq_iff_eq]; omega
        have HV : Hid ((if spOpen (kx, bx) = true ∧ xp + 1 < nn then bx - 2 * leftOf kx + acc else bx - acc) = bx + -acc) := hide (by rw [if_neg (fun h => hlast h.2)]; omega)
        gi_wp2_with (first
          | (refine ⟨trivial, ?_⟩; gi_at_call 65; refine (CallsIn.inRound l (callsIn_wide.2 (answers_any kx bx _ hk01.out))).mono ?_; rw [AnsPost_eq, HN.out]; rintro e w5 ⟨g, rfl, hAns, hb5⟩; have HB5 := hide hb5; have d5 := cell_keep hb5 e5; have t5 := (hb5.frozen (p := ⟨N5, 0, none⟩) (World.block_lt_of_cell? V _ e5)).trans f5; have d4 := cell_keep hb5 e4; have p0 := cell_keep hb5 b0; have p1 := cell_keep hb5 b1; have q0 := hAns.1; have q1 := hAns.2 HO.out; clear hb5 hAns e5 f5 e4 b0 b1)
          | (refine ⟨trivial, ?_⟩; gi_at_call 96; refine (CallsIn.inRound l (callsIn_wide.2 (greedy_any kx bx (-acc) _ hb0 hb1 (by omega) (by omega)))).mono ?_; rintro e w6 ⟨rfl, hb6⟩; have HB6 := hide (Below.trans' HB5.out hb6); have d6 := cell_keep hb6 d5; have t6 := (hb6.frozen (p := ⟨N5, 0, none⟩) (World.block_lt_of_cell? w5 _ d5)).trans t5; clear hb6 d5 t5 d4 p0 p1 q0))
        exact HALL.out _ _ HB6.out (by first | exact HV.out | (rw [HV.out]; omega))
  case done =>
    rintro D ys V hD rfl hM hK
    have e := HNN.out
    subst e
    have hn5 := hM.2.1
    rw [spL_downs, Nat.sub_self, List.drop_zero] at hn5
    have e5 : V.cell? ⟨N5, 0, none⟩ = some (.int .i64 (spar ss)) := (cell_of_row _ _ 0 _ _ (0, 0) hn5).trans rfl
    have HFIN : Hid (Below W.heap.size W (V.putObj D (.deferred none))) := hide (by
      have h1 := hBW3.out
      have h2 : W.heap.size ≤ N5 := by have := hB2.out.size; have := H4.out; omega
      exact (h1.trans (hM.2.2.mono h2)).trans (belowK_b (w := W3) (by omega) V D _ _ hD hK rfl rfl))
    have HE : Hid (spar (strs cs ls) = spar ss) := hide (by rw [← HSS.out])
    clear hM hn5
    gi_wp2
    refine ⟨by simp, .inl ⟨_, _, rfl, run_takeDeferred hK, ?_⟩⟩
    refine ⟨.tuple #[.int .i64 (spar ss), .int .i64 0], by simp [results, Try.results21, go_sem], ?_⟩
    exact ⟨by rw [HE.out], HFIN.out⟩
  case stop =>
    rintro D c pre V _ _ h _
    exact h.elim

set_option maxRecDepth 100000 in
set_option maxHeartbeats 1000000 in
theorem implSpar_any (a : Option Addr) (c : Nat) (cs : List Int) (a' : Option Addr) (c' : Nat) (ls : List Int) (W : World) (ha : IntsAt W a cs) (ha' : IntsAt W a' ls) (hl : cs.length ≤ 1048576) (hl' : ls.length ≤ 1048576) :
    Calls Try.prog 21 #[.agg #[.slice a cs.length c, .slice a' ls.length c']] W (RetB (numV (sparR cs ls)) W) := by
  cases hok : okEn cs ls
  · have hr : sparR cs ls = (0, 1) := by unfold sparR; rw [hok]; rfl
    rw [hr]
    obtain ⟨W0, hW0⟩ : ∃ W0, W0 = W.alloc (.cells #[.slice a cs.length c, .slice a' ls.length c'] 26) := ⟨_, rfl⟩
    have hB0 : Hid (Below W.heap.size W W0) := by rw [hW0]; exact hide (below_alloc _ _)
    have hX0 : Hid (EndIn W0 W.heap.size a cs.length c a' ls.length c') := by rw [hW0]; exact hide (endIn_new _ _ _ _ _ _ _ _)
    have hA0 := hide (ha.keep hB0.out)
    have hA0' := hide (ha'.keep hB0.out)
    obtain ⟨c0, c1⟩ := hX0.out
    have HK := hide hok
    clear ha ha' hok hr
    go_enter Try.func21, Try.ntmps21
    go_wp2_with fail
    rw [← hW0]
    clear hW0
    (try go_wp2_with fail)
    refine (implIsE_any _ _ cs _ _ ls _ hA0.out hA0'.out hl hl').mono ?_
    rw [HK.out]
    rintro e w1 ⟨rfl, hb1⟩
    have hB1 := hide (Below.trans' hB0.out hb1)
    clear hb1 c0 c1
    go_wp2_with fail
    go_ret2
    exact ⟨rfl, hB1.out⟩
  · have hr : sparR cs ls = (spar (strs cs ls), 0) := by unfold sparR; rw [hok]; rfl
    rw [hr]
    exact implSpar_ok a c cs a' c' ls W ha ha' hl hl' hok
end Go.Proofs.Ytbfpbkbhikogiaa
