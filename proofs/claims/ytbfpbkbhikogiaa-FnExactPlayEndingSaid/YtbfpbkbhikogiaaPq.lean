/-
  Ends of dots and boxes: PlayEnding, the model's text.
-/
import Derived.Test.YtbfpbkbhikogiaaPw
namespace Go.Proofs.Ytbfpbkbhikogiaa
open Go.RowKit Go.Maps
set_option linter.unusedVariables false

/-- A list of numbers that lies below lo, or in a row of numbers. -/
structure NumsAt (lo : Nat) (w : World) (a : Option Addr) (zs : List Int) : Prop where
  ints : IntsAt w a zs
  far : ∀ g off, a = some ⟨g, off, none⟩ → g < lo ∨ ∃ cur, w.heap[g]? = some (.cells cur 2 (0, 0))
theorem NumsAt.keep {lo : Nat} {w w' : World} {a : Option Addr} {zs : List Int} (h : NumsAt lo w a zs) (hb : Below w.heap.size w w') : NumsAt lo w' a zs :=
  ⟨h.ints.keep hb, fun g off e => by
    rcases h.far g off e with h1 | ⟨cur, h1⟩
    · exact .inl h1
    · exact .inr ⟨cur, box_keep h1 hb⟩⟩
theorem NumsAt.old {lo : Nat} {w : World} {a : Option Addr} {zs : List Int} (h : IntsAt w a zs) (hl : ∀ g off, a = some ⟨g, off, none⟩ → g < lo) : NumsAt lo w a zs := ⟨h, fun g off e => .inl (hl g off e)⟩
theorem NumsAt.own {lo base c : Nat} {w : World} {a : Option Addr} {zs : List Int} (h : w.ownsRow base 2 1 (.slice a zs.length c) zs.length (zs.map intV)) : NumsAt lo w a zs :=
  ⟨intsAt_of_ownsRow h, fun g off e => by
    rcases h.2 with ⟨hv, _⟩ | ⟨g', cap, cur, hv, _, hh, _⟩
    · simp only [Value.slice.injEq] at hv; rw [hv.1] at e; cases e
    · simp only [Value.slice.injEq] at hv
      rw [hv.1] at e
      simp at e
      rw [← e.1]
      exact .inr ⟨cur, hh⟩⟩
theorem NumsAt.grown {lo base n : Nat} {w w' : World} {a : Option Addr} {zs : List Int} {v : Value} {vs : List Value} (h : NumsAt lo w a zs) (hg : w.grownBy w' v.ownBlock) (ho : w.ownsRow base 24 1 v n vs) (hb : lo ≤ base) : NumsAt lo w' a zs := by
  have hne : ∀ g off, a = some ⟨g, off, none⟩ → v.ownBlock ≠ some g := fun g off e hv => by
    rcases h.far g off e with h1 | ⟨cur, h1⟩
    · have := (ho.lt g hv).1; omega
    · exact row_not_box' ho h1 nums_not_rows hv
  refine ⟨fun hz => ?_, fun g off e => ?_⟩
  · obtain ⟨b, off, rfl, hc⟩ := h.ints hz
    refine ⟨b, off, rfl, fun i hi => ?_⟩
    have h1 := hc i hi
    rw [List.getElem?_eq_getElem hi] at h1 ⊢
    exact (World.cell?_of_block (hg.block b (World.block_lt_of_cell? w _ h1) (fun e => hne b off rfl e.symm))).trans h1
  · rcases h.far g off e with h1 | ⟨cur, h1⟩
    · exact .inl h1
    · exact .inr ⟨cur, (hg.block g (block_lt h1) (fun e2 => hne g off e e2.symm)).trans h1⟩
theorem NumsAt.setX {lo o : Nat} {w : World} {a : Option Addr} {zs : List Int} {X : Nat} {u x y : Value} {t : TypeId} (h : NumsAt lo w a zs) (hX : w.heap[X]? = some (.cells #[x, y] t (0, 0))) (hx : ∀ n, x ≠ .int .i64 n) (hy : ∀ n, y ≠ .int .i64 n) (ht : t ≠ 2) : NumsAt lo (w.setCell ⟨X, o, none⟩ u) a zs :=
  ⟨ints_set h.ints hX hx hy, fun g off e => by
    rcases h.far g off e with h1 | ⟨cur, h1⟩
    · exact .inl h1
    · refine .inr ⟨cur, (Below.heap_setCell _ _ _ _ (fun e2 => ?_)).trans h1⟩
      have e2 : g = X := e2
      subst e2
      rw [h1] at hX
      simp at hX
      exact ht hX.2.symm⟩
theorem NumsAt.set {lo : Nat} {w : World} {a : Option Addr} {zs : List Int} {X : Nat} {a1 a2 : Option Addr} {n1 c1 n2 c2 : Nat} (h : NumsAt lo w a zs) (hX : w.heap[X]? = some (.cells #[.slice a1 n1 c1, .slice a2 n2 c2] 26 (0, 0))) (u : Value) : NumsAt lo (w.setCell ⟨X, 0, none⟩ u) a zs := h.setX hX (fun n e => by cases e) (fun n e => by cases e) (by decide)
theorem NumsAt.set1 {lo : Nat} {w : World} {a : Option Addr} {zs : List Int} {X : Nat} {a1 a2 : Option Addr} {n1 c1 n2 c2 : Nat} (h : NumsAt lo w a zs) (hX : w.heap[X]? = some (.cells #[.slice a1 n1 c1, .slice a2 n2 c2] 26 (0, 0))) (u : Value) : NumsAt lo (w.setCell ⟨X, 1, none⟩ u) a zs := h.setX hX (fun n e => by cases e) (fun n e => by cases e) (by decide)

/-- The strand of an opening is in the ending. -/
theorem open_wo {cs ls : List Int} (hok : okEn cs ls = true) {p : Nat} (hp : p < 62) (h0 : 0 < tg (cntL cs ls) p) : ∃ xs ys, woL cs ls (decide (knd p = 1)) (bxs p) = (xs, ys, true) ∧ okEn xs ys = true ∧ cntL xs ys = decT (cntL cs ls) p ∧ kindOf (decide (knd p = 1)) = knd p := by
  obtain ⟨h1, h2⟩ := okEn_rng hok
  have hb := bxs_pos hok hp h0
  by_cases h31 : p < 31
  · obtain ⟨e1, e2⟩ := knd_lt h31
    have hm : bxs p ∈ cs := by
      rw [e2]
      by_cases hh : ((p : Nat) : Int) ∈ cs
      · exact hh
      · rw [cntL_none0 h31 hh] at h0; omega
    have hd : decide (knd p = 1) = false := by rw [e1]; rfl
    rw [hd]
    have hw := okEn_wo hok false (bxs p)
    refine ⟨cs.erase (bxs p), ls, by simp [woL, hm], hw, ?_, by rw [e1]; rfl⟩
    have := cntL_erase0 (ls := ls) (show 0 ≤ bxs p ∧ bxs p ≤ 30 by omega) hm
    rw [this]
    congr 1
    omega
  · obtain ⟨e1, e2⟩ := knd_ge (by omega) hp
    have hm : bxs p ∈ ls := by
      rw [e2]
      by_cases hh : ((p - 31 : Nat) : Int) ∈ ls
      · exact hh
      · rw [cntL_none1 (by omega) hp hh] at h0; omega
    have hd : decide (knd p = 1) = true := by rw [e1]; rfl
    rw [hd]
    have hw := okEn_wo hok true (bxs p)
    refine ⟨cs, ls.erase (bxs p), by simp [woL, hm], hw, ?_, by rw [e1]; rfl⟩
    have := cntL_erase1 (cs := cs) (show 0 ≤ bxs p ∧ bxs p ≤ 30 by omega) hm
    rw [this]
    congr 1
    omega

set_option maxRecDepth 100000 in
set_option maxHeartbeats 16000000 in
theorem specPlay_any (a : Option Addr) (c : Nat) (cs : List Int) (a' : Option Addr) (c' : Nat) (ls : List Int) (W : World) (ha : IntsAt W a cs) (ha' : IntsAt W a' ls) (hla : ∀ g off, a = some ⟨g, off, none⟩ → g < W.heap.size) (hla' : ∀ g off, a' = some ⟨g, off, none⟩ → g < W.heap.size) (hl : cs.length ≤ 1048576) (hl' : ls.length ≤ 1048576) :
    Calls Try.prog 45 #[.agg #[.slice a cs.length c, .slice a' ls.length c']] W (NewRows (playR cs ls).1 (playR cs ls).2 W) := by
  obtain ⟨W0, hW0⟩ : ∃ W0, W0 = W.alloc (.cells #[.slice a cs.length c, .slice a' ls.length c'] 26) := ⟨_, rfl⟩
  have hB0 : Hid (Below W.heap.size W W0) := by rw [hW0]; exact hide (below_alloc _ _)
  have hs0 : W0.heap.size = W.heap.size + 1 := by rw [hW0]; simp
  have hR0 : Hid (W0.heap[W.heap.size]? = some (.cells #[.slice a cs.length c, .slice a' ls.length c'] 26 (0, 0))) := by rw [hW0]; exact hide (heap_alloc_new W _)
  have hA0 := hide ((NumsAt.old ha hla).keep hB0.out)
  have hA0' := hide ((NumsAt.old ha' hla').keep hB0.out)
  obtain ⟨c0, c1, _⟩ := row2' hR0.out
  clear ha ha' hla hla'
  cases hok : okEn cs ls
  · have HR : Hid (playR cs ls = ([], 1)) := hide (by unfold playR; rw [hok]; rfl)
    have HK := hide hok
    clear hok
    rw [HR.out]
    go_enter Try.func45, Try.ntmps45
    go_wp2_with fail
    rw [← hW0]
    clear hW0
    (try go_wp2_with fail)
    refine (specIs_any _ _ cs _ _ ls _ hA0.out.ints hA0'.out.ints hl hl').mono ?_
    rw [HK.out]
    rintro e w1 ⟨rfl, hb1⟩
    have hB1 := hide (Below.trans' hB0.out hb1)
    clear hb1 c0 c1
    go_wp2_with fail
    refine bodyPost_ret (v := .tuple #[.slice none 0 0, .int .i64 1]) (by simp [results, Try.results45, go_sem]) rfl (newRows_nil _ _ _ hB1.out)
  · obtain ⟨i0, hi0, hz0, hz1, hz2⟩ := info_parts Try.info24
    obtain ⟨L0, hL0⟩ : ∃ L0, L0 = cntL cs ls := ⟨_, rfl⟩
    have hOT0 := okT_cnt hok
    rw [← hL0] at hOT0
    have HR : Hid (playR cs ls = (plays L0, 0)) := hide (by unfold playR; rw [hok, hL0]; rfl)
    have HK := hide hok
    have HPS := hide (Play.start hOT0)
    obtain ⟨n, hn⟩ : ∃ n, n = L0.sum := ⟨_, rfl⟩
    rw [← hn, hL0] at HPS
    have HN8 : Hid (n ≤ 8) := hide (by rw [hn]; exact hOT0.2)
    have HN := hide hn
    rw [← hL0] at HPS
    have HPS2 : Hid (Play L0 n (cntL cs ls) 0 []) := hide (by rw [← hL0]; exact HPS.out)
    clear hok hL0 hn hOT0 HPS
    rw [HR.out]
    go_enter Try.func45, Try.ntmps45
    go_wp2_with fail
    rw [← hW0]
    clear hW0
    (try go_wp2_with fail)
    refine (specIs_any _ _ cs _ _ ls _ hA0.out.ints hA0'.out.ints hl hl').mono ?_
    rw [HK.out]
    rintro e w1 ⟨rfl, hb1⟩
    obtain ⟨X, hX⟩ : ∃ X, X = W.heap.size := ⟨_, rfl⟩
    have hba := below_alloc w1 (.cells #[] 24)
    have hR1 := hide (box_keep (box_keep hR0.out hb1) hba)
    have hA1 := hide ((hA0.out.keep hb1).keep hba)
    have hA1' := hide ((hA0'.out.keep hb1).keep hba)
    have hB1 := hide (Below.trans' (Below.trans' hB0.out hb1) hba)
    have hs1 : W.heap.size + 1 ≤ w1.heap.size := by have := hb1.size; omega
    have hE := hide (heap_alloc_new w1 (.cells #[] 24 (0, 0)))
    clear hb1 hba c0 c1
    go_wp2_with fail
    (try go_frame)
    obtain ⟨W2, hW2⟩ : ∃ W2, W2 = w1.alloc (.cells #[] 24) := ⟨_, rfl⟩
    obtain ⟨E1, hE1⟩ : ∃ E1, E1 = w1.heap.size := ⟨_, rfl⟩
    rw [← hW2] at hR1 hA1 hA1' hB1 hE ⊢
    rw [← hX] at hR1 hA1 hA1' hB1 hs1 ⊢
    rw [← hE1] at hE hs1 ⊢
    obtain ⟨B, hBe⟩ : ∃ B, B = X + 1 := ⟨_, rfl⟩
    have hXB : X < B := by omega
    have hWB : X ≤ B := by omega
    have hWX : X ≤ X := Nat.le_refl _
    have hO2 : Hid (OwnR B W2 (.slice (some ⟨E1, 0, none⟩) 0 0) [] []) := hide (OwnR.empty hE.out (by omega))
    have hBW2 : B ≤ W2.heap.size := by have := block_lt hE.out; omega
    have HXW := hide hX
    have HB1 := hide (Below.refl X W2)
    clear hW2 hE1 hE hX hs0 hs1
    go_loopg [4, 5] n (fun g s4 s5 wr => ∃ (a : Option Addr) (c : Nat) (cs : List Int) (a' : Option Addr) (c' : Nat) (ls : List Int) (op : Int) (xss : List (List Int)) (gs : List Nat) (v : Value), s4 = v ∧ s5 = .int .i64 op ∧ wr.heap[X]? = some (.cells #[.slice a cs.length c, .slice a' ls.length c'] 26 (0, 0)) ∧ NumsAt X wr a cs ∧ NumsAt X wr a' ls ∧ okEn cs ls = true ∧ Hid (Play L0 g (cntL cs ls) op xss) ∧ OwnR B wr v gs xss ∧ Below X W2 wr)
    case atStart => exact ⟨a, c, cs, a', c', ls, 0, [], [], _, rfl, rfl, hR1.out, hA1.out, hA1'.out, HK.out, HPS2, hO2.out, HB1.out⟩
    case round =>
      clear HPS2 hO2 hR1 hA1 hA1' HB1 hA0 hA0' hR0 hB0 HK hl hl'
      rename_i a0' c0' cs0' a1' c1' ls0'
      obtain ⟨a, c, cs, a', c', ls, op, xss, gs, v, rfl, rfl, hXr, hA, hA', hok, hP, hO, hB⟩ := hrel
      obtain ⟨c0, c1, x0, x1⟩ := row2' hXr
      have hlen : cs.length + ls.length = (cntL cs ls).sum := (cntL_sum cs ls (fun x hx => by have := (okEn_rng hok).1 x hx; omega) (fun x hx => by have := (okEn_rng hok).2 x hx; omega)).symm
      rw [hP.out.sum] at hlen
      have HXR := hide hXr
      have HA := hide hA
      have HA' := hide hA'
      have HO := hide hO
      have HBR := hide hB
      have HOK := hide hok
      have hxl8 : xss.length ≤ 8 := by have h1 := hP.out.len; have := HN.out; have := HN8.out; omega
      cases gk with
      | zero =>
        have hxs : xss = plays L0 := by have := hP.out.all; simpa [playT] using this
        obtain ⟨av, cv, rfl⟩ := hO.form
        rw [hxs] at HO ⊢
        have hfin : Hid (NewRows (plays L0) 0 W (.returned (.tuple #[.slice av (plays L0).length cv, .int .i64 0])) wr) := hide ⟨av, cv, gs, rfl, HO.out.base (by have := HXW.out; omega), by have h1 := hB1.out.trans hB; rw [HXW.out] at h1; exact h1⟩
        have hz1' : cs.length = 0 := by omega
        have hz2' : ls.length = 0 := by omega
        rw [hz1'] at c0
        rw [hz2'] at c1
        clear hXr hA hA' hO hB hok hP hxs hlen
        go_wp2_with fail
        refine bodyPost_ret (v := .tuple #[.slice av (plays L0).length cv, .int .i64 0]) (by simp [results, Try.results45, go_sem]) rfl hfin.out
      | succ g2 =>
        have hOL := hP.out.ok
        have hpos : 0 < (cntL cs ls).sum := by rw [hP.out.sum]; omega
        have hm := op_mem hOL.1 hpos
        have hstep := hP.out.step
        have h01 := hP.out.o01
        have hpb := bxs_pos hok hm.1 hm.2
        have hop := fun (V : World) (h1 : IntsAt V a cs) (h2 : IntsAt V a' ls) => opening_any g2 a c cs a' c' ls V h1 h2 hok hlen (value_any g2)
        obtain ⟨xs, ys, hwo, hok2, hcnt, hkd⟩ := open_wo hok hm.1 hm.2
        have hvb := (okT_cnt hok2).bd
        obtain ⟨p, hp⟩ : ∃ p, p = opT (cntL cs ls) := ⟨_, rfl⟩
        rw [← hp] at hm hpb hop hwo hcnt hkd
        obtain ⟨lp, hlp⟩ : ∃ lp, lp = decide (knd p = 1) := ⟨_, rfl⟩
        obtain ⟨b, hb⟩ : ∃ b, b = bxs p := ⟨_, rfl⟩
        obtain ⟨y, hy⟩ : ∃ y, y = bV (cntL cs ls) (some p) := ⟨_, rfl⟩
        rw [← hlp, ← hb] at hwo
        rw [← hlp] at hkd
        rw [← hb] at hpb
        have hop2 : Hid (∀ (V : World), IntsAt V a cs → IntsAt V a' ls → Calls Try.prog 82 #[.agg #[.slice a cs.length c, .slice a' ls.length c']] V (RetB (.tuple #[.bool lp, .int .i64 b, .int .i64 y]) V)) := hide (fun V h1 h2 => by rw [hlp, hb, hy]; exact hop V h1 h2)
        obtain ⟨v4, hv4⟩ : ∃ v4, v4 = vT (cntL xs ys) := ⟨_, rfl⟩
        rw [← hv4] at hvb
        obtain ⟨f, hf⟩ : ∃ f, f = (ansB (kindOf lp) b v4).2 := ⟨_, rfl⟩
        obtain ⟨T, hT⟩ : ∃ T, T = (ansB (kindOf lp) b v4).1 := ⟨_, rfl⟩
        have hAns : Hid (∀ V : World, Calls Try.prog 58 #[.bool lp, .int .i64 b, .int .i64 v4] V (RetB (.tuple #[.int .i64 T, .bool f]) V)) := hide (fun V => by rw [hT, hf]; exact answer_any lp b v4 V (by omega) (by omega) hvb.1 hvb.2)
        have hsp : spB (cntL cs ls) p = f := by unfold spB; rw [← hkd, ← hb, ← hcnt, ← hv4, hf]
        have HRW : Hid (rowP (cntL cs ls) op = [kindOf lp, b, if f = true then 1 else 0, op]) := hide (by unfold rowP; rw [← hp, hsp, ← hkd, ← hb])
        have HNP : Hid (nextP (cntL cs ls) op = if f = true then op else 1 - op) := hide (by unfold nextP; rw [← hp, hsp])
        obtain ⟨L, hL⟩ : ∃ L, L = cntL cs ls := ⟨_, rfl⟩
        rw [← hL] at HRW HNP hstep
        have HSTEP : Hid (Play L0 g2 (cntL xs ys) (nextP L op) (xss ++ [rowP L op])) := hide (by rw [hcnt, ← hL, hp, ← hL]; exact hstep)
        have HOK2 := hide hok2
        have HWO := hide hwo
        have HV4 := hide hv4
        have hop0 : -1 ≤ op := by rcases h01 with h | h <;> omega
        have hop1 : op ≤ 2 := by rcases h01 with h | h <;> omega
        have hlc : cs.length ≤ 1048576 := by have := (okEn_parts hok).1; omega
        have hll : ls.length ≤ 1048576 := by have := (okEn_parts hok).1; omega
        clear hXr hA hA' hO hB hok hP hOL hpos hm hstep h01 hpb hop hwo hok2 hcnt hkd hvb hp hlp hb hy hv4 hf hT hsp hL
        go_wp2_with fail
        refine (hop2.out _ HA.out.ints HA'.out.ints).mono ?_
        rintro e w6 ⟨rfl, hb6⟩
        have hX6 := hide (box_keep HXR.out hb6)
        have hA6 := hide (HA.out.keep hb6)
        have hA6' := hide (HA'.out.keep hb6)
        have hO6 := hide (HO.out.keep hb6)
        have hB6 : Hid (Below X W2 w6) := hide (HBR.out.trans (hb6.mono (by have := HBR.out.size; omega)))
        have hBw6 : B ≤ w6.heap.size := by have := HBR.out.size; have := hb6.size; omega
        clear hb6 c0 c1 x0 x1
        obtain ⟨c0, c1, _⟩ := row2' hX6.out
        go_wp2_with fail
        refine (without_at _ _ cs _ _ ls lp b xs ys true HWO.out _ hA6.out.ints hA6'.out.ints hlc hll).mono ?_
        rintro e w7 ⟨a6, k6, a6', k6', rfl, ho7, ho7', _, hb7⟩
        have hba7 := below_alloc w7 (.cells #[.slice a6 xs.length k6, .slice a6' ys.length k6'] 26)
        have hI8 := hide ((NumsAt.own (lo := X) ho7).keep hba7)
        have hI8' := hide ((NumsAt.own (lo := X) ho7').keep hba7)
        have hX8 := hide (box_keep (box_keep hX6.out hb7) hba7)
        have hO8 := hide ((hO6.out.keep hb7).keep hba7)
        have hY8 := hide (heap_alloc_new w7 (.cells #[.slice a6 xs.length k6, .slice a6' ys.length k6'] 26 (0, 0)))
        have hB8 : Hid (Below X W2 (w7.alloc (.cells #[.slice a6 xs.length k6, .slice a6' ys.length k6'] 26))) := hide (hB6.out.trans ((Below.trans' hb7 hba7).mono (by omega)))
        have hBw7 : B ≤ w7.heap.size := by have := hb7.size; omega
        clear hb7 hba7 ho7 ho7' c0 c1
        obtain ⟨c0, c1, _⟩ := row2' hY8.out
        go_wp2_with fail
        refine (value_any _ _ _ xs _ _ ys _ hI8.out.ints hI8'.out.ints HOK2.out rfl).mono ?_
        rw [← HV4.out]
        rintro e w9 ⟨rfl, hb9⟩
        have hI9 := hide (hI8.out.keep hb9)
        have hI9' := hide (hI8'.out.keep hb9)
        have hX9 := hide (box_keep hX8.out hb9)
        have hO9 := hide (hO8.out.keep hb9)
        have hY9 := hide (box_keep hY8.out hb9)
        have hB9 : Hid (Below X W2 w9) := hide (hB8.out.trans (hb9.mono (by simp; omega)))
        have hBw9 : B ≤ w9.heap.size := by have := hb9.size; simp at this; omega
        clear hb9 c0 c1
        go_wp2_with fail
        refine (hAns.out _).mono ?_
        rintro e w10 ⟨rfl, hb10⟩
        have hI10 := hide (hI9.out.keep hb10)
        have hI10' := hide (hI9'.out.keep hb10)
        have hX10 := hide (box_keep hX9.out hb10)
        have hO10 := hide (hO9.out.keep hb10)
        have hY10 := hide (box_keep hY9.out hb10)
        have hB10 : Hid (Below X W2 w10) := hide (hB9.out.trans (hb10.mono (by omega)))
        have hBw : B ≤ w10.heap.size := by have := hb10.size; omega
        have hfr := hide hO10.out.fresh
        clear hb10
        cases lp <;> cases f
        · have hrow : Hid (rowP L op = [0, b, 0, op]) := hide (by rw [HRW.out]; rfl)
          have HNX : Hid (nextP L op = (1 - op)) := hide (by rw [HNP.out]; rfl)
          have hba1 := below_alloc w10 (.cells #[.int .i64 0, .int .i64 b, .int .i64 0, .int .i64 op] 2)
          have hRow := hide (heap_alloc_new w10 (.cells #[.int .i64 0, .int .i64 b, .int .i64 0, .int .i64 op] 2 (0, 0)))
          have hO12 := hide (hO10.out.keep hba1)
          have hown := hO12.out.own
          go_wp2_with (at_builtin; refine wpList_append_own _ rfl _ _ 53 rfl B 24 i0 (.slice none 0 0) 1 24 Try.underlying53 hi0 hz0 hz1 hz2 rfl (by decide) _ _ _ rfl (hown.alloc _) ⟨w10.heap.size + 1, 0, none⟩ 1 1 [.slice (some ⟨w10.heap.size, 0, none⟩) 4 4] rfl rfl (World.news_of_block (by have := heap_alloc_new (w10.alloc (.cells #[.int .i64 0, .int .i64 b, .int .i64 0, .int .i64 op] 2)) (.cells #[.slice (some ⟨w10.heap.size, 0, none⟩) 4 4] 24 (0, 0)); simpa using this)) (by simp [Value.oneCell']) (by unfold maxLen; omega) (by omega) (by simp; omega) ?_; intro v' w13 hown' hgrow _; have hO13 : OwnR B w13 v' (gs ++ [w10.heap.size]) (xss ++ [rowP L op]) := (by rw [hrow.out]; exact hO12.out.snoc hBw (fun z hz => by have := hfr.out z hz; omega) hRow.out (by simpa using hown') hgrow); have hb2 := below_alloc (w10.alloc (.cells #[.int .i64 0, .int .i64 b, .int .i64 0, .int .i64 op] 2)) (.cells #[.slice (some ⟨w10.heap.size, 0, none⟩) 4 4] 24); have ho12' := ownsRow_keep hO12.out.own hb2; have hB13 : Below B w10 w13 := (((below_alloc w10 (.cells #[.int .i64 0, .int .i64 b, .int .i64 0, .int .i64 op] 2)).mono hBw).trans (hb2.mono (by simp; omega))).grown hgrow (by simp; omega) (fun j hj => (hO12.out.own.lt j hj).1); have hX13 := (hB13.block X (by omega)).trans hX10.out; have hY13 : w13.heap[w7.heap.size]? = some (.cells #[.slice a6 xs.length k6, .slice a6' ys.length k6'] 26 (0, 0)) := (hgrow.block w7.heap.size (block_lt (box_keep (box_keep hY10.out hba1) hb2)) (fun e => row_not_box' ho12' (box_keep (box_keep hY10.out hba1) hb2) (by decide) e.symm)).trans (box_keep (box_keep hY10.out hba1) hb2); have hI13 := (((hI10.out.keep hba1).keep hb2).grown hgrow ho12' hWB); have hI13' := (((hI10'.out.keep hba1).keep hb2).grown hgrow ho12' hWB); obtain ⟨y0, y1, _⟩ := row2' hY13; obtain ⟨x0, x1, f0, f1⟩ := row2' hX13; have HX13 := hide hX13; have HO13 := hide hO13; have HI13 := hide hI13; have HI13' := hide hI13'; have HB13 := hide hB13; have HY13 := hide hY13; clear hO13 hb2 ho12' hB13 hX13 hY13 hI13 hI13' hown' hgrow hown)
          have hX14 := hide (box_set2' (x' := .slice a6 xs.length k6) (y' := .slice a6' ys.length k6') HX13.out)
          have hI14 := hide ((HI13.out.set HX13.out (.slice a6 xs.length k6)).set1 (box_set20 HX13.out) (.slice a6' ys.length k6'))
          have hI14' := hide ((HI13'.out.set HX13.out (.slice a6 xs.length k6)).set1 (box_set20 HX13.out) (.slice a6' ys.length k6'))
          have hO14 := hide ((HO13.out.set hXB (o := 0) (.slice a6 xs.length k6)).set hXB (o := 1) (.slice a6' ys.length k6'))
          have hB14 := hide (((hB10.out.trans (HB13.out.mono hWB)).setCell (p := ⟨X, 0, none⟩) hWX (.slice a6 xs.length k6)).setCell (p := ⟨X, 1, none⟩) hWX (.slice a6' ys.length k6'))
          clear hba1 y0 y1 x0 x1 f0 f1
          (try go_wp2_with fail)
          (try go_frame)
          go_roundg g2
          case rel => exact ⟨a6, k6, xs, a6', k6', ys, (1 - op), xss ++ [rowP L op], _, v', rfl, rfl, hX14.out, hI14.out, hI14'.out, HOK2.out, (by have := HSTEP.out; rw [HNX.out] at this; exact hide this), hO14.out, hB14.out⟩
          case measure => omega
        · have hrow : Hid (rowP L op = [0, b, 1, op]) := hide (by rw [HRW.out]; rfl)
          have HNX : Hid (nextP L op = op) := hide (by rw [HNP.out]; rfl)
          have hba1 := below_alloc w10 (.cells #[.int .i64 0, .int .i64 b, .int .i64 1, .int .i64 op] 2)
          have hRow := hide (heap_alloc_new w10 (.cells #[.int .i64 0, .int .i64 b, .int .i64 1, .int .i64 op] 2 (0, 0)))
          have hO12 := hide (hO10.out.keep hba1)
          have hown := hO12.out.own
          go_wp2_with (at_builtin; refine wpList_append_own _ rfl _ _ 53 rfl B 24 i0 (.slice none 0 0) 1 24 Try.underlying53 hi0 hz0 hz1 hz2 rfl (by decide) _ _ _ rfl (hown.alloc _) ⟨w10.heap.size + 1, 0, none⟩ 1 1 [.slice (some ⟨w10.heap.size, 0, none⟩) 4 4] rfl rfl (World.news_of_block (by have := heap_alloc_new (w10.alloc (.cells #[.int .i64 0, .int .i64 b, .int .i64 1, .int .i64 op] 2)) (.cells #[.slice (some ⟨w10.heap.size, 0, none⟩) 4 4] 24 (0, 0)); simpa using this)) (by simp [Value.oneCell']) (by unfold maxLen; omega) (by omega) (by simp; omega) ?_; intro v' w13 hown' hgrow _; have hO13 : OwnR B w13 v' (gs ++ [w10.heap.size]) (xss ++ [rowP L op]) := (by rw [hrow.out]; exact hO12.out.snoc hBw (fun z hz => by have := hfr.out z hz; omega) hRow.out (by simpa using hown') hgrow); have hb2 := below_alloc (w10.alloc (.cells #[.int .i64 0, .int .i64 b, .int .i64 1, .int .i64 op] 2)) (.cells #[.slice (some ⟨w10.heap.size, 0, none⟩) 4 4] 24); have ho12' := ownsRow_keep hO12.out.own hb2; have hB13 : Below B w10 w13 := (((below_alloc w10 (.cells #[.int .i64 0, .int .i64 b, .int .i64 1, .int .i64 op] 2)).mono hBw).trans (hb2.mono (by simp; omega))).grown hgrow (by simp; omega) (fun j hj => (hO12.out.own.lt j hj).1); have hX13 := (hB13.block X (by omega)).trans hX10.out; have hY13 : w13.heap[w7.heap.size]? = some (.cells #[.slice a6 xs.length k6, .slice a6' ys.length k6'] 26 (0, 0)) := (hgrow.block w7.heap.size (block_lt (box_keep (box_keep hY10.out hba1) hb2)) (fun e => row_not_box' ho12' (box_keep (box_keep hY10.out hba1) hb2) (by decide) e.symm)).trans (box_keep (box_keep hY10.out hba1) hb2); have hI13 := (((hI10.out.keep hba1).keep hb2).grown hgrow ho12' hWB); have hI13' := (((hI10'.out.keep hba1).keep hb2).grown hgrow ho12' hWB); obtain ⟨y0, y1, _⟩ := row2' hY13; obtain ⟨x0, x1, f0, f1⟩ := row2' hX13; have HX13 := hide hX13; have HO13 := hide hO13; have HI13 := hide hI13; have HI13' := hide hI13'; have HB13 := hide hB13; have HY13 := hide hY13; clear hO13 hb2 ho12' hB13 hX13 hY13 hI13 hI13' hown' hgrow hown)
          have hX14 := hide (box_set2' (x' := .slice a6 xs.length k6) (y' := .slice a6' ys.length k6') HX13.out)
          have hI14 := hide ((HI13.out.set HX13.out (.slice a6 xs.length k6)).set1 (box_set20 HX13.out) (.slice a6' ys.length k6'))
          have hI14' := hide ((HI13'.out.set HX13.out (.slice a6 xs.length k6)).set1 (box_set20 HX13.out) (.slice a6' ys.length k6'))
          have hO14 := hide ((HO13.out.set hXB (o := 0) (.slice a6 xs.length k6)).set hXB (o := 1) (.slice a6' ys.length k6'))
          have hB14 := hide (((hB10.out.trans (HB13.out.mono hWB)).setCell (p := ⟨X, 0, none⟩) hWX (.slice a6 xs.length k6)).setCell (p := ⟨X, 1, none⟩) hWX (.slice a6' ys.length k6'))
          clear hba1 y0 y1 x0 x1 f0 f1
          (try go_wp2_with fail)
          (try go_frame)
          go_roundg g2
          case rel => exact ⟨a6, k6, xs, a6', k6', ys, op, xss ++ [rowP L op], _, v', rfl, rfl, hX14.out, hI14.out, hI14'.out, HOK2.out, (by have := HSTEP.out; rw [HNX.out] at this; exact hide this), hO14.out, hB14.out⟩
          case measure => omega
        · have hrow : Hid (rowP L op = [1, b, 0, op]) := hide (by rw [HRW.out]; rfl)
          have HNX : Hid (nextP L op = (1 - op)) := hide (by rw [HNP.out]; rfl)
          have hba1 := below_alloc w10 (.cells #[.int .i64 1, .int .i64 b, .int .i64 0, .int .i64 op] 2)
          have hRow := hide (heap_alloc_new w10 (.cells #[.int .i64 1, .int .i64 b, .int .i64 0, .int .i64 op] 2 (0, 0)))
          have hO12 := hide (hO10.out.keep hba1)
          have hown := hO12.out.own
          go_wp2_with (at_builtin; refine wpList_append_own _ rfl _ _ 53 rfl B 24 i0 (.slice none 0 0) 1 24 Try.underlying53 hi0 hz0 hz1 hz2 rfl (by decide) _ _ _ rfl (hown.alloc _) ⟨w10.heap.size + 1, 0, none⟩ 1 1 [.slice (some ⟨w10.heap.size, 0, none⟩) 4 4] rfl rfl (World.news_of_block (by have := heap_alloc_new (w10.alloc (.cells #[.int .i64 1, .int .i64 b, .int .i64 0, .int .i64 op] 2)) (.cells #[.slice (some ⟨w10.heap.size, 0, none⟩) 4 4] 24 (0, 0)); simpa using this)) (by simp [Value.oneCell']) (by unfold maxLen; omega) (by omega) (by simp; omega) ?_; intro v' w13 hown' hgrow _; have hO13 : OwnR B w13 v' (gs ++ [w10.heap.size]) (xss ++ [rowP L op]) := (by rw [hrow.out]; exact hO12.out.snoc hBw (fun z hz => by have := hfr.out z hz; omega) hRow.out (by simpa using hown') hgrow); have hb2 := below_alloc (w10.alloc (.cells #[.int .i64 1, .int .i64 b, .int .i64 0, .int .i64 op] 2)) (.cells #[.slice (some ⟨w10.heap.size, 0, none⟩) 4 4] 24); have ho12' := ownsRow_keep hO12.out.own hb2; have hB13 : Below B w10 w13 := (((below_alloc w10 (.cells #[.int .i64 1, .int .i64 b, .int .i64 0, .int .i64 op] 2)).mono hBw).trans (hb2.mono (by simp; omega))).grown hgrow (by simp; omega) (fun j hj => (hO12.out.own.lt j hj).1); have hX13 := (hB13.block X (by omega)).trans hX10.out; have hY13 : w13.heap[w7.heap.size]? = some (.cells #[.slice a6 xs.length k6, .slice a6' ys.length k6'] 26 (0, 0)) := (hgrow.block w7.heap.size (block_lt (box_keep (box_keep hY10.out hba1) hb2)) (fun e => row_not_box' ho12' (box_keep (box_keep hY10.out hba1) hb2) (by decide) e.symm)).trans (box_keep (box_keep hY10.out hba1) hb2); have hI13 := (((hI10.out.keep hba1).keep hb2).grown hgrow ho12' hWB); have hI13' := (((hI10'.out.keep hba1).keep hb2).grown hgrow ho12' hWB); obtain ⟨y0, y1, _⟩ := row2' hY13; obtain ⟨x0, x1, f0, f1⟩ := row2' hX13; have HX13 := hide hX13; have HO13 := hide hO13; have HI13 := hide hI13; have HI13' := hide hI13'; have HB13 := hide hB13; have HY13 := hide hY13; clear hO13 hb2 ho12' hB13 hX13 hY13 hI13 hI13' hown' hgrow hown)
          have hX14 := hide (box_set2' (x' := .slice a6 xs.length k6) (y' := .slice a6' ys.length k6') HX13.out)
          have hI14 := hide ((HI13.out.set HX13.out (.slice a6 xs.length k6)).set1 (box_set20 HX13.out) (.slice a6' ys.length k6'))
          have hI14' := hide ((HI13'.out.set HX13.out (.slice a6 xs.length k6)).set1 (box_set20 HX13.out) (.slice a6' ys.length k6'))
          have hO14 := hide ((HO13.out.set hXB (o := 0) (.slice a6 xs.length k6)).set hXB (o := 1) (.slice a6' ys.length k6'))
          have hB14 := hide (((hB10.out.trans (HB13.out.mono hWB)).setCell (p := ⟨X, 0, none⟩) hWX (.slice a6 xs.length k6)).setCell (p := ⟨X, 1, none⟩) hWX (.slice a6' ys.length k6'))
          clear hba1 y0 y1 x0 x1 f0 f1
          (try go_wp2_with fail)
          (try go_frame)
          go_roundg g2
          case rel => exact ⟨a6, k6, xs, a6', k6', ys, (1 - op), xss ++ [rowP L op], _, v', rfl, rfl, hX14.out, hI14.out, hI14'.out, HOK2.out, (by have := HSTEP.out; rw [HNX.out] at this; exact hide this), hO14.out, hB14.out⟩
          case measure => omega
        · have hrow : Hid (rowP L op = [1, b, 1, op]) := hide (by rw [HRW.out]; rfl)
          have HNX : Hid (nextP L op = op) := hide (by rw [HNP.out]; rfl)
          have hba1 := below_alloc w10 (.cells #[.int .i64 1, .int .i64 b, .int .i64 1, .int .i64 op] 2)
          have hRow := hide (heap_alloc_new w10 (.cells #[.int .i64 1, .int .i64 b, .int .i64 1, .int .i64 op] 2 (0, 0)))
          have hO12 := hide (hO10.out.keep hba1)
          have hown := hO12.out.own
          go_wp2_with (at_builtin; refine wpList_append_own _ rfl _ _ 53 rfl B 24 i0 (.slice none 0 0) 1 24 Try.underlying53 hi0 hz0 hz1 hz2 rfl (by decide) _ _ _ rfl (hown.alloc _) ⟨w10.heap.size + 1, 0, none⟩ 1 1 [.slice (some ⟨w10.heap.size, 0, none⟩) 4 4] rfl rfl (World.news_of_block (by have := heap_alloc_new (w10.alloc (.cells #[.int .i64 1, .int .i64 b, .int .i64 1, .int .i64 op] 2)) (.cells #[.slice (some ⟨w10.heap.size, 0, none⟩) 4 4] 24 (0, 0)); simpa using this)) (by simp [Value.oneCell']) (by unfold maxLen; omega) (by omega) (by simp; omega) ?_; intro v' w13 hown' hgrow _; have hO13 : OwnR B w13 v' (gs ++ [w10.heap.size]) (xss ++ [rowP L op]) := (by rw [hrow.out]; exact hO12.out.snoc hBw (fun z hz => by have := hfr.out z hz; omega) hRow.out (by simpa using hown') hgrow); have hb2 := below_alloc (w10.alloc (.cells #[.int .i64 1, .int .i64 b, .int .i64 1, .int .i64 op] 2)) (.cells #[.slice (some ⟨w10.heap.size, 0, none⟩) 4 4] 24); have ho12' := ownsRow_keep hO12.out.own hb2; have hB13 : Below B w10 w13 := (((below_alloc w10 (.cells #[.int .i64 1, .int .i64 b, .int .i64 1, .int .i64 op] 2)).mono hBw).trans (hb2.mono (by simp; omega))).grown hgrow (by simp; omega) (fun j hj => (hO12.out.own.lt j hj).1); have hX13 := (hB13.block X (by omega)).trans hX10.out; have hY13 : w13.heap[w7.heap.size]? = some (.cells #[.slice a6 xs.length k6, .slice a6' ys.length k6'] 26 (0, 0)) := (hgrow.block w7.heap.size (block_lt (box_keep (box_keep hY10.out hba1) hb2)) (fun e => row_not_box' ho12' (box_keep (box_keep hY10.out hba1) hb2) (by decide) e.symm)).trans (box_keep (box_keep hY10.out hba1) hb2); have hI13 := (((hI10.out.keep hba1).keep hb2).grown hgrow ho12' hWB); have hI13' := (((hI10'.out.keep hba1).keep hb2).grown hgrow ho12' hWB); obtain ⟨y0, y1, _⟩ := row2' hY13; obtain ⟨x0, x1, f0, f1⟩ := row2' hX13; have HX13 := hide hX13; have HO13 := hide hO13; have HI13 := hide hI13; have HI13' := hide hI13'; have HB13 := hide hB13; have HY13 := hide hY13; clear hO13 hb2 ho12' hB13 hX13 hY13 hI13 hI13' hown' hgrow hown)
          have hX14 := hide (box_set2' (x' := .slice a6 xs.length k6) (y' := .slice a6' ys.length k6') HX13.out)
          have hI14 := hide ((HI13.out.set HX13.out (.slice a6 xs.length k6)).set1 (box_set20 HX13.out) (.slice a6' ys.length k6'))
          have hI14' := hide ((HI13'.out.set HX13.out (.slice a6 xs.length k6)).set1 (box_set20 HX13.out) (.slice a6' ys.length k6'))
          have hO14 := hide ((HO13.out.set hXB (o := 0) (.slice a6 xs.length k6)).set hXB (o := 1) (.slice a6' ys.length k6'))
          have hB14 := hide (((hB10.out.trans (HB13.out.mono hWB)).setCell (p := ⟨X, 0, none⟩) hWX (.slice a6 xs.length k6)).setCell (p := ⟨X, 1, none⟩) hWX (.slice a6' ys.length k6'))
          clear hba1 y0 y1 x0 x1 f0 f1
          (try go_wp2_with fail)
          (try go_frame)
          go_roundg g2
          case rel => exact ⟨a6, k6, xs, a6', k6', ys, op, xss ++ [rowP L op], _, v', rfl, rfl, hX14.out, hI14.out, hI14'.out, HOK2.out, (by have := HSTEP.out; rw [HNX.out] at this; exact hide this), hO14.out, hB14.out⟩
          case measure => omega
end Go.Proofs.Ytbfpbkbhikogiaa
