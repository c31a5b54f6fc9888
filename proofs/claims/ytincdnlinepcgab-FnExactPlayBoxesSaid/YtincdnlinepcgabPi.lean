/-
  Dots and boxes: PlayBoxes, the program's text.
-/
import Derived.Test.YtincdnlinepcgabPl
import Derived.Test.YtincdnlinepcgabJm
namespace Go.Proofs.Ytincdnlinepcgab
open Go.RowKit Go.Maps
set_option linter.unusedVariables false

def budQ : Nat := 48000000000
theorem budget_round {w h E : Int} {j : Nat} (hn : j + nfree w h E ≤ 12) : j * budQ + nfree w h E * (2 * calls (nfree w h E)) ≤ 1000000000000 ∧ nfree w h E * (2 * calls (nfree w h E)) ≤ budQ := by
  have h1 := calls_twelve (n := nfree w h E) (by omega)
  have h2 : nfree w h E * (2 * calls (nfree w h E)) ≤ 12 * (2 * calls (nfree w h E)) := Nat.mul_le_mul_right _ (by omega)
  have h3 : j * budQ ≤ 12 * budQ := Nat.mul_le_mul_right _ (by omega)
  unfold budQ at *
  omega
theorem bestL_none {w h E : Int} (hn : nfree w h E = 0) : bestL w h E = [] := by
  have hl : freeE w h E = [] := List.eq_nil_of_length_eq_zero hn
  simp [bestL, hl]

/-- What stands between two rounds of the play, the program's. -/
structure TurnI (w h : Int) (W : World) (sB b B : Nat) (E : Int) (PL : List Int) (v : Value) (j : Nat) (wr : World) : Prop where
  box : wr.heap[W.heap.size]? = some (.cells #[.int .i64 w, .int .i64 h, .int .i64 E] 26 (0, 0))
  sea : wr.heap[sB]? = some (.cells #[.map (some b)] 57 (0, 0))
  own : wr.ownsRow B 2 1 v PL.length (PL.map intV)
  knows : Knows wr b (j * budQ)
  old : Below W.heap.size W wr
  size : B ≤ wr.heap.size
  ok : okBox w h E = true
theorem TurnI.but {w h : Int} {W : World} {sB b B : Nat} {E : Int} {PL : List Int} {v : Value} {j j' : Nat} {wr w' : World} (ht : TurnI w h W sB b B E PL v j wr) (hb : But b wr w') (hk : Knows w' b (j' * budQ))
    (ha : W.heap.size < b ∧ b < sB ∧ sB < B) : TurnI w h W sB b B E PL v j' w' :=
  ⟨hb.row ht.box (by omega), hb.row ht.sea (by omega), ht.own.kept hb.grows (.inr (own_not ht.own (by omega))), hk, ht.old.trans (hb.old' (by omega) ht.old.size), Nat.le_trans ht.size hb.size, ht.ok⟩
theorem TurnI.keep {w h : Int} {W : World} {sB b B : Nat} {E : Int} {PL : List Int} {v : Value} {j : Nat} {wr w' : World} (ht : TurnI w h W sB b B E PL v j wr) (hb : Below wr.heap.size wr w') : TurnI w h W sB b B E PL v j w' :=
  ⟨box_keep ht.box hb, box_keep ht.sea hb, ownsRow_keep ht.own hb, ht.knows.keep hb, ht.old.trans (hb.mono ht.old.size), Nat.le_trans ht.size hb.size, ht.ok⟩
theorem TurnI.push {w h : Int} {W : World} {sB b B : Nat} {E e : Int} {PL : List Int} {v v' : Value} {j : Nat} {wr w' : World} (ht : TurnI w h W sB b B E PL v j wr)
    (hown : w'.ownsRow B 2 1 v' (PL.length + 1) (PL.map intV ++ [.int .i64 e])) (hg : (wr.alloc (.cells #[.int .i64 e] 2)).grownBy w' v.ownBlock) (ha : W.heap.size < b ∧ b < sB ∧ sB < B) : TurnI w h W sB b B E (PL ++ [e]) v' j w' := by
  have hsz : (wr.alloc (.cells #[.int .i64 e] 2)).heap.size = wr.heap.size + 1 := by simp
  have hs := ht.size
  refine ⟨?_, ?_, by simpa [intV] using hown, ?_, ?_, ?_, ht.ok⟩
  · exact (hg.block _ (by rw [hsz]; omega) (fun x => own_not ht.own (show W.heap.size < B by omega) x.symm)).trans (box_keep ht.box (below_alloc _ _))
  · exact (hg.block _ (by rw [hsz]; omega) (fun x => own_not ht.own ha.2.2 x.symm)).trans (box_keep ht.sea (below_alloc _ _))
  · exact (ht.knows.keep (below_alloc _ _)).block (hg.block _ (by rw [hsz]; omega) (fun x => own_not ht.own (show b < B by omega) x.symm))
  · refine (ht.old.alloc ht.old.size _).grown hg (by rw [hsz]; have := ht.old.size; omega) (fun j hj => ?_)
    rcases Nat.lt_or_ge j B with h1 | h1
    · exact absurd hj (own_not ht.own h1)
    · omega
  · have := hg.size
    rw [hsz] at this
    omega
theorem TurnI.store {w h : Int} {W : World} {sB b B : Nat} {E F : Int} {PL : List Int} {v : Value} {j : Nat} {wr : World} (ht : TurnI w h W sB b B E PL v j wr) (hok : okBox w h F = true) (ha : W.heap.size < b ∧ b < sB ∧ sB < B) :
    TurnI w h W sB b B F PL v j (((wr.setCell ⟨W.heap.size, 0, none⟩ (.int .i64 w)).setCell ⟨W.heap.size, 1, none⟩ (.int .i64 h)).setCell ⟨W.heap.size, 2, none⟩ (.int .i64 F)) := by
  have hg := set3_grown wr W.heap.size (.int .i64 w) (.int .i64 h) (.int .i64 F)
  exact ⟨box_set3 ht.box, (hg.block sB (block_lt ht.sea) (fun x => by simp at x; omega)).trans ht.sea, ht.own.kept hg (.inr (own_not ht.own (by omega))), ht.knows.block (hg.block b ht.knows.lt (fun x => by simp at x; omega)), below3 _ _ _ ht.old (Nat.le_refl _), Nat.le_trans ht.size hg.size, hok⟩

/-- At a jump to a label: 0 (look), 1 (draw). -/
def PlayAt (w h E0 : Int) (W : World) (sB b B n : Nat) (PR : List Int) (m l : Nat) (a : Act) (wr : World) : Prop :=
  ∃ (E : Int) (PL : List Int) (j : Nat) (v u6 u8 u9 u10 u11 u12 u13 u14 u15 u16 u17 u18 u19 u20 u21 u22 u23 u24 u25 u26 u27 u28 u29 u30 u31 : Value), a = { tmps := #[.agg #[.int .i64 w, .int .i64 h, .int .i64 E0], .pointer (some ⟨W.heap.size, 0, none⟩), .slice none 0 0, .int .i64 0, .int .i64 0, .pointer (some ⟨sB, 0, none⟩), u6, v, u8, u9, u10, u11, u12, u13, u14, u15, u16, u17, u18, u19, u20, u21, u22, u23, u24, u25, u26, u27, u28, u29, u30, u31], defers := [] } ∧ PL.length + nfree w h E = n ∧ PL ++ playF w h (nfree w h E) E = PR ∧ TurnI w h W sB b B E PL v j wr ∧
    ((l = 0 ∧ m = 2 * nfree w h E + 1 ∧ j = PL.length) ∨ (l = 1 ∧ m = 2 * nfree w h E ∧ j = PL.length + 1 ∧ ∃ bl off nb cg e rl, u6 = .slice (some ⟨bl, off, none⟩) nb cg ∧ 0 < nb ∧ wr.cell? ⟨bl, off, none⟩ = some (.int .i64 e) ∧ bl ≠ W.heap.size ∧ bl < wr.heap.size ∧ bestL w h E = e :: rl))

set_option maxRecDepth 100000 in
set_option maxHeartbeats 8000000 in
theorem implPlay_any (w h E : Int) (W : World) : Calls Try.prog 16 #[.agg #[.int .i64 w, .int .i64 h, .int .i64 E]] W (NewList (playR w h E) W) := by
  obtain ⟨i0, hi0, hz0, hz1, hz2⟩ := info_parts Try.info2
  obtain ⟨c, hc⟩ : ∃ c, c = giveC w h E := ⟨_, rfl⟩
  have hcc := giveC_cases w h E
  rw [← hc] at hcc
  obtain ⟨r, hr⟩ : ∃ r, r = playR w h E := ⟨_, rfl⟩
  rw [← hr]
  unfold playR at hr
  rw [← hc] at hr
  have hrow0 := hide (heap_alloc_new W (.cells #[.int .i64 w, .int .i64 h, .int .i64 E] 26 (0, 0)))
  have hB0 := hide (below_alloc W (.cells #[.int .i64 w, .int .i64 h, .int .i64 E] 26))
  obtain ⟨W0, hW0⟩ : ∃ W0, W0 = W.alloc (.cells #[.int .i64 w, .int .i64 h, .int .i64 E] 26) := ⟨_, rfl⟩
  rw [← hW0] at hB0 hrow0
  have hs0 : Hid (W.heap.size < W0.heap.size) := by rw [hW0]; exact hide (by simp)
  obtain ⟨c0, c1, c2⟩ := boxIn_of_row hrow0.out
  have HC := hide hc
  have HR := hide hr
  clear hc hr
  by_cases hc0 : c = 0
  · obtain ⟨PR, hPR⟩ : ∃ PR, PR = playL w h E := ⟨_, rfl⟩
    have HRR : Hid (r = (PR, 0)) := hide (by rw [HR.out, if_pos hc0, hc0, hPR])
    have hgk := giveC_ok (HC.out.symm.trans hc0)
    have HB := hide hgk.1
    obtain ⟨n, hn⟩ : ∃ n, n = nfree w h E := ⟨_, rfl⟩
    have hn12 : n ≤ 12 := by rw [hn]; exact hgk.2
    have HNN := hide hn
    have HPR := hide hPR
    subst hc0
    clear hgk hcc hn HR hPR
    go_enter Try.func16, Try.ntmps16
    go_wp2_with fail
    rw [← hW0]
    clear hW0
    refine wp_scope_labels (fun m l a' w' => ∃ sB b B, (W.heap.size < b ∧ b < sB ∧ sB < B) ∧ PlayAt w h E W sB b B n PR m l a' w') ?_ ?_
    · go_wp2_with fail
      refine (implGive_any w h E _).mono ?_
      rw [← HC.out]
      rintro e w1 ⟨rfl, hb1⟩
      have hB1 := hide (Below.trans' hB0.out hb1)
      have hrow1 := hide (box_keep hrow0.out hb1)
      have hs1 := hide (Nat.lt_of_lt_of_le hs0.out hb1.size)
      clear hb1 c0 c1 c2
      go_wp2_with fail
      refine (search_new _).mono ?_
      rintro e1 w3 ⟨b, rfl, hk3, hbb, hb3⟩
      obtain ⟨sB, hsB⟩ : ∃ sB, sB = w3.heap.size := ⟨_, rfl⟩
      obtain ⟨wr, hwr⟩ : ∃ wr, wr = w3.alloc (.cells #[.map (some b)] 57) := ⟨_, rfl⟩
      have ha4 : Below w3.heap.size w3 wr := by rw [hwr]; exact below_alloc _ _
      have hsea : wr.heap[sB]? = some (.cells #[.map (some b)] 57 (0, 0)) := by rw [hwr, hsB]; exact heap_alloc_new w3 _
      obtain ⟨B, hBe⟩ : ∃ B, B = wr.heap.size := ⟨_, rfl⟩
      have HA : Hid (W.heap.size < b ∧ b < sB ∧ sB < B) := hide ⟨by have := hs1.out; omega, by rw [hsB]; exact hk3.lt, by rw [hBe]; exact block_lt hsea⟩
      have HI : Hid (TurnI w h W sB b B E [] (.slice none 0 0) 0 wr) := hide ⟨box_keep (box_keep hrow1.out hb3) ha4, hsea, World.ownsRow_nil _ _ _ _, by have := hk3.keep ha4; simpa using this, Below.trans' (Below.trans' hB1.out hb3) ha4, by rw [hBe]; exact Nat.le_refl _, HB.out⟩
      clear hk3 hbb hb3 ha4 hsea hBe
      go_wp2_with fail
      rw [← hsB, ← hwr]
      clear hsB hwr
      go_step3
      have hlen : ([] : List Int).length + nfree w h E = n := by rw [HNN.out]; simp
      have HPL : Hid ([] ++ playF w h (nfree w h E) E = PR) := hide (by rw [HPR.out]; rfl)
      obtain ⟨N', hN'⟩ : ∃ N', N' = 0 * budQ := ⟨_, rfl⟩
      have hbq := budget_round (w := w) (h := h) (E := E) (j := 0) (by have := HNN.out; omega)
      have hKn := HI.out.knows
      rw [← hN'] at hbq hKn
      have HKN := hide hKn
      have HN' := hide hN'
      have HBQ := hide hbq
      obtain ⟨c0, c1, c2⟩ := boxIn_of_row HI.out.box
      have s0 : wr.cell? ⟨sB, 0, none⟩ = some (.map (some b)) := (cell_of_row _ _ 0 _ _ (0, 0) HI.out.sea).trans rfl
      clear hKn hN' hbq
      go_wp2_with fail
      refine (implBest_any w h E b N' _ HI.out.ok (by have := HNN.out; omega) HKN.out HBQ.out.1).mono ?_
      rintro e1 w5 ⟨⟨ag, cg, rfl, hog, hb5⟩, hk5⟩
      have hk5' : Knows w5 b ((0 + 1) * budQ) := hk5.mono (by have h1 := HBQ.out.2; have h2 := HN'.out; rw [Nat.add_mul, Nat.one_mul]; omega)
      have hk6 : Knows w5 b (N' + nfree w h E * (2 * calls (nfree w h E))) := hk5
      have HOG := hide hog
      have HI5 := hide (HI.out.but hb5 hk5' HA.out)
      clear hog hb5 hk5 hk5' hk6 c0 c1 c2 s0
      cases hnf : nfree w h E with
      | zero =>
        have hz : bestL w h E = [] := bestL_none hnf
        have hPe : Hid ([] = PR) := hide (by rw [← HPL.out, hnf]; simp [playF])
        have hfin : Hid (NewList (([] : List Int), 0) W (.returned (.tuple #[.slice none 0 0, .int .i64 0])) w5) := hide ⟨none, 0, rfl, ownsRow_base HI5.out.own (by have := HA.out; omega), HI5.out.old⟩
        rw [hz]
        clear hz hnf
        go_wp2_with fail
        try rw [jumps_ret]
        go_ret2
        rw [HRR.out, ← hPe.out]
        exact hfin.out
      | succ k =>
        obtain ⟨e, rl, hbl, heF⟩ := bestL_head HI.out.ok hnf
        rw [hbl] at HOG ⊢
        obtain ⟨bl, off, e', rfl, hce, he'⟩ := (intsAt_of_ownsRow HOG.out).one (k := 0) (by simp)
        obtain rfl : e' = e := by have := he'.out; simp at this; exact this.symm
        have hce' : Hid (w5.cell? ⟨bl, off, none⟩ = some (.int .i64 e')) := hide (by simpa using hce)
        have hbW : Hid (bl ≠ W.heap.size ∧ bl < w5.heap.size) := hide ⟨by
          have h1 := own_base HOG.out bl off rfl
          have h2 := HI.out.size
          have h3 := HA.out
          omega, own_lt HOG.out bl off rfl⟩
        have HBL := hide hbl
        have HNF := hide hnf
        have hrl : (0 : Int) < ((e' :: rl).length : Int) := by simp
        obtain ⟨nb, hnb⟩ : ∃ nb, nb = (e' :: rl).length := ⟨_, rfl⟩
        have hnb0 : Hid (0 < nb) := hide (by rw [hnb]; simp)
        rw [← hnb] at hrl ⊢
        clear hnb hce he' hbl heF hnf HOG
        go_wp2_with fail
        go_step3
        exact ⟨2 * nfree w h E, sB, b, B, HA.out, E, [], 0 + 1, _, _, _, _, _, _, _, _, _, _, _, _, _, _, _, _, _, _, _, _, _, _, _, _, _, _, rfl, hlen, HPL.out, HI5.out, .inr ⟨rfl, rfl, rfl, bl, off, nb, cg, e', rl, rfl, hnb0.out, hce'.out, hbW.out.1, hbW.out.2, HBL.out⟩⟩
    · intro m l a' w' hJ
      obtain ⟨sB, b, B, hA, E', PL, j, v, u6, u8, u9, u10, u11, u12, u13, u14, u15, u16, u17, u18, u19, u20, u21, u22, u23, u24, u25, u26, u27, u28, u29, u30, u31, rfl, hlen, hpl, hI, hcase⟩ := hJ
      have HA := hide hA
      have HPL := hide hpl
      have HI := hide hI
      clear hA hpl hI c0 c1 c2
      rcases hcase with ⟨rfl, rfl, rfl⟩ | ⟨rfl, rfl, rfl, bl, off, nb, cg, e, rl, rfl, hnb, hce, hblW, hblt, hbl⟩
      · refine ⟨_, rfl, ?_⟩
        obtain ⟨wr, hwr⟩ : ∃ wr, wr = w' := ⟨_, rfl⟩
        rw [← hwr] at HI ⊢
        clear hwr
        obtain ⟨av, cv, rfl⟩ := own_form HI.out.own
        obtain ⟨N', hN'⟩ : ∃ N', N' = PL.length * budQ := ⟨_, rfl⟩
        have hbq := budget_round (w := w) (h := h) (E := E') (j := PL.length) (by omega)
        have hKn := HI.out.knows
        rw [← hN'] at hbq hKn
        have HKN := hide hKn
        have HN' := hide hN'
        have HBQ := hide hbq
        obtain ⟨c0, c1, c2⟩ := boxIn_of_row HI.out.box
        have s0 : wr.cell? ⟨sB, 0, none⟩ = some (.map (some b)) := (cell_of_row _ _ 0 _ _ (0, 0) HI.out.sea).trans rfl
        clear hKn hN' hbq
        go_wp2_with fail
        refine (implBest_any w h E' b N' _ HI.out.ok (by omega) HKN.out HBQ.out.1).mono ?_
        rintro e1 w5 ⟨⟨ag, cg, rfl, hog, hb5⟩, hk5⟩
        have hk5' : Knows w5 b ((PL.length + 1) * budQ) := hk5.mono (by have h1 := HBQ.out.2; have h2 := HN'.out; rw [Nat.add_mul, Nat.one_mul]; omega)
        have hk6 : Knows w5 b (N' + nfree w h E' * (2 * calls (nfree w h E'))) := hk5
        have HOG := hide hog
        have HI5 := hide (HI.out.but hb5 hk5' HA.out)
        clear hog hb5 hk5 hk5' hk6 c0 c1 c2 s0
        cases hnf : nfree w h E' with
        | zero =>
          have hz : bestL w h E' = [] := bestL_none hnf
          have hPe : Hid (PL = PR) := hide (by rw [← HPL.out, hnf]; simp [playF])
          have hfin : Hid (NewList (PL, 0) W (.returned (.tuple #[.slice av PL.length cv, .int .i64 0])) w5) := hide ⟨av, cv, rfl, ownsRow_base HI5.out.own (by have := HA.out; omega), HI5.out.old⟩
          rw [hz]
          clear hz hnf
          go_wp2_with fail
          try rw [jumps_ret]
          go_ret2
          rw [HRR.out, ← hPe.out]
          exact hfin.out
        | succ k =>
          obtain ⟨e, rl, hbl, heF⟩ := bestL_head HI.out.ok hnf
          rw [hbl] at HOG ⊢
          obtain ⟨bl, off, e', rfl, hce, he'⟩ := (intsAt_of_ownsRow HOG.out).one (k := 0) (by simp)
          obtain rfl : e' = e := by have := he'.out; simp at this; exact this.symm
          have hce' : Hid (w5.cell? ⟨bl, off, none⟩ = some (.int .i64 e')) := hide (by simpa using hce)
          have hbW : Hid (bl ≠ W.heap.size ∧ bl < w5.heap.size) := hide ⟨by
            have h1 := own_base HOG.out bl off rfl
            have h2 := HI.out.size
            have h3 := HA.out
            omega, own_lt HOG.out bl off rfl⟩
          have HBL := hide hbl
          have HNF := hide hnf
          have hrl : (0 : Int) < ((e' :: rl).length : Int) := by simp
          obtain ⟨nb, hnb⟩ : ∃ nb, nb = (e' :: rl).length := ⟨_, rfl⟩
          have hnb0 : Hid (0 < nb) := hide (by rw [hnb]; simp)
          rw [← hnb] at hrl ⊢
          clear hnb hce he' hbl heF hnf HOG
          go_wp2_with fail
          go_step3
          exact ⟨2 * nfree w h E', by omega, sB, b, B, HA.out, E', PL, PL.length + 1, _, _, _, _, _, _, _, _, _, _, _, _, _, _, _, _, _, _, _, _, _, _, _, _, _, _, rfl, hlen, HPL.out, HI5.out, .inr ⟨rfl, rfl, rfl, bl, off, nb, cg, e', rl, rfl, hnb0.out, hce'.out, hbW.out.1, hbW.out.2, HBL.out⟩⟩

      · refine ⟨_, rfl, ?_⟩
        have heF : e ∈ freeE w h E' := bestL_mem (by rw [hbl]; simp)
        obtain ⟨e0, en, hdr⟩ := pre_mem heF
        obtain ⟨m', hm', hm24⟩ := edges_nat HI.out.ok
        have e24 : e < 24 := by omega
        obtain ⟨E1, E2⟩ := okBox_E HI.out.ok
        have hnf := hide (nfree_with HI.out.ok heF)
        have hok := hide (ok_with HI.out.ok heF)
        have hpl' : Hid ((PL ++ [e]) ++ playF w h (nfree w h (withE E' e)) (withE E' e) = PR) := hide (by
          rw [← HPL.out, ← hnf.out, playF_step hbl]
          simp)
        obtain ⟨wr, hwr⟩ : ∃ wr, wr = w' := ⟨_, rfl⟩
        rw [← hwr] at HI hce hblt ⊢
        have hrl : (0 : Int) < (nb : Int) := by omega
        obtain ⟨c0, c1, c2⟩ := (boxIn_of_row HI.out.box).past
        have ce : ∀ p : Past wr, p.to.cell? ⟨bl, off, none⟩ = some (.int .i64 e) := fun p => p.cell hce
        have HCE := hide hce
        clear hwr hbl heF hdr hm' en hce hblt
        go_wp2_with fail
        refine wp_region_past_tail 5 (by kernel_rfl) (by kernel_rfl) ?_
        simp only [List.take_succ_cons, List.take_zero, List.drop_succ_cons, List.drop_zero]
        repeat (first | go_big_quiet_step ((go_at_call 37; (with_reducible exact ret_past (withEdge_any _ _ _ _ E1 E2 e0 e24 _)))) | quiet_step ((go_at_call 37; (with_reducible exact ret_past (withEdge_any _ _ _ _ E1 E2 e0 e24 _)))))
        refine wpQuiet_nil ?_
        rintro _ ⟨pq, rfl⟩
        have hI5 := HI.out.keep pq.old
        obtain ⟨d0, d1, d2, f0, f1, f2⟩ := row3 hI5.box
        have HI6 := hide (hI5.store hok.out HA.out)
        have hce5 := cell_keep pq.old HCE.out
        have hce6 : Hid ((((pq.to.setCell ⟨W.heap.size, 0, none⟩ (.int .i64 w)).setCell ⟨W.heap.size, 1, none⟩ (.int .i64 h)).setCell ⟨W.heap.size, 2, none⟩ (.int .i64 (withE E' e))).cell? ⟨bl, off, none⟩ = some (.int .i64 e)) := hide ((World.cell?_of_block ((set3_grown pq.to W.heap.size (.int .i64 w) (.int .i64 h) (.int .i64 (withE E' e))).block bl (World.block_lt_of_cell? _ _ hce5) (fun x => hblW (by simpa using x)))).trans hce5)
        clear hI5 hce5 c0 c1 c2 ce
        go_upto_region 10 with fail
        obtain ⟨W6, hW6⟩ : ∃ W6, W6 = ((pq.to.setCell ⟨W.heap.size, 0, none⟩ (.int .i64 w)).setCell ⟨W.heap.size, 1, none⟩ (.int .i64 h)).setCell ⟨W.heap.size, 2, none⟩ (.int .i64 (withE E' e)) := ⟨_, rfl⟩
        obtain ⟨F, hF⟩ : ∃ F, F = withE E' e := ⟨_, rfl⟩
        rw [← hW6] at HI6 hce6 ⊢
        rw [← hF] at HI6 hnf hok hpl' ⊢
        have hnf' := hnf.out
        have hown6 := HI6.out.own
        have hsz6 := HI6.out.size
        have hce7 := hce6.out
        clear hW6 hF d0 d1 d2 f0 f1 f2
        go_wp2_with (at_builtin; refine wpList_append_own _ rfl _ _ 29 rfl (B) 2 i0 (.int .i64 0) 1 8 Try.underlying29 hi0 hz0 hz1 hz2 rfl (by decide) _ _ _ rfl (hown6.alloc _) ⟨W6.heap.size, 0, none⟩ 1 1 [.int .i64 e] rfl rfl (cell_one_new _ _ _) (by simp [Value.oneCell']) (by unfold maxLen; omega) (by omega) (by simp; omega) ?_)
        intro v' w7 hown' hgrow _
        have HI7 := hide (HI6.out.push (by simpa using hown') hgrow HA.out)
        clear hown' hgrow hown6 hce7
        go_wp2_with fail
        go_step3
        exact ⟨2 * nfree w h F + 1, by omega, sB, b, B, HA.out, F, PL ++ [e], PL.length + 1, _, _, _, _, _, _, _, _, _, _, _, _, _, _, _, _, _, _, _, _, _, _, _, _, _, _, rfl, by simp; omega, hpl'.out, HI7.out, .inl ⟨rfl, rfl, by simp⟩⟩
  · have HRR : Hid (r = ([], c)) := hide (by rw [HR.out, if_neg hc0])
    clear HR
    go_enter Try.func16, Try.ntmps16
    go_wp2_with fail
    go_step3
    rw [← hW0]
    clear hW0
    go_wp2_with fail
    refine (implGive_any w h E _).mono ?_
    rw [← HC.out]
    rintro e w1 ⟨rfl, hb1⟩
    have hB1 := hide (Below.trans' hB0.out hb1)
    clear hb1 c0 c1 c2
    go_wp2_with fail
    try rw [Exit.noGoto_ret]
    go_ret2
    rw [HRR.out]
    exact ⟨_, _, rfl, World.ownsRow_nil _ _ _ _, hB1.out⟩
end Go.Proofs.Ytincdnlinepcgab
