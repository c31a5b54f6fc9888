/-
  Dots and boxes: PlayBoxes, the model's text.
-/
import Derived.Test.YtincdnlinepcgabBe
namespace Go.Proofs.Ytincdnlinepcgab
open Go.RowKit Go.Maps
set_option linter.unusedVariables false

def playF (w h : Int) : Nat → Int → List Int
  | 0, _ => []
  | k + 1, E => match bestL w h E with
    | [] => []
    | e :: _ => e :: playF w h k (withE E e)
def playL (w h E : Int) : List Int := playF w h (nfree w h E) E
def playR (w h E : Int) : List Int × Int := (if giveC w h E = 0 then playL w h E else [], giveC w h E)
theorem playF_step {w h E e : Int} {k : Nat} {r : List Int} (hl : bestL w h E = e :: r) : playF w h (k + 1) E = e :: playF w h k (withE E e) := by
  rw [playF, hl]
theorem playF_le (w h : Int) : ∀ (k : Nat) (E : Int), (playF w h k E).length ≤ k
  | 0, _ => Nat.le_refl _
  | k + 1, E => by
    rw [playF]
    split
    · simp
    · have := playF_le w h k
      simp
      exact this _
theorem playR_le (w h E : Int) : (playR w h E).1.length ≤ 1048576 := by
  unfold playR
  dsimp only
  split
  · rename_i hg
    have h1 := (giveC_ok hg).2
    have h2 := playF_le w h (nfree w h E) E
    unfold playL
    omega
  · simp
/-- The first of the best. -/
theorem bestL_head {w h E : Int} {k : Nat} (hb : okBox w h E = true) (hk : nfree w h E = k + 1) : ∃ e r, bestL w h E = e :: r ∧ e ∈ freeE w h E := by
  cases hl : bestL w h E with
  | nil => exact absurd hl (bestL_some hb (fun hn => by unfold nfree at hk; rw [hn] at hk; simp at hk))
  | cons e r => exact ⟨e, r, rfl, bestL_mem (by rw [hl]; simp)⟩
theorem set_grown (w : World) (n o : Nat) (u : Value) : w.grownBy (w.setCell ⟨n, o, none⟩ u) (some n) :=
  ⟨rfl, rfl, rfl, by simp [World.setCell], fun k _ hne => Below.heap_setCell _ _ _ _ (fun e => hne (by rw [e]))⟩
theorem set3_grown (w : World) (n : Nat) (x y z : Value) : w.grownBy (((w.setCell ⟨n, 0, none⟩ x).setCell ⟨n, 1, none⟩ y).setCell ⟨n, 2, none⟩ z) (some n) :=
  ((set_grown w n 0 x).trans (set_grown _ n 1 y)).trans (set_grown _ n 2 z)
theorem But.grows {n : Nat} {a b : World} (h : But n a b) : a.grownBy b (some n) := ⟨h.os, h.tape, h.output, h.size, fun k hk hne => h.block k hk (fun e => hne (by rw [e]))⟩
theorem But.old' {n B : Nat} {a b : World} (h : But n a b) (hn : B ≤ n) (hs : B ≤ a.heap.size) : Below B a b := ⟨h.os, h.tape, h.output, h.size, fun k hk => h.block k (by omega) (by omega)⟩
theorem own_not {w : World} {B : Nat} {v : Value} {n : Nat} {xs : List Value} (h : w.ownsRow B 2 1 v n xs) {k : Nat} (hk : k < B) : v.ownBlock ≠ some k := by
  rcases h.2 with ⟨hv, _⟩ | ⟨g', cap, cur, hv, hg, _⟩
  · rw [hv]; simp [Value.ownBlock]
  · rw [hv]; simp [Value.ownBlock]; omega

/-- What stands between two rounds of the play. -/
structure Turn (w h E0 : Int) (W : World) (al : Option Addr) (B bK : Nat) (E : Int) (PL : List Int) (v : Value) (wr : World) : Prop where
  box : wr.heap[W.heap.size]? = some (.cells #[.int .i64 w, .int .i64 h, .int .i64 E] 26 (0, 0))
  own : wr.ownsRow B 2 1 v PL.length (PL.map intV)
  apart : Apart al v
  far : v.ownBlock ≠ some bK
  free : IntsAt wr al (freeE w h E0)
  tab : Tab w h E0 wr bK
  old : Below W.heap.size W wr
  size : B ≤ wr.heap.size
  ok : okBox w h E = true
  ext : Ext E0 E

theorem Turn.keep {w h E0 : Int} {W : World} {al : Option Addr} {B bK : Nat} {E : Int} {PL : List Int} {v : Value} {wr w' : World} (ht : Turn w h E0 W al B bK E PL v wr) (hb : Below wr.heap.size wr w') : Turn w h E0 W al B bK E PL v w' :=
  ⟨box_keep ht.box hb, ownsRow_keep ht.own hb, ht.apart, ht.far, ht.free.keep hb, ht.tab.keep hb, ht.old.trans (hb.mono ht.old.size), Nat.le_trans ht.size hb.size, ht.ok, ht.ext⟩
theorem Turn.but {w h E0 : Int} {W : World} {al : Option Addr} {B bK : Nat} {E : Int} {PL : List Int} {v : Value} {wr w' : World} (ht : Turn w h E0 W al B bK E PL v wr) (hb : But bK wr w') (hT : Tab w h E0 w' bK)
    (hWB : W.heap.size < B) (hBK : B < bK) (hal : ∀ g off, al = some ⟨g, off, none⟩ → W.heap.size < g ∧ g < B) : Turn w h E0 W al B bK E PL v w' :=
  ⟨hb.row ht.box (by omega), ht.own.kept hb.grows (.inr ht.far), ht.apart, ht.far, hb.ints ht.free (fun g off ha => by have h1 := hal g off ha; omega), hT, ht.old.trans (hb.old' (by omega) ht.old.size), Nat.le_trans ht.size hb.size, ht.ok, ht.ext⟩
theorem Turn.push {w h E0 : Int} {W : World} {al : Option Addr} {B bK : Nat} {E e : Int} {PL : List Int} {v v' : Value} {wr w' : World} (ht : Turn w h E0 W al B bK E PL v wr) (hne : freeE w h E0 ≠ [])
    (hown : w'.ownsRow B 2 1 v' (PL.length + 1) (PL.map intV ++ [.int .i64 e])) (hg : (wr.alloc (.cells #[.int .i64 e] 2)).grownBy w' v.ownBlock) (hbl : v'.ownBlock = v.ownBlock ∨ v'.ownBlock = some (wr.heap.size + 1))
    (hWB : W.heap.size < B) : Turn w h E0 W al B bK E (PL ++ [e]) v' w' := by
  have hfar : v.ownBlock ≠ some W.heap.size := own_not ht.own hWB
  have hsz : (wr.alloc (.cells #[.int .i64 e] 2)).heap.size = wr.heap.size + 1 := by simp
  refine ⟨?_, by simpa [intV] using hown, ht.apart.next (ht.free.alloc (.cells #[.int .i64 e] 2)) hne (m := wr.heap.size + 1) (by simp) hbl, ?_, (ht.free.alloc _).grown hg ht.apart, (ht.tab.alloc _).grown hg ht.far, ?_, ?_, ht.ok, ht.ext⟩
  · exact (hg.block _ (by rw [hsz]; have := ht.size; omega) (fun x => hfar x.symm)).trans (box_keep ht.box (below_alloc _ _))
  · have hk := ht.tab.lt
    rcases hbl with h1 | h1
    · rw [h1]; exact ht.far
    · rw [h1]
      intro hx
      simp at hx
      omega
  · refine (ht.old.alloc ht.old.size _).grown hg (by rw [hsz]; have := ht.old.size; omega) (fun j hj => ?_)
    rcases Nat.lt_or_ge j B with h1 | h1
    · exact absurd hj (own_not ht.own h1)
    · omega
  · have := hg.size
    rw [hsz] at this
    have := ht.size
    omega
theorem Turn.store {w h E0 : Int} {W : World} {al : Option Addr} {B bK : Nat} {E F : Int} {PL : List Int} {v : Value} {wr : World} (ht : Turn w h E0 W al B bK E PL v wr) (hok : okBox w h F = true) (hx : Ext E0 F)
    (hWB : W.heap.size < B) (hBK : B < bK) (hal : ∀ g off, al = some ⟨g, off, none⟩ → W.heap.size < g ∧ g < B) :
    Turn w h E0 W al B bK F PL v (((wr.setCell ⟨W.heap.size, 0, none⟩ (.int .i64 w)).setCell ⟨W.heap.size, 1, none⟩ (.int .i64 h)).setCell ⟨W.heap.size, 2, none⟩ (.int .i64 F)) := by
  have hg := set3_grown wr W.heap.size (.int .i64 w) (.int .i64 h) (.int .i64 F)
  refine ⟨box_set3 ht.box, ht.own.kept hg (.inr (own_not ht.own hWB)), ht.apart, ht.far, ht.free.grown hg (fun g off ha hx => by
    have h1 := hal g off ha
    simp at hx
    omega), ht.tab.grown hg (fun hx => by simp at hx; omega), below3 _ _ _ ht.old (Nat.le_refl _), Nat.le_trans ht.size hg.size, hok, hx⟩

set_option maxRecDepth 100000 in
set_option maxHeartbeats 8000000 in
theorem specPlay_any (w h E : Int) (W : World) : Calls Try.prog 15 #[.agg #[.int .i64 w, .int .i64 h, .int .i64 E]] W (NewList (playR w h E) W) := by
  obtain ⟨i0, hi0, hz0, hz1, hz2⟩ := info_parts Try.info2
  obtain ⟨c, hc⟩ : ∃ c, c = giveC w h E := ⟨_, rfl⟩
  have hcc := giveC_cases w h E
  rw [← hc] at hcc
  obtain ⟨r, hr⟩ : ∃ r, r = playR w h E := ⟨_, rfl⟩
  rw [← hr]
  unfold playR at hr
  rw [← hc] at hr
  have hrow0 := hide (heap_alloc_new W (.cells #[.int .i64 w, .int .i64 h, .int .i64 E] 26 (0, 0)))
  have hB0 := hide (below_alloc W (.cells #[.int .i64 w, .int .i64 h, .int .i64 E] 26))
  obtain ⟨W0, hW0⟩ : ∃ W0, W0 = W.alloc (.cells #[.int .i64 w, .int .i64 h, .int .i64 E] 26) := ⟨_, rfl⟩
  rw [← hW0] at hB0 hrow0
  have hs0 : Hid (W.heap.size < W0.heap.size) := by rw [hW0]; exact hide (by simp)
  obtain ⟨c0, c1, c2⟩ := boxIn_of_row hrow0.out
  have HC := hide hc
  have HR := hide hr
  clear hc hr
  go_enter Try.func15, Try.ntmps15
  go_wp2_with fail
  rw [← hW0]
  clear hW0
  go_wp2_with fail
  refine (specGive_any w h E _).mono ?_
  rw [← HC.out]
  rintro e w1 ⟨rfl, hb1⟩
  have hB1 := hide (Below.trans' hB0.out hb1)
  have hrow1 := hide (box_keep hrow0.out hb1)
  have hs1 := hide (Nat.lt_of_lt_of_le hs0.out hb1.size)
  clear hb1 c0 c1 c2
  by_cases hc0 : c = 0
  · obtain ⟨PR, hPR⟩ : ∃ PR, PR = playL w h E := ⟨_, rfl⟩
    have HRR : Hid (r = (PR, 0)) := hide (by rw [HR.out, if_pos hc0, hc0, hPR])
    have hgk := giveC_ok (HC.out.symm.trans hc0)
    have HB := hide hgk.1
    obtain ⟨n, hn⟩ : ∃ n, n = nfree w h E := ⟨_, rfl⟩
    have hn12 : n ≤ 12 := by rw [hn]; exact hgk.2
    have hnl : Hid (n = (freeE w h E).length) := hide hn
    have HPR := hide hPR
    subst hc0
    clear hgk hcc hn HR hPR
    obtain ⟨c0, c1, c2⟩ := boxIn_of_row hrow1.out
    go_wp2_with fail
    refine (specFree_any w h E HB.out _).mono ?_
    rintro e w2 ⟨al, cl, rfl, hol, hb2⟩
    rw [← hnl.out]
    have hl2 := hide (intsAt_of_ownsRow hol)
    have hB2 := hide (Below.trans' hB1.out hb2)
    have hrow2 := hide (box_keep hrow1.out hb2)
    have hs2 := hide (Nat.lt_of_lt_of_le hs1.out hb2.size)
    have hlt2 := hide (own_lt hol)
    have hba2 := hide (own_base hol)
    clear hb2 hol c0 c1 c2
    go_wp2_with fail
    obtain ⟨W3, hW3⟩ : ∃ W3, W3 = w2.alloc (.cells #[] 2) := ⟨_, rfl⟩
    obtain ⟨B, hBe⟩ : ∃ B, B = w2.heap.size := ⟨_, rfl⟩
    have hown3 : Hid (W3.ownsRow B 2 1 (.slice (some ⟨B, 0, none⟩) 0 0) 0 ([] : List Value)) := by
      rw [hW3, hBe]
      exact hide (by have := lit_owns (zs := []) (heap_alloc_new w2 (.cells #[] 2 (0, 0))) (Nat.le_refl _) (by simp); simpa using this)
    have ha3 : Below w2.heap.size w2 W3 := by rw [hW3]; exact below_alloc _ _
    have hs3 : Hid (W3.heap.size = B + 1) := by rw [hW3, hBe]; exact hide (by simp)
    have hrow3 := hide (box_keep hrow2.out ha3)
    have hl3 := hide (hl2.out.keep ha3)
    have hB3 := hide (Below.trans' hB2.out ha3)
    have hlt3 : Hid (∀ g off, al = some ⟨g, off, none⟩ → W.heap.size < g ∧ g < B) := hide (fun g off ha => by
      have h1 := hlt2.out g off ha
      have h2 := hba2.out g off ha
      have h3 := hs1.out
      rw [hBe]
      omega)
    have hsB : Hid (W.heap.size < B) := by rw [hBe]; exact hs2
    rw [← hW3, ← hBe]
    clear ha3 hW3 hBe
    go_wp2_with fail
    refine (table_new w h E al cl n _ hnl.out hn12).mono ?_
    rintro e w4 ⟨bK, M, rfl, hM, hT4, hbb, hb4⟩
    have HM := hide hM
    have hKB : Hid (B < bK) := hide (by have := hs3.out; omega)
    have hI : Hid (Turn w h E W al B bK E [] (.slice (some ⟨B, 0, none⟩) 0 0) w4) := hide
      ⟨box_keep hrow3.out hb4, ownsRow_keep hown3.out hb4, fun g off ha hv => by
        have := hlt3.out g off ha
        simp [Value.ownBlock] at hv
        omega, fun hv => by
        have := hKB.out
        simp [Value.ownBlock] at hv
        omega, hl3.out.keep hb4, hT4, Below.trans' hB3.out hb4, by have := hb4.size; have := hs3.out; omega, HB.out, Ext.refl _⟩
    clear hM hT4 hbb hb4
    go_wp2_with fail
    go_loopg [6] n (fun g v wr => ∃ (PL : List Int) (E' : Int) (v0 : Value), v0 = v ∧ PL.length + g = n ∧ nfree w h E' = g ∧ PL ++ playF w h g E' = PR ∧ Turn w h E W al B bK E' PL v wr)
    case atStart => exact ⟨[], E, _, rfl, by simp, hnl.out.symm, by rw [HPR.out]; unfold playL; rw [show nfree w h E = n from hnl.out.symm]; rfl, hI.out⟩
    case round =>
      clear hI
      obtain ⟨PL, E', v, rfl, hlen, hnf, hpl, hI⟩ := hrel
      obtain ⟨av, cv, rfl⟩ := own_form hI.own
      have HPL := hide hpl
      have HNF := hide hnf
      have HI := hide hI
      cases gk with
      | zero =>
        have hln : PL.length = n := by omega
        have hPe : Hid (PL = PR) := hide (by rw [← hpl]; simp [playF])
        have hfin : Hid (NewList (PL, 0) W (.returned (.tuple #[.slice av PL.length cv, .int .i64 0])) wr) := hide ⟨av, cv, rfl, ownsRow_base hI.own (by have := hsB.out; omega), hI.old⟩
        clear hI hpl hnf
        go_wp2_with fail
        go_ret2
        rw [HRR.out, ← hPe.out]
        exact hfin.out
      | succ g =>
        have hln : PL.length < n := by omega
        obtain ⟨e, rl, hbl, heF⟩ := bestL_head hI.ok hnf
        obtain ⟨e0, en, hdr⟩ := pre_mem heF
        obtain ⟨m, hm, hm24⟩ := edges_nat hI.ok
        have een : e < nEdge w h := by omega
        obtain ⟨c0, c1, c2⟩ := boxIn_of_row hI.box
        have HBL := hide hbl
        have HEF := hide heF
        have HEN := hide een
        clear hI hpl hnf hbl heF hdr hm en een
        go_wp2_with fail
        refine (specBest_any w h E E' al cl n M bK _ HB.out HI.out.ok HI.out.ext hnl.out hn12 HM.out HI.out.free (fun g off ha => by have h1 := hlt3.out g off ha; have h2 := hKB.out; have h3 := HI.out.size; omega) HI.out.tab).mono ?_
        rw [HBL.out]
        rintro e1 w5 ⟨⟨ag, cg, rfl, hog, hb5⟩, hk5⟩
        obtain ⟨bl, off, e', rfl, hce, he'⟩ := (intsAt_of_ownsRow hog).one (k := 0) (by simp)
        obtain rfl : e' = e := by have := he'.out; simp at this; exact this.symm
        have hce' : w5.cell? ⟨bl, off, none⟩ = some (.int .i64 e') := by simpa using hce
        have hW2 : W.heap.size < B := hsB.out
        have hI5 := HI.out.but hb5 hk5 hW2 hKB.out hlt3.out
        have hown5 := hI5.own
        have hsz5 := hI5.size
        have hnf' : Hid (nfree w h (withE E' e') = g) := hide (by have h1 := nfree_with HI.out.ok HEF.out; have h2 := HNF.out; omega)
        have hpl' : Hid ((PL ++ [e']) ++ playF w h g (withE E' e') = PR) := hide (by
          rw [← HPL.out, playF_step HBL.out]
          simp)
        have hok' := hide (ok_with HI.out.ok HEF.out)
        have hx' := hide (HI.out.ext.with (okBox_E HI.out.ok).1 e0)
        have hnz : Hid (freeE w h E ≠ []) := hide (fun hn => by have h1 := hnl.out; rw [hn] at h1; simp at h1; omega)
        have HI5 := hide hI5
        clear hce hog hb5 hk5 c0 c1 c2 he' hI5
        have hrl : (0 : Int) < ((e' :: rl).length : Int) := by simp
        obtain ⟨nb, hnb⟩ : ∃ nb, nb = (e' :: rl).length := ⟨_, rfl⟩
        rw [← hnb] at hrl ⊢
        clear hnb
        go_wp2_with (at_builtin; refine wpList_append_own_at _ rfl _ _ 29 rfl (B) 2 i0 (.int .i64 0) 1 8 Try.underlying29 hi0 hz0 hz1 hz2 rfl (by decide) _ _ _ rfl (hown5.alloc _) ⟨w5.heap.size, 0, none⟩ 1 1 [.int .i64 e'] rfl rfl (cell_one_new _ _ _) (by simp [Value.oneCell']) (by unfold maxLen; omega) (by omega) (by simp; omega) ?_)
        intro v' w7 hown' hgrow _ hbl
        have hI7 := HI5.out.push hnz.out (by simpa using hown') hgrow hbl hW2
        obtain ⟨c0, c1, c2⟩ := boxIn_of_row hI7.box
        have HI7 := hide hI7
        clear hown' hgrow hown5 hbl hI7
        go_wp2_with fail
        refine (specMove_any w h E' e' HI.out.ok e0 HEN.out _).mono ?_
        rintro e1 w8 ⟨rfl, hb8⟩
        have hI8 := HI7.out.keep hb8
        have HI9 := hide (hI8.store hok'.out hx'.out hW2 hKB.out hlt3.out)
        obtain ⟨d0, d1, d2, f0, f1, f2⟩ := row3 hI8.box
        clear hI8 hb8 c0 c1 c2
        obtain ⟨F, hF⟩ : ∃ F, F = withE E' e' := ⟨_, rfl⟩
        rw [← hF] at hnf' hpl' hok' hx' HI9 ⊢
        clear hF
        go_wp2_with fail
        go_roundg g
        case rel => exact ⟨PL ++ [e'], F, _, rfl, by simp; omega, hnf'.out, hpl'.out, HI9.out⟩
        case measure => omega
  · have HRR : Hid (r = ([], c)) := hide (by rw [HR.out, if_neg hc0])
    clear HR
    go_wp2_with fail
    go_ret2
    rw [HRR.out]
    exact ⟨_, _, rfl, World.ownsRow_nil _ _ _ _, hB1.out⟩
end Go.Proofs.Ytincdnlinepcgab
