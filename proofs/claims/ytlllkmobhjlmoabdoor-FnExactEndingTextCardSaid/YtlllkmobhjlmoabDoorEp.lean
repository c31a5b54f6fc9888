/-
  What comes in, for laws on endings: the two lists opened; the laws' helpers on endings.
-/
import Derived.Test.YtlllkmobhjlmoabDoorCo
import Derived.Test.YtlllkmobhjlmoabDoorEnds0
import Derived.Test.YtlllkmobhjlmoabDoorMk
import Derived.OpenShut
import Derived.ChangeOld
import Derived.Deep.Fields
import Derived.Lib.SmallJoins
import Derived.Deep.RegionHeld3
namespace Go.Proofs.YtlllkmobhjlmoabDoor
open Go.ChangeShapes Go.WideShapes Go.ChangeAt Go.RowKit Go.Deep Go.Joins
set_option linter.unusedVariables false
variable {H : Type} {enc : TypeId × Value → H}

/-- A list of numbers, as the reading of a field of a struct gives it. -/
theorem open_row {W : World} {base fuel : Nat} {cs : List Value} {x : DataW H × List MemPlace}
    (h : DataW.trod enc Tryd.prog W base (fun _ => true) true fuel 22 cs = some x) : ∃ a c zs, cs = [.slice a zs.length c] ∧ IntsAt W a zs ∧ zs.length ≤ 9223372036854775807 := by
  rcases open_ints Tryd.underlying22 Tryd.underlying2 (by kernel_rfl) h with ⟨hcs, _⟩ | ⟨x, l, c, zs, hcs, _, hl, hm, hz, _, hcell, hwz⟩
  · exact ⟨none, 0, [], hcs, CellsAt.nil _ _, by simp⟩
  · have h := intsAt_of_row (.inr ⟨_, rfl, hl, hm, by simpa using hz, hcell, hwz⟩)
    refine ⟨some x, c, _, ?_, h.1, by have := h.2.1; have := h.2.2; unfold maxLen at *; omega⟩
    rw [h.2.1]
    exact hcs

set_option maxRecDepth 100000 in
theorem open_ending {W : World} {base : Nat} {v : Value} {d : DataW H} {p : List MemPlace} (hv : Value.okWide Tryd.prog W .any base 33 v)
    (h : DataW.Trod enc Tryd.prog W 0 (fun _ => true) true 33 v d p) : ∃ a c cs a' c' ls, v = .agg #[.slice a cs.length c, .slice a' ls.length c'] ∧ IntsAt W a cs ∧ IntsAt W a' ls ∧ cs.length ≤ 9223372036854775807 ∧ ls.length ≤ 9223372036854775807 := by
  obtain ⟨cs, rfl, hsz⟩ := okWide_struct Tryd.underlying33 hv
  have hC : (Tryd.prog).cellsOf 33 = 2 := by kernel_rfl
  have hC2 : (Tryd.prog).cellsOf 22 = 1 := by kernel_rfl
  rw [hC] at hsz
  obtain ⟨l⟩ := cs
  match l, hsz with
  | [c0, c1], _ =>
    obtain ⟨fuel, hf⟩ := h
    obtain ⟨y0, y1, n, _, _, h0, h1⟩ := trod_struct2 Tryd.underlying33 hf
    simp only [Value.cells, hC2, List.drop_zero, List.take_one, List.head?_cons, Option.toList, List.drop_succ_cons] at h0 h1
    obtain ⟨a, c, xs, he, hr, hn⟩ := open_row h0
    obtain ⟨a', c', ys, he', hr', hn'⟩ := open_row h1
    simp at he he'
    subst he he'
    exact ⟨a, c, xs, a', c', ys, rfl, hr, hr', hn, hn'⟩

/-- What the laws' bound leaves. -/
def szE (n m : Nat) : Int := if 1048576 - (n : Int) < 0 then -1 else if 1048576 - (n : Int) - (m : Int) < 0 then -1 else 1048576 - (n : Int) - (m : Int)

set_option maxHeartbeats 400000 in
theorem szInt64S_any (a : Option Addr) (n c : Nat) (l : Int) (w : World) (hl : 0 ≤ l) (hl2 : l ≤ 1048576) (hn : n ≤ 9223372036854775807) :
    Calls Tryd.prog 15 #[.slice a n c, .int .i64 l] w fun e w' => e = .returned (.int .i64 (if l - (n : Int) < 0 then -1 else l - (n : Int))) ∧ w = w' := by
  by_cases h : l - (n : Int) < 0
  · rw [if_pos h]
    go_enter Tryd.func15, Tryd.ntmps15
    go_wp2
    go_ret
    exact ⟨rfl, rfl⟩
  · rw [if_neg h]
    go_enter Tryd.func15, Tryd.ntmps15
    go_wp2
    go_ret
    exact ⟨rfl, rfl⟩

set_option maxHeartbeats 400000 in
theorem szEnding_any (a : Option Addr) (n c : Nat) (a' : Option Addr) (n' c' : Nat) (w : World) (hn : n ≤ 9223372036854775807) (hn' : n' ≤ 9223372036854775807) :
    Calls Tryd.prog 10 #[.agg #[.slice a n c, .slice a' n' c'], .int .i64 1048576] w (RetB (.int .i64 (szE n n')) w) := by
  obtain ⟨s, hs⟩ : ∃ s, s = szE n n' := ⟨_, rfl⟩
  rw [← hs]
  unfold szE at hs
  have HS := hide hs
  clear hs
  have hB := hide (below_alloc w (.cells #[.slice a n c, .slice a' n' c'] 33))
  by_cases h : 1048576 - (n : Int) < 0
  · have HP := hide h
    have hfin : Hid (s = -1) := hide (by rw [HS.out, if_pos h])
    go_enter Tryd.func10, Tryd.ntmps10
    go_wp2_with fail
    refine (szInt64S_any _ _ _ _ _ (by omega) (by omega) hn).mono ?_
    rw [if_pos (by have := HP.out; omega)]
    rintro e w1 ⟨rfl, rfl⟩
    go_wp2_with fail
    go_ret
    exact ⟨by rw [hfin.out]; rfl, hB.out⟩
  · have HP := hide h
    by_cases h2 : 1048576 - (n : Int) - (n' : Int) < 0
    · have HQ := hide h2
      have hfin : Hid (s = -1) := hide (by rw [HS.out, if_neg h, if_pos h2])
      go_enter Tryd.func10, Tryd.ntmps10
      go_wp2_with fail
      refine (szInt64S_any _ _ _ _ _ (by omega) (by omega) hn).mono ?_
      rw [if_neg (by have := HP.out; omega)]
      rintro e w1 ⟨rfl, rfl⟩
      go_wp2_with fail
      refine (szInt64S_any _ _ _ _ _ (by omega) (by omega) hn').mono ?_
      rw [if_pos (by have := HQ.out; omega)]
      rintro e w1 ⟨rfl, rfl⟩
      go_wp2_with fail
      go_ret
      exact ⟨by rw [hfin.out]; rfl, hB.out⟩
    · have HQ := hide h2
      have hfin : Hid (s = 1048576 - (n : Int) - (n' : Int)) := hide (by rw [HS.out, if_neg h, if_neg h2])
      go_enter Tryd.func10, Tryd.ntmps10
      go_wp2_with fail
      refine (szInt64S_any _ _ _ _ _ (by omega) (by omega) hn).mono ?_
      rw [if_neg (by have := HP.out; omega)]
      rintro e w1 ⟨rfl, rfl⟩
      go_wp2_with fail
      refine (szInt64S_any _ _ _ _ _ (by omega) (by omega) hn').mono ?_
      rw [if_neg (by have := HQ.out; omega)]
      rintro e w1 ⟨rfl, rfl⟩
      go_wp2_with fail
      go_ret
      exact ⟨by rw [hfin.out]; rfl, hB.out⟩

theorem row2' {w : World} {b : Nat} {x y : Value} {t : TypeId} (h : w.heap[b]? = some (.cells #[x, y] t (0, 0))) :
    w.cell? ⟨b, 0, none⟩ = some x ∧ w.cell? ⟨b, 1, none⟩ = some y ∧ w.frozen? ⟨b, 0, none⟩ = false ∧ w.frozen? ⟨b, 1, none⟩ = false :=
  ⟨(cell_of_row _ _ 0 _ _ (0, 0) h).trans rfl, (cell_of_row _ _ 1 _ _ (0, 0) h).trans rfl, frozen_of_row _ _ 0 _ _ h, frozen_of_row _ _ 1 _ _ h⟩
theorem box_set20 {w : World} {b : Nat} {x y x' : Value} {t : TypeId} (h : w.heap[b]? = some (.cells #[x, y] t (0, 0))) : (w.setCell ⟨b, 0, none⟩ x').heap[b]? = some (.cells #[x', y] t (0, 0)) := heap_setCell_same _ b 0 _ t x' h
theorem box_set21 {w : World} {b : Nat} {x y y' : Value} {t : TypeId} (h : w.heap[b]? = some (.cells #[x, y] t (0, 0))) : (w.setCell ⟨b, 1, none⟩ y').heap[b]? = some (.cells #[x, y'] t (0, 0)) := heap_setCell_same _ b 1 _ t y' h
theorem box_set2' {w : World} {b : Nat} {x y x' y' : Value} {t : TypeId} (h : w.heap[b]? = some (.cells #[x, y] t (0, 0))) :
    ((w.setCell ⟨b, 0, none⟩ x').setCell ⟨b, 1, none⟩ y').heap[b]? = some (.cells #[x', y'] t (0, 0)) := box_set21 (box_set20 h)

/-- A new ending: two rows of the call's own, in two blocks. -/
def NewEnd (cs ls : List Int) (W : World) (e : Ending) (W' : World) : Prop :=
  ∃ g c g' c', e = .returned (.agg #[.slice (some ⟨g, 0, none⟩) cs.length c, .slice (some ⟨g', 0, none⟩) ls.length c']) ∧ W'.ownsRow W.heap.size 2 1 (.slice (some ⟨g, 0, none⟩) cs.length c) cs.length (cs.map intV) ∧ W'.ownsRow W.heap.size 2 1 (.slice (some ⟨g', 0, none⟩) ls.length c') ls.length (ls.map intV) ∧ g ≠ g' ∧ Below W.heap.size W W'

set_option maxRecDepth 100000 in
set_option maxHeartbeats 1000000 in
theorem toEnding_any (a : Option Addr) (c : Nat) (cs : List Int) (a' : Option Addr) (c' : Nat) (ls : List Int) (W : World) (ha : IntsAt W a cs) (hb : IntsAt W a' ls) (hl : cs.length ≤ 1048576) (hl' : ls.length ≤ 1048576) :
    Calls Tryd.prog 12 #[.agg #[.slice a cs.length c, .slice a' ls.length c']] W (NewEnd cs ls W) := by
  obtain ⟨W0, hW0⟩ : ∃ W0, W0 = ((W.alloc (.cells #[.slice a cs.length c, .slice a' ls.length c'] 33)).alloc (.cells #[.slice none 0 0, .slice none 0 0] 36)).alloc (.cells #[.slice none 0 0, .slice none 0 0] 36) := ⟨_, rfl⟩
  have hB0 : Hid (Below W.heap.size W W0) := by rw [hW0]; exact hide (((below_alloc _ _).alloc (by simp) _).alloc (by simp; omega) _)
  have hs0 : Hid (W0.heap.size = W.heap.size + 3) := by rw [hW0]; exact hide (by simp)
  have hin : EndIn W0 W.heap.size a cs.length c a' ls.length c' := by
    rw [hW0]
    exact (endIn_new W a cs.length c a' ls.length c' 33).keep (((Below.refl _ _).alloc (Nat.le_refl _) _).alloc (by simp) _)
  have hr1 : Hid (W0.heap[W.heap.size + 1]? = some (.cells #[.slice none 0 0, .slice none 0 0] 36 (0, 0))) := by
    have := heap_alloc_new (W.alloc (.cells #[.slice a cs.length c, .slice a' ls.length c'] 33)) (.cells #[.slice none 0 0, .slice none 0 0] 36 (0, 0))
    rw [hW0, Below.heap_alloc _ _ _ (by simp)]
    exact hide (by simpa using this)
  have hr2 : Hid (W0.heap[W.heap.size + 1 + 1]? = some (.cells #[.slice none 0 0, .slice none 0 0] 36 (0, 0))) := by
    have := heap_alloc_new ((W.alloc (.cells #[.slice a cs.length c, .slice a' ls.length c'] 33)).alloc (.cells #[.slice none 0 0, .slice none 0 0] 36)) (.cells #[.slice none 0 0, .slice none 0 0] 36 (0, 0))
    rw [hW0]
    exact hide (by simpa using this)
  have hA0 := hide (ha.keep hB0.out)
  have hA0' := hide hb
  have HIN := hide hin
  obtain ⟨c0, c1⟩ := hin
  clear ha hb
  go_enter Tryd.func12, Tryd.ntmps12
  go_wp2_with fail
  rw [← hW0]
  clear hW0
  refine (toInt64S_any _ _ cs _ hA0.out hl).mono ?_
  rintro e w1 ⟨g1, k1, rfl, ho1, hb1⟩
  obtain ⟨d0, d1⟩ := HIN.out.keep hb1
  have hrr1 := box_keep hr1.out hb1
  have hrr2 := box_keep hr2.out hb1
  obtain ⟨e0, e1, f0, f1⟩ := row2' hrr2
  have hsz1 : Hid (W0.heap.size ≤ w1.heap.size) := hide hb1.size
  have hne : W.heap.size ≠ W.heap.size + 1 + 1 := by omega
  have hx0 : (w1.setCell ⟨W.heap.size + 1 + 1, 0, none⟩ (.slice (some ⟨g1, 0, none⟩) cs.length k1)).cell? ⟨W.heap.size, 1, none⟩ = some (.slice a' ls.length c') := by
    rw [← d1]; exact World.cell?_of_block (Below.heap_setCell _ _ _ _ hne)
  have hB1 := hide ((Below.trans' hB0.out hb1).setCell (p := ⟨W.heap.size + 1 + 1, 0, none⟩) (by simp; omega) (.slice (some ⟨g1, 0, none⟩) cs.length k1))
  have hq1 := hide (box_set20 (x' := .slice (some ⟨g1, 0, none⟩) cs.length k1) hrr2)
  have hq2 : Hid ((w1.setCell ⟨W.heap.size + 1 + 1, 0, none⟩ (.slice (some ⟨g1, 0, none⟩) cs.length k1)).heap[W.heap.size + 1]? = some (.cells #[.slice none 0 0, .slice none 0 0] 36 (0, 0))) := hide ((Below.heap_setCell _ _ _ _ (by simp)).trans hrr1)
  have ho1' := hide (ownsRow_setCell_below ho1 (a := ⟨W.heap.size + 1 + 1, 0, none⟩) (show W.heap.size + 1 + 1 < W0.heap.size by rw [hs0.out]; omega) (.slice (some ⟨g1, 0, none⟩) cs.length k1))
  have hA1' := hide (hA0'.out.keep hB1.out)
  clear hb1 hrr1 hrr2 ho1 d0
  go_wp2_with fail
  obtain ⟨W2, hW2⟩ : ∃ W2, W2 = w1.setCell ⟨W.heap.size + 1 + 1, 0, none⟩ (.slice (some ⟨g1, 0, none⟩) cs.length k1) := ⟨_, rfl⟩
  rw [← hW2] at hB1 hq1 hq2 ho1' hA1' ⊢
  clear hW2 hx0 d1 c0 c1 e0 e1 f0 f1
  refine (toInt64S_any _ _ ls _ hA1'.out hl').mono ?_
  rintro e w3 ⟨g2, k2, rfl, ho2, hb2⟩
  have hu1 := box_keep hq1.out hb2
  have hu2 := box_keep hq2.out hb2
  obtain ⟨e0, e1, f0, f1⟩ := row2' hu1
  obtain ⟨d0, d1, h0, h1⟩ := row2' hu2
  have hlt := (ho1'.out.lt g1 rfl).2
  have hge := (ho1'.out.lt g1 rfl).1
  have hge2 := (ho2.lt g2 rfl).1
  have ho3 := ownsRow_keep ho1'.out hb2
  have hB3 := ((((Below.trans' hB1.out hb2).setCell (p := ⟨W.heap.size + 1 + 1, 1, none⟩) (by simp; omega) (.slice (some ⟨g2, 0, none⟩) ls.length k2)).setCell (p := ⟨W.heap.size + 1, 0, none⟩) (by simp) (.slice (some ⟨g1, 0, none⟩) cs.length k1)).setCell (p := ⟨W.heap.size + 1, 1, none⟩) (by simp) (.slice (some ⟨g2, 0, none⟩) ls.length k2))
  have hs2 : Hid (W0.heap.size ≤ W2.heap.size) := hide (by have := hB1.out.size; omega)
  have hfin : Hid (NewEnd cs ls W (.returned (.agg #[.slice (some ⟨g1, 0, none⟩) cs.length k1, .slice (some ⟨g2, 0, none⟩) ls.length k2])) (((w3.setCell ⟨W.heap.size + 1 + 1, 1, none⟩ (.slice (some ⟨g2, 0, none⟩) ls.length k2)).setCell ⟨W.heap.size + 1, 0, none⟩ (.slice (some ⟨g1, 0, none⟩) cs.length k1)).setCell ⟨W.heap.size + 1, 1, none⟩ (.slice (some ⟨g2, 0, none⟩) ls.length k2))) := by
    refine hide ⟨g1, k1, g2, k2, rfl, ?_, ?_, by omega, hB3⟩
    · exact ownsRow_base (ownsRow_setCell_below (ownsRow_setCell_below (ownsRow_setCell_below ho3 (show W.heap.size + 1 + 1 < W0.heap.size by rw [hs0.out]; omega) _) (show W.heap.size + 1 < W0.heap.size by rw [hs0.out]; omega) _) (show W.heap.size + 1 < W0.heap.size by rw [hs0.out]; omega) _) (by rw [hs0.out]; omega)
    · exact ownsRow_base (ownsRow_setCell_below (ownsRow_setCell_below (ownsRow_setCell_below ho2 (show W.heap.size + 1 + 1 < W2.heap.size by have := hs2.out; rw [hs0.out] at this; omega) _) (show W.heap.size + 1 < W2.heap.size by have := hs2.out; rw [hs0.out] at this; omega) _) (show W.heap.size + 1 < W2.heap.size by have := hs2.out; rw [hs0.out] at this; omega) _) (by have := hs2.out; rw [hs0.out] at this; omega)
  have hz1 := hide (box_set2' (x' := .slice (some ⟨g1, 0, none⟩) cs.length k1) (y' := .slice (some ⟨g2, 0, none⟩) ls.length k2) ((Below.heap_setCell w3 ⟨W.heap.size + 1 + 1, 1, none⟩ (.slice (some ⟨g2, 0, none⟩) ls.length k2) (W.heap.size + 1) (by simp)).trans hu2))
  clear hu1 hu2 hb2 hB3 ho3 ho2 hlt hge hge2
  go_wp2_with fail
  obtain ⟨j0, j1, _⟩ := row2' hz1.out
  exact bodyPost_ret (v := .agg #[.slice (some ⟨g1, 0, none⟩) cs.length k1, .slice (some ⟨g2, 0, none⟩) ls.length k2]) (by simp [results, Tryd.results12, go_sem, j0, j1]) rfl hfin.out

set_option maxHeartbeats 1000000 in
theorem eqEnding_same (a b : Option Addr) (c d : Nat) (cs : List Int) (a' b' : Option Addr) (c' d' : Nat) (ls : List Int) (W : World) (ha : IntsAt W a cs) (hb : IntsAt W b cs) (ha' : IntsAt W a' ls) (hb' : IntsAt W b' ls) (hl : cs.length ≤ 1048576) (hl' : ls.length ≤ 1048576) :
    Calls Tryd.prog 14 #[.agg #[.slice a cs.length c, .slice a' ls.length c'], .agg #[.slice b cs.length d, .slice b' ls.length d']] W (RetB (.bool true) W) := by
  obtain ⟨W0, hW0⟩ : ∃ W0, W0 = (W.alloc (.cells #[.slice a cs.length c, .slice a' ls.length c'] 36)).alloc (.cells #[.slice b cs.length d, .slice b' ls.length d'] 36) := ⟨_, rfl⟩
  have hB0 : Hid (Below W.heap.size W W0) := by rw [hW0]; exact hide ((below_alloc _ _).alloc (by simp) _)
  have h1 : EndIn W0 W.heap.size a cs.length c a' ls.length c' := by
    rw [hW0]
    exact (endIn_new W a cs.length c a' ls.length c' 36).keep (below_alloc _ _)
  have h2 : EndIn W0 (W.heap.size + 1) b cs.length d b' ls.length d' := by
    have := endIn_new (W.alloc (.cells #[.slice a cs.length c, .slice a' ls.length c'] 36)) b cs.length d b' ls.length d' 36
    rw [hW0]
    simpa using this
  have HA := hide (ha.keep hB0.out)
  have HB := hide (hb.keep hB0.out)
  have HA' := hide (ha'.keep hB0.out)
  have HB' := hide (hb'.keep hB0.out)
  have H1 := hide h1
  have H2 := hide h2
  obtain ⟨c0, c1⟩ := h1
  obtain ⟨d0, d1⟩ := h2
  clear ha hb ha' hb'
  go_enter Tryd.func14, Tryd.ntmps14
  go_wp2_with fail
  rw [← hW0]
  clear hW0
  refine (eqInt64S_same _ _ _ _ cs _ HA.out HB.out hl).mono ?_
  rintro e w1 ⟨rfl, hb1⟩
  have hB1 := hide (Below.trans' hB0.out hb1)
  have HA1 := hide (HA'.out.keep hb1)
  have HB1 := hide (HB'.out.keep hb1)
  obtain ⟨e0, e1⟩ := H1.out.keep hb1
  obtain ⟨f0, f1⟩ := H2.out.keep hb1
  clear hb1 c0 c1 d0 d1
  go_wp2_with fail
  refine (eqInt64S_same _ _ _ _ ls _ HA1.out HB1.out hl').mono ?_
  rintro e w2 ⟨rfl, hb2⟩
  have hB2 := hide (Below.trans' hB1.out hb2)
  clear hb2
  go_wp2_with fail
  go_ret
  exact ⟨rfl, hB2.out⟩
end Go.Proofs.YtlllkmobhjlmoabDoor
