/-
  What comes in, for laws on boards of hexagons: a board opened; the laws' helpers on boards.
-/
import Derived.Test.YtogfoahejgmfgaaHi
import Derived.Test.YtogfoahejgmfgaaEnds0
import Derived.Test.YtogfoahejgmfgaaMk
import Derived.OpenShut
import Derived.ChangeOld
import Derived.Deep.Fields
import Derived.Lib.SmallJoins
import Derived.Deep.RegionHeld3
namespace Go.Proofs.Ytogfoahejgmfgaa
open Go.ChangeShapes Go.WideShapes Go.ChangeAt Go.RowKit Go.Deep Go.Joins
set_option linter.unusedVariables false
variable {H : Type} {enc : TypeId × Value → H}

/-- A list of numbers, as the reading of a field of a struct gives it. -/
theorem open_row {W : World} {base fuel : Nat} {cs : List Value} {x : DataW H × List MemPlace}
    (h : DataW.trod enc Try.prog W base (fun _ => true) true fuel 22 cs = some x) : ∃ a c zs, cs = [.slice a zs.length c] ∧ IntsAt W a zs ∧ zs.length ≤ 9223372036854775807 := by
  rcases open_ints Try.underlying22 Try.underlying2 (by kernel_rfl) h with ⟨hcs, _⟩ | ⟨x, l, c, zs, hcs, _, hl, hm, hz, _, hcell, hwz⟩
  · exact ⟨none, 0, [], hcs, CellsAt.nil _ _, by simp⟩
  · have h := intsAt_of_row (.inr ⟨_, rfl, hl, hm, by simpa using hz, hcell, hwz⟩)
    refine ⟨some x, c, _, ?_, h.1, by have := h.2.1; have := h.2.2; unfold maxLen at *; omega⟩
    rw [h.2.1]
    exact hcs
set_option maxRecDepth 100000 in
theorem open_list {W : World} {base : Nat} {v : Value} {d : DataW H} {p : List MemPlace} (hv : Value.okWide Try.prog W .any base 22 v)
    (h : DataW.Trod enc Try.prog W 0 (fun _ => true) true 22 v d p) : ∃ a c zs, v = .slice a zs.length c ∧ IntsAt W a zs ∧ zs.length ≤ 9223372036854775807 := by
  obtain ⟨a0, len0, cap0, rfl⟩ := okWide_slice Try.underlying22 hv
  obtain ⟨fuel, hf⟩ := h
  obtain ⟨a, c, zs, he, hr, hn⟩ := open_row hf
  simp [Value.cells] at he
  obtain ⟨rfl, rfl, rfl⟩ := he
  exact ⟨_, _, zs, rfl, hr, hn⟩
set_option maxRecDepth 100000 in
theorem open_hex {W : World} {base : Nat} {v : Value} {d : DataW H} {p : List MemPlace} (hv : Value.okWide Try.prog W .any base 24 v)
    (h : DataW.Trod enc Try.prog W 0 (fun _ => true) true 24 v d p) : ∃ n a c cs, v = .agg #[.int .i64 n, .slice a cs.length c] ∧ IntsAt W a cs ∧ cs.length ≤ 9223372036854775807 := by
  obtain ⟨cs, rfl, hsz⟩ := okWide_struct Try.underlying24 hv
  have hC : (Try.prog).cellsOf 24 = 2 := by kernel_rfl
  have hC1 : (Try.prog).cellsOf 2 = 1 := by kernel_rfl
  have hC2 : (Try.prog).cellsOf 22 = 1 := by kernel_rfl
  rw [hC] at hsz
  obtain ⟨l⟩ := cs
  match l, hsz with
  | [c0, c1], _ =>
    obtain ⟨fuel, hf⟩ := h
    obtain ⟨y0, y1, n, _, _, h0, h1⟩ := trod_struct2 Try.underlying24 hf
    simp only [Value.cells, hC1, hC2, List.drop_zero, List.take_one, List.head?_cons, Option.toList, List.drop_succ_cons] at h0 h1
    obtain ⟨x, he, _⟩ := DataW.trod_int Try.underlying2 h0
    obtain ⟨a', c', ys, he', hr', hn'⟩ := open_row h1
    simp at he he'
    subst he he'
    exact ⟨x, a', c', ys, rfl, hr', hn'⟩

/-- What the laws' bound leaves. -/
def szH (n : Nat) : Int := if 1048576 - (n : Int) < 0 then -1 else 1048576 - (n : Int)
theorem szH_le {n : Nat} (h : ¬ szH n < 0) : n ≤ 1048576 := by
  unfold szH at h
  split at h <;> omega

set_option maxHeartbeats 400000 in
theorem szInt64S_any (a : Option Addr) (n c : Nat) (l : Int) (w : World) (hl : 0 ≤ l) (hl2 : l ≤ 1048576) (hn : n ≤ 9223372036854775807) :
    Calls Try.prog 42 #[.slice a n c, .int .i64 l] w fun e w' => e = .returned (.int .i64 (if l - (n : Int) < 0 then -1 else l - (n : Int))) ∧ w = w' := by
  by_cases h : l - (n : Int) < 0
  · rw [if_pos h]
    go_enter Try.func42, Try.ntmps42
    go_wp2
    go_ret
    exact ⟨rfl, rfl⟩
  · rw [if_neg h]
    go_enter Try.func42, Try.ntmps42
    go_wp2
    go_ret
    exact ⟨rfl, rfl⟩
set_option maxHeartbeats 400000 in
theorem szHex_any (n : Int) (a : Option Addr) (k c : Nat) (w : World) (hn : k ≤ 9223372036854775807) :
    Calls Try.prog 10 #[.agg #[.int .i64 n, .slice a k c], .int .i64 1048576] w (RetB (.int .i64 (szH k)) w) := by
  obtain ⟨s, hs⟩ : ∃ s, s = szH k := ⟨_, rfl⟩
  rw [← hs]
  unfold szH at hs
  have HS := hide hs
  clear hs
  have hB := hide (below_alloc w (.cells #[.int .i64 n, .slice a k c] 24))
  by_cases h : 1048576 - (k : Int) < 0
  · have HP := hide h
    have hfin : Hid (s = -1) := hide (by rw [HS.out, if_pos h])
    go_enter Try.func10, Try.ntmps10
    go_wp2_with fail
    refine (szInt64S_any _ _ _ _ _ (by omega) (by omega) hn).mono ?_
    rw [if_pos (by have := HP.out; omega)]
    rintro e w1 ⟨rfl, rfl⟩
    go_wp2_with fail
    go_ret
    exact ⟨by rw [hfin.out]; rfl, hB.out⟩
  · have HP := hide h
    have hfin : Hid (s = 1048576 - (k : Int)) := hide (by rw [HS.out, if_neg h])
    go_enter Try.func10, Try.ntmps10
    go_wp2_with fail
    refine (szInt64S_any _ _ _ _ _ (by omega) (by omega) hn).mono ?_
    rw [if_neg (by have := HP.out; omega)]
    rintro e w1 ⟨rfl, rfl⟩
    go_wp2_with fail
    go_ret
    exact ⟨by rw [hfin.out]; rfl, hB.out⟩

theorem row2' {w : World} {b : Nat} {x y : Value} {t : TypeId} (h : w.heap[b]? = some (.cells #[x, y] t (0, 0))) :
    w.cell? ⟨b, 0, none⟩ = some x ∧ w.cell? ⟨b, 1, none⟩ = some y ∧ w.frozen? ⟨b, 0, none⟩ = false ∧ w.frozen? ⟨b, 1, none⟩ = false :=
  ⟨(cell_of_row _ _ 0 _ _ (0, 0) h).trans rfl, (cell_of_row _ _ 1 _ _ (0, 0) h).trans rfl, frozen_of_row _ _ 0 _ _ h, frozen_of_row _ _ 1 _ _ h⟩
theorem box_set20 {w : World} {b : Nat} {x y x' : Value} {t : TypeId} (h : w.heap[b]? = some (.cells #[x, y] t (0, 0))) : (w.setCell ⟨b, 0, none⟩ x').heap[b]? = some (.cells #[x', y] t (0, 0)) := heap_setCell_same _ b 0 _ t x' h
theorem box_set21 {w : World} {b : Nat} {x y y' : Value} {t : TypeId} (h : w.heap[b]? = some (.cells #[x, y] t (0, 0))) : (w.setCell ⟨b, 1, none⟩ y').heap[b]? = some (.cells #[x, y'] t (0, 0)) := heap_setCell_same _ b 1 _ t y' h
theorem box_set2' {w : World} {b : Nat} {x y x' y' : Value} {t : TypeId} (h : w.heap[b]? = some (.cells #[x, y] t (0, 0))) :
    ((w.setCell ⟨b, 0, none⟩ x').setCell ⟨b, 1, none⟩ y').heap[b]? = some (.cells #[x', y'] t (0, 0)) := box_set21 (box_set20 h)
theorem hexIn_of_row {w : World} {b : Nat} {n : Int} {a : Option Addr} {k c : Nat} {t : TypeId} (h : w.heap[b]? = some (.cells #[.int .i64 n, .slice a k c] t (0, 0))) : HexIn w b n a k c := ⟨(row2' h).1, (row2' h).2.1⟩

/-- A new board: a row of the call's own. -/
def NewHex (n : Int) (cs : List Int) (W : World) (e : Ending) (W' : World) : Prop :=
  ∃ g c, e = .returned (.agg #[.int .i64 n, .slice (some ⟨g, 0, none⟩) cs.length c]) ∧ W'.ownsRow W.heap.size 2 1 (.slice (some ⟨g, 0, none⟩) cs.length c) cs.length (cs.map intV) ∧ Below W.heap.size W W'

set_option maxRecDepth 100000 in
set_option maxHeartbeats 1000000 in
theorem toHex_any (n : Int) (a : Option Addr) (c : Nat) (cs : List Int) (W : World) (ha : IntsAt W a cs) (hl : cs.length ≤ 1048576) :
    Calls Try.prog 12 #[.agg #[.int .i64 n, .slice a cs.length c]] W (NewHex n cs W) := by
  obtain ⟨W1, hW1⟩ : ∃ W1, W1 = ((W.alloc (.cells #[.int .i64 n, .slice a cs.length c] 24)).alloc (.cells #[.int .i64 0, .slice none 0 0] 28)).alloc (.cells #[.int .i64 n, .slice none 0 0] 28) := ⟨_, rfl⟩
  have hB1 : Hid (Below W.heap.size W W1) := by rw [hW1]; exact hide (((below_alloc _ _).alloc (by simp) _).alloc (by simp; omega) _)
  have hs1 : Hid (W1.heap.size = W.heap.size + 3) := by rw [hW1]; exact hide (by simp)
  have hr11 : Hid (W1.heap[W.heap.size + 1]? = some (.cells #[.int .i64 0, .slice none 0 0] 28 (0, 0))) := by
    have := heap_alloc_new (W.alloc (.cells #[.int .i64 n, .slice a cs.length c] 24)) (.cells #[.int .i64 0, .slice none 0 0] 28 (0, 0))
    rw [hW1, Below.heap_alloc _ _ _ (by simp)]
    exact hide (by simpa using this)
  have hr12 : Hid (W1.heap[W.heap.size + 1 + 1]? = some (.cells #[.int .i64 n, .slice none 0 0] 28 (0, 0))) := by
    have := heap_alloc_new ((W.alloc (.cells #[.int .i64 n, .slice a cs.length c] 24)).alloc (.cells #[.int .i64 0, .slice none 0 0] 28)) (.cells #[.int .i64 n, .slice none 0 0] 28 (0, 0))
    rw [hW1]
    exact hide (by simpa using this)
  have hin1 : HexIn W1 W.heap.size n a cs.length c := by
    rw [hW1]
    exact (hexIn_new W n a cs.length c 24).keep (((Below.refl _ _).alloc (Nat.le_refl _) _).alloc (by simp) _)
  have hA1 := hide (ha.keep hB1.out)
  have HIN := hide hin1
  obtain ⟨d0, d1⟩ := hin1
  clear ha
  go_enter Try.func12, Try.ntmps12
  go_wp2_with fail
  rw [← hW1]
  (try go_wp2_with fail)
  clear hW1 d0 d1
  refine (toInt64S_any _ _ cs _ hA1.out hl).mono ?_
  rintro e w2 ⟨g1, k1, rfl, ho1, hb1⟩
  have hu1 := box_keep hr11.out hb1
  have hu2 := box_keep hr12.out hb1
  obtain ⟨e0, e1, f0, f1⟩ := row2' hu1
  obtain ⟨d0, d1, h0, h1⟩ := row2' hu2
  have hge := (ho1.lt g1 rfl).1
  have hB3 := (((Below.trans' hB1.out hb1).setCell (p := ⟨W.heap.size + 1 + 1, 1, none⟩) (by simp; omega) (.slice (some ⟨g1, 0, none⟩) cs.length k1)).setCell (p := ⟨W.heap.size + 1, 0, none⟩) (by simp) (.int .i64 n)).setCell (p := ⟨W.heap.size + 1, 1, none⟩) (by simp) (.slice (some ⟨g1, 0, none⟩) cs.length k1)
  have hfin : Hid (NewHex n cs W (.returned (.agg #[.int .i64 n, .slice (some ⟨g1, 0, none⟩) cs.length k1])) (((w2.setCell ⟨W.heap.size + 1 + 1, 1, none⟩ (.slice (some ⟨g1, 0, none⟩) cs.length k1)).setCell ⟨W.heap.size + 1, 0, none⟩ (.int .i64 n)).setCell ⟨W.heap.size + 1, 1, none⟩ (.slice (some ⟨g1, 0, none⟩) cs.length k1))) := by
    refine hide ⟨g1, k1, rfl, ?_, hB3⟩
    exact ownsRow_base (ownsRow_setCell_below (ownsRow_setCell_below (ownsRow_setCell_below ho1 (show W.heap.size + 1 + 1 < W1.heap.size by rw [hs1.out]; omega) _) (show W.heap.size + 1 < W1.heap.size by rw [hs1.out]; omega) _) (show W.heap.size + 1 < W1.heap.size by rw [hs1.out]; omega) _) (by rw [hs1.out]; omega)
  have hz1 := hide (box_set2' (x' := .int .i64 n) (y' := .slice (some ⟨g1, 0, none⟩) cs.length k1) ((Below.heap_setCell w2 ⟨W.heap.size + 1 + 1, 1, none⟩ (.slice (some ⟨g1, 0, none⟩) cs.length k1) (W.heap.size + 1) (by simp)).trans hu1))
  clear hu1 hu2 hb1 hB3 ho1 hge
  go_wp2_with fail
  obtain ⟨j0, j1, _⟩ := row2' hz1.out
  exact bodyPost_ret (v := .agg #[.int .i64 n, .slice (some ⟨g1, 0, none⟩) cs.length k1]) (by simp [results, Try.results12, go_sem, j0, j1]) rfl hfin.out

set_option maxHeartbeats 1000000 in
theorem eqHex_same (n : Int) (a b : Option Addr) (c d : Nat) (cs : List Int) (W : World) (ha : IntsAt W a cs) (hb : IntsAt W b cs) (hl : cs.length ≤ 1048576) :
    Calls Try.prog 14 #[.agg #[.int .i64 n, .slice a cs.length c], .agg #[.int .i64 n, .slice b cs.length d]] W (RetB (.bool true) W) := by
  obtain ⟨W0, hW0⟩ : ∃ W0, W0 = (W.alloc (.cells #[.int .i64 n, .slice a cs.length c] 28)).alloc (.cells #[.int .i64 n, .slice b cs.length d] 28) := ⟨_, rfl⟩
  have hB0 : Hid (Below W.heap.size W W0) := by rw [hW0]; exact hide ((below_alloc _ _).alloc (by simp) _)
  have h1 : HexIn W0 W.heap.size n a cs.length c := by
    rw [hW0]
    exact (hexIn_new W n a cs.length c 28).keep (below_alloc _ _)
  have h2 : HexIn W0 (W.heap.size + 1) n b cs.length d := by
    have := hexIn_new (W.alloc (.cells #[.int .i64 n, .slice a cs.length c] 28)) n b cs.length d 28
    rw [hW0]
    simpa using this
  have HA := hide (ha.keep hB0.out)
  have HB := hide (hb.keep hB0.out)
  obtain ⟨c0, c1⟩ := h1
  obtain ⟨d0, d1⟩ := h2
  have hne : (n != n) = false := by simp
  clear ha hb
  go_enter Try.func14, Try.ntmps14
  go_wp2_with fail
  rw [← hW0]
  clear hW0
  (try go_wp2_with fail)
  refine (eqInt64S_same _ _ _ _ cs _ HA.out HB.out hl).mono ?_
  rintro e w1 ⟨rfl, hb1⟩
  have hB1 := hide (Below.trans' hB0.out hb1)
  clear hb1 c0 c1 d0 d1
  go_wp2_with fail
  go_ret
  exact ⟨rfl, hB1.out⟩
end Go.Proofs.Ytogfoahejgmfgaa
