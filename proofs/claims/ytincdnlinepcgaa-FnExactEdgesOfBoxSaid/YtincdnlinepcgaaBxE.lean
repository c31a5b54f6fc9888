/-
  Dots and boxes: EdgesOfBox, both texts.
-/
import Derived.Test.YtincdnlinepcgaaBxW
import Derived.Test.YtincdnlinepcgaaMkT
namespace Go.Proofs.Ytincdnlinepcgaa
open Go.RowKit
set_option linter.unusedVariables false

def edR (w h E i : Int) : List Int × Int := if okBox w h E then (if inn i 0 (w * h - 1) then (around w h i, 0) else ([], 2)) else ([], 1)
theorem edR_le (w h E i : Int) : (edR w h E i).1.length ≤ 1048576 := by
  unfold edR
  split
  · split
    · simp [around]
    · simp
  · simp

/-- A row of numbers that is a whole array of the call's own, or none. -/
def ArrRow (w : World) (base : Nat) (a : Option Addr) (zs : List Int) : Prop := zs = [] ∨ ∃ g t, a = some ⟨g, 0, none⟩ ∧ base ≤ g ∧ w.heap[g]? = some (.cells (zs.map intV).toArray t (0, 0))
def NewArr (r : List Int × Int) (w : World) (e : Ending) (w' : World) : Prop :=
  ∃ a c, e = .returned (.tuple #[.slice a r.1.length c, .int .i64 r.2]) ∧ ArrRow w' w.heap.size a r.1 ∧ Below w.heap.size w w'
theorem ArrRow.keep {w w' : World} {base : Nat} {a : Option Addr} {zs : List Int} (h : ArrRow w base a zs) (hb : Below w.heap.size w w') : ArrRow w' base a zs := by
  rcases h with h | ⟨g, t, ha, hg, hh⟩
  · exact .inl h
  · exact .inr ⟨g, t, ha, hg, (hb.block g (block_lt hh)).trans hh⟩
theorem ArrRow.ints {w : World} {base : Nat} {a : Option Addr} {zs : List Int} (h : ArrRow w base a zs) : IntsAt w a zs := by
  rcases h with rfl | ⟨g, t, rfl, hg, hh⟩
  · exact CellsAt.nil _ _
  · intro _
    refine ⟨g, 0, rfl, fun i hi => ?_⟩
    rw [cell_of_row _ g (0 + i) _ _ (0, 0) hh]
    simp
theorem ArrRow.room {w : World} {base : Nat} {a : Option Addr} {zs : List Int} (h : ArrRow w base a zs) : MT.Room w a zs.length := by
  rcases h with rfl | ⟨g, t, rfl, hg, hh⟩
  · exact .inl rfl
  · exact .inr ⟨g, 0, _, t, rfl, hh, by simp⟩
theorem ArrRow.marked {w w' : World} {base : Nat} {a : Option Addr} {zs : List Int} {k : Int} {e : Ending} (h : ArrRow w base a zs) (hp : MT.MarkPost a zs.length k w e w') : ArrRow w' base a (marks k zs.length) ∧ Marked (fun b => base ≤ b) w w' := by
  obtain ⟨_, ⟨h0, rfl⟩ | ⟨b, off, cur, cur', t, hpos, rfl, hb, hb', hI, hM⟩⟩ := hp
  · refine ⟨.inl ?_, Marked.refl _ _⟩
    rw [h0]
    rfl
  · rcases h with rfl | ⟨g, t', ha, hg, hh⟩
    · simp at hpos
    · simp at ha
      obtain ⟨rfl, rfl⟩ := ha
      rw [hb] at hh
      cases hh
      refine ⟨.inr ⟨b, t, rfl, hg, ?_⟩, hM.weaken (fun k e => by cases e; exact hg)⟩
      rw [hb']
      have hs := hI.1
      have e2 : cur' = ((marks k zs.length).map intV).toArray := by
        apply Array.ext_getElem?
        intro i
        by_cases hin : i < zs.length
        · have h2 := hI.2.1 i hin
          rw [Nat.zero_add] at h2
          rw [h2]
          simp [marks, hin, intV]
        · rw [Array.getElem?_eq_none (by rw [hs]; simp; omega), Array.getElem?_eq_none (by simp [marks]; omega)]
      rw [e2]

set_option maxRecDepth 100000 in
set_option maxHeartbeats 2000000 in
theorem implEd_any (w h E i : Int) (W : World) : Calls Try.prog 19 #[.agg #[.int .i64 w, .int .i64 h, .int .i64 E], .int .i64 i] W (NewArr (edR w h E i) W) := by
  have hB0 := hide (below_alloc W (.cells #[.int .i64 w, .int .i64 h, .int .i64 E] 25))
  have hX0 := hide (boxIn_new W w h E 25)
  obtain ⟨r, hr⟩ : ∃ r, r = edR w h E i := ⟨_, rfl⟩
  rw [← hr]
  unfold edR at hr
  cases hb : okBox w h E
  · have HR : Hid (r = ([], 1)) := hide (by rw [hr, hb]; rfl)
    have HB := hide hb
    clear hb hr
    go_enter Try.func19, Try.ntmps19
    go_wp2_with fail
    refine (implIs_any w h E _).mono ?_
    rw [HB.out]
    rintro e w1 ⟨rfl, hb1⟩
    have hB1 := hide (Below.trans' hB0.out hb1)
    clear hb1
    go_wp2_with fail
    go_ret2
    rw [HR.out]
    exact ⟨none, 0, rfl, .inl rfl, hB1.out⟩
  · rw [hb, if_pos rfl] at hr
    have HB := hide hb
    obtain ⟨h1, h2, h3, h4, _, _⟩ := okBox_parts hb
    obtain ⟨m, hm, hm9⟩ := boxes_nat hb
    have HM := hide hm
    clear hb
    cases hin : inn i 0 (w * h - 1)
    · have HR : Hid (r = ([], 2)) := hide (by rw [hr, hin]; rfl)
      have hno : i < 0 ∨ (m : Int) ≤ i := by simp [inn] at hin; omega
      clear hin hr hm
      by_cases hi0 : i < 0
      · have hd0 : decide (i < 0) = true := decide_eq_true hi0
        clear hno
        go_enter Try.func19, Try.ntmps19
        go_wp2_with fail
        refine (implIs_any w h E _).mono ?_
        rw [HB.out]
        rintro e w1 ⟨rfl, hb1⟩
        have hB1 := hide (Below.trans' hB0.out hb1)
        clear hb1
        go_wp2_with fail
        go_ret2
        rw [HR.out]
        exact ⟨none, 0, rfl, .inl rfl, hB1.out⟩
      · have hd0 : decide (i < 0) = false := decide_eq_false hi0
        have hme : (m : Int) ≤ i := by omega
        have hdm : decide ((m : Int) ≤ i) = true := decide_eq_true hme
        clear hno
        go_enter Try.func19, Try.ntmps19
        go_wp2_with fail
        refine (implIs_any w h E _).mono ?_
        rw [HB.out]
        rintro e w1 ⟨rfl, hb1⟩
        obtain ⟨c0, c1, c2⟩ := hX0.out.keep hb1
        have hB1 := hide (Below.trans' hB0.out hb1)
        clear hb1
        go_wp2_with fail
        refine (boxes_any w h E h1 h2 h3 h4 _).mono ?_
        rw [HM.out]
        rintro e w2 ⟨rfl, hb2⟩
        have hB2 := hide (Below.trans' hB1.out hb2)
        clear hb2 c0 c1 c2
        go_wp2_with fail
        go_ret2
        rw [HR.out]
        exact ⟨none, 0, rfl, .inl rfl, hB2.out⟩
    · have HR : Hid (r = (around w h i, 0)) := hide (by rw [hr, hin]; rfl)
      obtain ⟨hi0, him⟩ : 0 ≤ i ∧ i < (m : Int) := by simp [inn] at hin; omega
      have hi0' : ¬ i < 0 := by omega
      have hd0 : decide (i < 0) = false := decide_eq_false hi0'
      have hdm : decide ((m : Int) ≤ i) = false := decide_eq_false (by omega)
      clear hin hr hm
      go_enter Try.func19, Try.ntmps19
      go_wp2_with fail
      refine (implIs_any w h E _).mono ?_
      rw [HB.out]
      rintro e w1 ⟨rfl, hb1⟩
      obtain ⟨c0, c1, c2⟩ := hX0.out.keep hb1
      have hX1 := hide (hX0.out.keep hb1)
      have hB1 := hide (Below.trans' hB0.out hb1)
      clear hb1
      go_wp2_with fail
      refine (boxes_any w h E h1 h2 h3 h4 _).mono ?_
      rw [HM.out]
      rintro e w2 ⟨rfl, hb2⟩
      have hB2 := hide (Below.trans' hB1.out hb2)
      have hX2 := hX1.out.keep hb2
      clear hb2 c0 c1 c2
      obtain ⟨c0, c1, c2⟩ := hX2
      go_wp2_with fail
      refine (edgesAround_any w h E i h1 h2 h3 h4 hi0 (by rw [HM.out]; exact him) _).mono ?_
      rintro e w3 ⟨rfl, hb3⟩
      have hB3 := hide (Below.trans' hB2.out hb3)
      clear hb3 c0 c1 c2
      go_wp2_with fail
      go_ret2
      rw [HR.out]
      exact ⟨some ⟨w3.heap.size, 0, none⟩, 4, rfl, .inr ⟨_, _, rfl, hB3.out.size, heap_alloc_new w3 _⟩, hB3.out.alloc hB3.out.size _⟩

set_option maxRecDepth 100000 in
set_option maxHeartbeats 2000000 in
theorem specBox_any (w h E i : Int) (W : World) : Calls Try.prog 42 #[.agg #[.int .i64 w, .int .i64 h, .int .i64 E], .int .i64 i] W (RetB (.int .i64 (edR w h E i).2) W) := by
  have hB0 := hide (below_alloc W (.cells #[.int .i64 w, .int .i64 h, .int .i64 E] 25))
  have hX0 := hide (boxIn_new W w h E 25)
  obtain ⟨r, hr⟩ : ∃ r, r = edR w h E i := ⟨_, rfl⟩
  rw [← hr]
  unfold edR at hr
  cases hb : okBox w h E
  · have HR : Hid (r = ([], 1)) := hide (by rw [hr, hb]; rfl)
    have HB := hide hb
    clear hb hr
    go_enter Try.func42, Try.ntmps42
    go_wp2_with fail
    refine (specIs_any w h E _).mono ?_
    rw [HB.out]
    rintro e w1 ⟨rfl, hb1⟩
    have hB1 := hide (Below.trans' hB0.out hb1)
    clear hb1
    go_wp2_with fail
    go_ret
    rw [HR.out]
    exact ⟨rfl, hB1.out⟩
  · rw [hb, if_pos rfl] at hr
    have HB := hide hb
    obtain ⟨h1, h2, h3, h4, _, _⟩ := okBox_parts hb
    obtain ⟨g1, g2, _⟩ := grid_nums h1 h2 h3 h4
    clear hb
    cases hin : inn i 0 (w * h - 1)
    all_goals
      have HR : Hid (r.2 = if inn i 0 (w * h - 1) then 0 else 2) := hide (by rw [hr]; split <;> rfl)
      rw [hin] at HR
      have HI := hide hin
      clear hin hr
      go_enter Try.func42, Try.ntmps42
      go_wp2_with fail
      refine (specIs_any w h E _).mono ?_
      rw [HB.out]
      rintro e w1 ⟨rfl, hb1⟩
      obtain ⟨c0, c1, c2⟩ := hX0.out.keep hb1
      have hB1 := hide (Below.trans' hB0.out hb1)
      clear hb1
      go_wp2_with fail
      refine (inn_is _ _ _ HI.out _).mono ?_
      rintro e w2 ⟨rfl, hb2⟩
      have hB2 := hide (Below.trans' hB1.out hb2)
      clear hb2 c0 c1 c2
      go_wp2_with fail
      go_ret
      exact ⟨ret_int (by rw [HR.out]; simp), hB2.out⟩

set_option maxRecDepth 100000 in
set_option maxHeartbeats 2000000 in
theorem specEd_any (w h E i : Int) (W : World) : Calls Try.prog 18 #[.agg #[.int .i64 w, .int .i64 h, .int .i64 E], .int .i64 i] W (NewList (edR w h E i) W) := by
  have hB0 := hide (below_alloc W (.cells #[.int .i64 w, .int .i64 h, .int .i64 E] 25))
  have hX0 := hide (boxIn_new W w h E 25)
  obtain ⟨r, hr⟩ : ∃ r, r = edR w h E i := ⟨_, rfl⟩
  have HR := hide hr
  rw [← hr]
  by_cases hok : okBox w h E = true ∧ inn i 0 (w * h - 1) = true
  · have hr0 : Hid (r = (around w h i, 0)) := hide (by rw [hr]; unfold edR; rw [hok.1, hok.2]; rfl)
    obtain ⟨h1, h2, h3, h4, _, _⟩ := okBox_parts hok.1
    obtain ⟨hi0, hi1⟩ : 0 ≤ i ∧ i < w * h := by have := hok.2; simp [inn] at this; omega
    have HI1 := hide hi1
    clear hr hok hi1
    go_enter Try.func18, Try.ntmps18
    go_wp2_with fail
    refine (specBox_any w h E i _).mono ?_
    rw [← HR.out, hr0.out]
    rintro e w1 ⟨rfl, hb1⟩
    obtain ⟨c0, c1, c2⟩ := hX0.out.keep hb1
    have hB1 := hide (Below.trans' hB0.out hb1)
    clear hb1
    go_wp2_with fail
    refine (specAround_any w h E i h1 h2 h3 h4 hi0 HI1.out _).mono ?_
    rintro e w2 ⟨a, c, rfl, ho, hb2⟩
    have hfin : Hid (NewList (around w h i, 0) W (.returned (.tuple #[.slice a (around w h i).length c, .int .i64 0])) w2) := hide ⟨a, c, rfl, ownsRow_base ho hB1.out.size, Below.trans' hB1.out hb2⟩
    clear ho hb2 c0 c1 c2
    obtain ⟨nn, hnn⟩ : ∃ nn, nn = (around w h i).length := ⟨_, rfl⟩
    have HNN := hide hnn
    rw [← hnn] at hfin ⊢
    clear hnn
    go_wp2_with fail
    go_ret2
    obtain rfl : nn = (around w h i).length := HNN.out
    rw [hr0.out]
    exact hfin.out
  · have hr0 : Hid (r.1 = [] ∧ (r.2 == 0) = false) := hide (by
      rw [hr]; unfold edR
      split
      · split
        · rename_i a b; exact absurd ⟨a, b⟩ hok
        · exact ⟨rfl, rfl⟩
      · exact ⟨rfl, rfl⟩)
    obtain ⟨rl, rc⟩ := r
    obtain ⟨q1, q2⟩ := hr0.out
    simp only at q1 q2
    subst q1
    have q3 : (rc != 0) = true := by simpa using q2
    clear hr hok q2 hr0
    go_enter Try.func18, Try.ntmps18
    go_wp2_with fail
    refine (specBox_any w h E i _).mono ?_
    rw [← HR.out]
    rintro e w1 ⟨rfl, hb1⟩
    have hB1 := hide (Below.trans' hB0.out hb1)
    clear hb1
    go_wp2_with fail
    go_ret2
    exact newList_nil hB1.out
end Go.Proofs.Ytincdnlinepcgaa
