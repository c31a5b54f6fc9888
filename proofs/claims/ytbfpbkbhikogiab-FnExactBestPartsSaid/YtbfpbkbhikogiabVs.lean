/-
  Ends of dots and boxes: values of endings, the model's text.
-/
import Derived.Test.YtbfpbkbhikogiabVp
import Derived.Test.YtbfpbkbhikogiabWo
import Derived.Test.YtbfpbkbhikogiabSpn
import Derived.Deep.LoopGhost
namespace Go.Proofs.Ytbfpbkbhikogiab
open Go.RowKit
set_option linter.unusedVariables false

theorem srt_erase : ∀ {l : List Int} {lo b : Int}, srt lo l = true → srt lo (l.erase b) = true
  | [], lo, b, h => h
  | a :: r, lo, b, h => by
    obtain ⟨h1, h2, h3⟩ := srt_parts h
    by_cases e : a = b
    · subst e
      rw [List.erase_cons_head]
      exact srt_mono h3 h1
    · rw [List.erase_cons_tail (by simpa using e), srt_yes h1 h2]
      exact srt_erase h3
theorem okEn_mk {cs ls : List Int} (h : cs.length + ls.length ≤ 8) (h1 : srt 1 cs = true) (h2 : srt 4 ls = true) : okEn cs ls = true := by rw [okEn_rest h h1]; exact h2
theorem okEn_rng {cs ls : List Int} (h : okEn cs ls = true) : (∀ x ∈ cs, 1 ≤ x ∧ x ≤ 30) ∧ (∀ x ∈ ls, 4 ≤ x ∧ x ≤ 30) := by
  obtain ⟨_, h1, h2⟩ := okEn_parts h
  exact ⟨srt_mem h1, srt_mem h2⟩
theorem okT_cnt {cs ls : List Int} (h : okEn cs ls = true) : okT (cntL cs ls) := by
  obtain ⟨h1, h2⟩ := okEn_rng h
  refine ⟨cntL_len _ _, ?_⟩
  rw [cntL_sum cs ls (fun x hx => by have := h1 x hx; omega) (fun x hx => by have := h2 x hx; omega)]
  exact (okEn_parts h).1
/-- Where the tally counts one there is a strand. -/
theorem bxs_pos {cs ls : List Int} (h : okEn cs ls = true) {m : Nat} (hm : m < 62) (h0 : 0 < tg (cntL cs ls) m) : 1 ≤ bxs m ∧ bxs m ≤ 30 := by
  obtain ⟨h1, h2⟩ := okEn_rng h
  by_cases h31 : m < 31
  · have : ((m : Nat) : Int) ∈ cs := by
      by_cases hh : ((m : Nat) : Int) ∈ cs
      · exact hh
      · rw [cntL_none0 h31 hh] at h0; omega
    rw [(knd_lt h31).2]
    exact h1 _ this
  · have : ((m - 31 : Nat) : Int) ∈ ls := by
      by_cases hh : ((m - 31 : Nat) : Int) ∈ ls
      · exact hh
      · rw [cntL_none1 (by omega) hm hh] at h0; omega
    rw [(knd_ge (by omega) hm).2]
    have := h2 _ this
    omega

/-- The answer by kind. -/
theorem ans_cases (lp : Bool) (b v : Int) : (spOpen (kindOf lp, b) = true ∧ b + v < b - 2 * leftOf (kindOf lp) - v ∧ ansB (kindOf lp) b v = (b - 2 * leftOf (kindOf lp) - v, true)) ∨ ((spOpen (kindOf lp, b) = false ∨ ¬ b + v < b - 2 * leftOf (kindOf lp) - v) ∧ ansB (kindOf lp) b v = (b + v, false)) := by
  by_cases h : spOpen (kindOf lp, b) = true ∧ b + v < b - 2 * leftOf (kindOf lp) - v
  · exact .inl ⟨h.1, h.2, if_pos h⟩
  · refine .inr ⟨?_, if_neg h⟩
    cases ho : spOpen (kindOf lp, b)
    · exact .inl rfl
    · exact .inr (fun h2 => h ⟨ho, h2⟩)
def ansV (lp : Bool) (b v : Int) : Value := .tuple #[.int .i64 (ansB (kindOf lp) b v).1, .bool (ansB (kindOf lp) b v).2]
set_option maxHeartbeats 1000000 in
theorem answer_any (lp : Bool) (b v : Int) (W : World) (h0 : 0 ≤ b) (h1 : b ≤ 30) (h2 : -320 ≤ v) (h3 : v ≤ 320) :
    Calls Try.prog 28 #[.bool lp, .int .i64 b, .int .i64 v] W (RetB (ansV lp b v) W) := by
  obtain ⟨q, hq⟩ : ∃ q, q = b - 2 * leftOf (kindOf lp) - v := ⟨_, rfl⟩
  have hl := leftOf_bd (kindOf lp)
  have hq0 : -400 ≤ q := by omega
  have hq1 : q ≤ 400 := by omega
  have hT : Hid (∀ o, spOpen (kindOf lp, b) = o → Calls Try.prog 34 #[.bool lp, .int .i64 b, .int .i64 v] W fun e W' => e = .returned (.tuple #[.int .i64 (b + v), .int .i64 q, .bool o]) ∧ W = W') := hide (fun o ho => by
    have h := taker_any lp b v W h0 h1 (by omega) (by omega)
    unfold takerV at h
    rw [ho, ← hq] at h
    exact h)
  rcases ans_cases lp b v with ⟨ho, hlt, hA⟩ | ⟨ho, hA⟩
  · have hf : Hid (ansV lp b v = .tuple #[.int .i64 q, .bool true]) := hide (by unfold ansV; rw [hA, hq])
    rw [hf.out]
    rw [← hq] at hlt
    have HO := hide ho
    clear hq hl ho hA
    go_enter Try.func28, Try.ntmps28
    go_wp2_with fail
    refine (hT.out true HO.out).mono ?_
    rintro e w1 ⟨rfl, rfl⟩
    go_wp2_with fail
    refine bodyPost_ret (v := .tuple #[.int .i64 q, .bool true]) (by simp [results, Try.results28, go_sem]) rfl ⟨rfl, Below.refl _ _⟩
  · have hf : Hid (ansV lp b v = .tuple #[.int .i64 (b + v), .bool false]) := hide (by unfold ansV; rw [hA])
    rw [hf.out]
    rw [← hq] at ho
    rcases ho with ho | ho
    · have HO := hide ho
      clear hq hl ho hA
      go_enter Try.func28, Try.ntmps28
      go_wp2_with fail
      refine (hT.out false HO.out).mono ?_
      rintro e w1 ⟨rfl, rfl⟩
      go_wp2_with fail
      refine bodyPost_ret (v := .tuple #[.int .i64 (b + v), .bool false]) (by simp [results, Try.results28, go_sem]) rfl ⟨rfl, Below.refl _ _⟩
    · cases hso : spOpen (kindOf lp, b)
      all_goals
        have HO := hide hso
        have hge : ¬ b + v < q := ho
        clear hq hl ho hA hso
        go_enter Try.func28, Try.ntmps28
        go_wp2_with fail
        refine (hT.out _ HO.out).mono ?_
        rintro e w1 ⟨rfl, rfl⟩
        go_wp2_with fail
        refine bodyPost_ret (v := .tuple #[.int .i64 (b + v), .bool false]) (by simp [results, Try.results28, go_sem]) rfl ⟨rfl, Below.refl _ _⟩

/-- The bound of what has been seen behind i of the numbers of a list. -/
def BdOk (l : List Int) (base i bd : Nat) : Prop := (i = 0 ∧ bd = base) ∨ ∃ j y, i = j + 1 ∧ l[j]? = some y ∧ bd = base + y.toNat + 1


/-- One of the two lists of a tally. -/
structure Fld (L : List Nat) (l : List Int) (base : Nat) (lo : Int) : Prop where
  none : ∀ p, base ≤ p → p < base + 31 → ((p - base : Nat) : Int) ∉ l → tg L p = 0
  pos : ∀ z ∈ l, 0 < tg L (base + z.toNat)
  srt : srt lo l = true
  rng : ∀ x ∈ l, 1 ≤ x ∧ x ≤ 30
  top : base + 31 ≤ 62
theorem fld0 {cs ls : List Int} (h : okEn cs ls = true) : Fld (cntL cs ls) cs 0 1 :=
  ⟨fun p _ h2 h3 => cntL_none0 (by omega) (by simpa using h3), fun z hz => by
    have := (okEn_rng h).1 z hz
    rw [Nat.zero_add]
    exact cntL_pos0 (by omega) hz, (okEn_parts h).2.1, (okEn_rng h).1, by omega⟩
theorem fld1 {cs ls : List Int} (h : okEn cs ls = true) : Fld (cntL cs ls) ls 31 4 :=
  ⟨fun p h1 h2 h3 => cntL_none1 h1 (by omega) h3, fun z hz => by
    have := (okEn_rng h).2 z hz
    exact cntL_pos1 (by omega) hz, (okEn_parts h).2.2, fun x hx => by have := (okEn_rng h).2 x hx; omega, by omega⟩
theorem bd_dup {l : List Int} {base j bd : Nat} {z : Int} (hb : BdOk l base (j + 1) bd) (hj : l[j]? = some z) (hz : l[j + 1]? = some z) : BdOk l base (j + 1 + 1) bd := by
  rcases hb with ⟨h, _⟩ | ⟨j', y, e, hy, rfl⟩
  · omega
  · obtain rfl : j' = j := by omega
    rw [hj] at hy
    cases hy
    exact .inr ⟨j' + 1, z, rfl, hz, rfl⟩
theorem bd_put {l : List Int} {base i : Nat} {z : Int} (hz : l[i]? = some z) : BdOk l base (i + 1) (base + z.toNat + 1) := .inr ⟨i, z, rfl, hz, rfl⟩
theorem Fld.new {L : List Nat} {l : List Int} {base i bd : Nat} {lo z : Int} (h : Fld L l base lo) (hb : BdOk l base i bd) (hz : l[i]? = some z) (hne : ∀ j y, i = j + 1 → l[j]? = some y → y ≠ z) : seen L (base + z.toNat + 1) = seen L bd ++ [base + z.toNat] := by
  have hzm := List.mem_of_getElem? hz
  have hzr := h.rng z hzm
  have htop := h.top
  rcases hb with ⟨rfl, rfl⟩ | ⟨j, y, rfl, hy, rfl⟩
  · refine seen_next (by omega) (by omega) (h.pos z hzm) (fun p h1 h2 => h.none p h1 (by omega) (fun hm => ?_))
    have := srt_first h.srt hz _ hm
    omega
  · obtain ⟨h1, h2⟩ := srt_next h.srt hy hz
    have hyz := hne j y rfl hy
    have hyr := h.rng y (List.mem_of_getElem? hy)
    refine seen_next (by omega) (by omega) (h.pos z hzm) (fun p h3 h4 => h.none p (by omega) (by omega) (fun hm => ?_))
    have := h1 _ hm
    omega
theorem Fld.done {L : List Nat} {l : List Int} {base bd : Nat} {lo : Int} (h : Fld L l base lo) (hb : BdOk l base l.length bd) : seen L (base + 31) = seen L bd := by
  rcases hb with ⟨h0, rfl⟩ | ⟨j, y, e, hy, rfl⟩
  · have : l = [] := List.eq_nil_of_length_eq_zero h0
    subst this
    exact seen_gap (by omega) (fun p h1 h2 => h.none p h1 h2 (by simp))
  · have hyr := h.rng y (List.mem_of_getElem? hy)
    have hl := srt_last h.srt hy e.symm
    refine seen_gap (by omega) (fun p h1 h2 => h.none p (by omega) h2 (fun hm => ?_))
    have := hl _ hm
    omega

theorem newEndV_one {xs ys : List Int} {v : Value} {W : World} {e : Ending} {W' : World} (h : NewEndV xs ys [v] W e W') :
    ∃ a c a' c', e = .returned (.tuple #[.agg #[.slice a xs.length c, .slice a' ys.length c'], v]) ∧ W'.ownsRow W.heap.size 2 1 (.slice a xs.length c) xs.length (xs.map intV) ∧ W'.ownsRow W.heap.size 2 1 (.slice a' ys.length c') ys.length (ys.map intV) ∧ Ap (.slice a xs.length c) (.slice a' ys.length c') ∧ Below W.heap.size W W' := by
  obtain ⟨a, c, a', c', rfl, h⟩ := h
  exact ⟨a, c, a', c', by simp, h⟩
/-- The model's text of an ending without one strand, a strand that is there. -/
theorem without_at (a : Option Addr) (c : Nat) (cs : List Int) (a' : Option Addr) (c' : Nat) (ls : List Int) (lp : Bool) (b : Int) (xs ys : List Int) (f : Bool) (h : woL cs ls lp b = (xs, ys, f)) (W : World) (ha : IntsAt W a cs) (ha' : IntsAt W a' ls) (hl : cs.length ≤ 1048576) (hl' : ls.length ≤ 1048576) :
    Calls Try.prog 27 #[.agg #[.slice a cs.length c, .slice a' ls.length c'], .bool lp, .int .i64 b] W fun e W' => ∃ a c a' c', e = .returned (.tuple #[.agg #[.slice a xs.length c, .slice a' ys.length c'], .bool f]) ∧ W'.ownsRow W.heap.size 2 1 (.slice a xs.length c) xs.length (xs.map intV) ∧ W'.ownsRow W.heap.size 2 1 (.slice a' ys.length c') ys.length (ys.map intV) ∧ Ap (.slice a xs.length c) (.slice a' ys.length c') ∧ Below W.heap.size W W' := by
  have := without_any a c cs a' c' ls lp b W ha ha' hl hl'
  rw [h] at this
  exact this.mono fun _ _ h => newEndV_one h

/-- An ending without one strand, stored in a box. -/
def CutPost (W5 : World) (xs ys : List Int) (s11 : Value) (wx : World) : Prop := ∃ nb a6 k6 a6' k6', s11 = .pointer (some ⟨nb, 0, none⟩) ∧ EndIn wx nb a6 xs.length k6 a6' ys.length k6' ∧ IntsAt wx a6 xs ∧ IntsAt wx a6' ys ∧ Below W5.heap.size W5 wx
theorem cut_new {W5 Wb w3 : World} {xs ys : List Int} {a6 a6' : Option Addr} {k6 k6' : Nat} (hb : Below W5.heap.size W5 Wb) (ho : w3.ownsRow Wb.heap.size 2 1 (.slice a6 xs.length k6) xs.length (xs.map intV)) (ho' : w3.ownsRow Wb.heap.size 2 1 (.slice a6' ys.length k6') ys.length (ys.map intV)) (hb3 : Below Wb.heap.size Wb w3) :
    CutPost W5 xs ys (.pointer (some ⟨w3.heap.size, 0, none⟩)) (w3.alloc (.cells #[.slice a6 xs.length k6, .slice a6' ys.length k6'] 33)) :=
  ⟨_, a6, k6, a6', k6', rfl, endIn_new _ _ _ _ _ _ _ _, (intsAt_of_ownsRow ho).keep (below_alloc _ _), (intsAt_of_ownsRow ho').keep (below_alloc _ _), Below.alloc' (Below.trans' hb hb3) _⟩
theorem cut_old {W5 Wb w3 : World} {xs ys : List Int} {a6 a6' : Option Addr} {k6 k6' B : Nat} {u v : Value} (hb : Below W5.heap.size W5 Wb) (hB : W5.heap.size ≤ B) (hB' : B < Wb.heap.size) (hrow : Wb.heap[B]? = some (.cells #[u, v] 33 (0, 0))) (ho : w3.ownsRow Wb.heap.size 2 1 (.slice a6 xs.length k6) xs.length (xs.map intV)) (ho' : w3.ownsRow Wb.heap.size 2 1 (.slice a6' ys.length k6') ys.length (ys.map intV)) (hb3 : Below Wb.heap.size Wb w3) :
    CutPost W5 xs ys (.pointer (some ⟨B, 0, none⟩)) ((w3.setCell ⟨B, 0, none⟩ (.slice a6 xs.length k6)).setCell ⟨B, 1, none⟩ (.slice a6' ys.length k6')) := by
  obtain ⟨j0, j1, _⟩ := row2' (box_set2' (x' := .slice a6 xs.length k6) (y' := .slice a6' ys.length k6') (box_keep hrow hb3))
  exact ⟨B, a6, k6, a6', k6', rfl, ⟨j0, j1⟩, intsAt_of_ownsRow (ownsRow_setCell_below (ownsRow_setCell_below ho hB' _) hB' _), intsAt_of_ownsRow (ownsRow_setCell_below (ownsRow_setCell_below ho' hB' _) hB' _),
    ((Below.trans' hb hb3).setCell (p := ⟨B, 0, none⟩) hB _).setCell (p := ⟨B, 1, none⟩) hB _⟩

/-- What the search knows: the best one of those seen. -/
structure Best (L : List Nat) (bd : Nat) (o : Option Nat) : Prop where
  is : o = bst (tkT L) (seen L bd)
theorem Best.mem {L : List Nat} {bd m : Nat} (h : Best L bd (some m)) : m < 62 ∧ 0 < tg L m := by
  have := bst_mem _ _ _ h.is.symm
  simp only [seen, List.mem_filter, List.mem_range, Bool.and_eq_true, decide_eq_true_eq] at this
  exact ⟨this.1, this.2.2⟩
theorem Best.put {L : List Nat} {bd z : Nat} {o : Option Nat} (h : Best L bd o) (hs : seen L (z + 1) = seen L bd ++ [z]) : Best L (z + 1) (bstStep (tkT L) o z) := ⟨by rw [hs, bst_snoc, ← h.is]⟩

end Go.Proofs.Ytbfpbkbhikogiab
