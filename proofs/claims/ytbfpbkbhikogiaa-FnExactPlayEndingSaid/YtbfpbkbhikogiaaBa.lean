/-
  Ends of dots and boxes: BestAnswer, both texts.
-/
import Derived.Test.YtbfpbkbhikogiaaAf
import Derived.Test.YtbfpbkbhikogiaaVi
namespace Go.Proofs.Ytbfpbkbhikogiaa
open Go.RowKit Go.Maps
set_option linter.unusedVariables false

theorem okEn_wo {cs ls : List Int} (h : okEn cs ls = true) (lp : Bool) (b : Int) : okEn (woL cs ls lp b).1 (woL cs ls lp b).2.1 = true := by
  obtain ⟨h8, h1, h2⟩ := okEn_parts h
  cases lp
  · refine okEn_mk ?_ (srt_erase h1) h2
    have := List.length_erase_le (a := b) (l := cs)
    show (cs.erase b).length + ls.length ≤ 8
    omega
  · refine okEn_mk ?_ h1 (srt_erase h2)
    have := List.length_erase_le (a := b) (l := ls)
    show cs.length + (ls.erase b).length ≤ 8
    omega
theorem wo_rng {cs ls : List Int} (h : okEn cs ls = true) {lp : Bool} {b : Int} (hf : (woL cs ls lp b).2.2 = true) : 0 ≤ b ∧ b ≤ 30 := by
  obtain ⟨h1, h2⟩ := okEn_rng h
  cases lp
  · have hb : b ∈ cs := by simpa [woL] using hf
    have := h1 b hb
    omega
  · have hb : b ∈ ls := by simpa [woL] using hf
    have := h2 b hb
    omega
/-- Whether the best answer is the sparing one, and a code. -/
def ansR (cs ls : List Int) (lp : Bool) (b : Int) : Bool × Int := if okEn cs ls = true then (if (woL cs ls lp b).2.2 = true then ((ansB (kindOf lp) b (vT (cntL (woL cs ls lp b).1 (woL cs ls lp b).2.1))).2, 0) else (false, 5)) else (false, 1)
def boolV2 : Bool × Int → Value | (f, c) => .tuple #[.bool f, .int .i64 c]

set_option maxRecDepth 100000 in
set_option maxHeartbeats 2000000 in
theorem specAns_any (a : Option Addr) (c : Nat) (cs : List Int) (a' : Option Addr) (c' : Nat) (ls : List Int) (lp : Bool) (b : Int) (W : World) (ha : IntsAt W a cs) (ha' : IntsAt W a' ls) (hl : cs.length ≤ 1048576) (hl' : ls.length ≤ 1048576) :
    Calls Try.prog 17 #[.agg #[.slice a cs.length c, .slice a' ls.length c'], .bool lp, .int .i64 b] W (RetB (boolV2 (ansR cs ls lp b)) W) := by
  obtain ⟨W0, hW0⟩ : ∃ W0, W0 = W.alloc (.cells #[.slice a cs.length c, .slice a' ls.length c'] 26) := ⟨_, rfl⟩
  have hB0 : Hid (Below W.heap.size W W0) := by rw [hW0]; exact hide (below_alloc _ _)
  have hX0 : Hid (EndIn W0 W.heap.size a cs.length c a' ls.length c') := by rw [hW0]; exact hide (endIn_new _ _ _ _ _ _ _ _)
  have hA0 := hide (ha.keep hB0.out)
  have hA0' := hide (ha'.keep hB0.out)
  obtain ⟨r, hr⟩ : ∃ r, r = ansR cs ls lp b := ⟨_, rfl⟩
  rw [← hr]
  unfold ansR at hr
  obtain ⟨c0, c1⟩ := hX0.out
  clear ha ha'
  cases hok : okEn cs ls
  · have HR : Hid (r = (false, 1)) := hide (by rw [hr, hok]; rfl)
    have HK := hide hok
    clear hr hok
    go_enter Try.func17, Try.ntmps17
    go_wp2_with fail
    rw [← hW0]
    clear hW0
    (try go_wp2_with fail)
    refine (specIs_any _ _ cs _ _ ls _ hA0.out hA0'.out hl hl').mono ?_
    rw [HK.out]
    rintro e w1 ⟨rfl, hb1⟩
    have hB1 := hide (Below.trans' hB0.out hb1)
    clear hb1 c0 c1
    go_wp2_with fail
    refine bodyPost_ret (v := .tuple #[.bool false, .int .i64 1]) (by simp [results, Try.results17, go_sem]) rfl ⟨by rw [HR.out]; rfl, hB1.out⟩
  · rw [hok, if_pos rfl] at hr
    have hok2 := okEn_wo hok lp b
    have hrng := fun h => wo_rng (lp := lp) (b := b) hok h
    obtain ⟨xs, ys, fd, hwo⟩ : ∃ xs ys fd, woL cs ls lp b = (xs, ys, fd) := ⟨_, _, _, rfl⟩
    rw [hwo] at hr hok2 hrng
    dsimp only at hr hok2 hrng
    have HK := hide hok
    have HWO := hide hwo
    clear hok hwo
    have HOK2 := hide hok2
    have HRNG := hide hrng
    have HRQ := hide hr
    clear hok2 hrng hr
    go_enter Try.func17, Try.ntmps17
    go_wp2_with fail
    rw [← hW0]
    clear hW0
    (try go_wp2_with fail)
    refine (specIs_any _ _ cs _ _ ls _ hA0.out hA0'.out hl hl').mono ?_
    rw [HK.out]
    rintro e w1 ⟨rfl, hb1⟩
    have hX1 := hX0.out.keep hb1
    have hA1 := hide (hA0.out.keep hb1)
    have hA1' := hide (hA0'.out.keep hb1)
    have hB1 := hide (Below.trans' hB0.out hb1)
    clear hb1 c0 c1
    obtain ⟨c0, c1⟩ := hX1
    go_wp2_with fail
    refine (without_at _ _ cs _ _ ls lp b xs ys fd HWO.out _ hA1.out hA1'.out hl hl').mono ?_
    rintro e w2 ⟨a6, k6, a6', k6', rfl, ho6, ho6', hap, hb2⟩
    have hY3 : EndIn (w2.alloc (.cells #[.slice a6 xs.length k6, .slice a6' ys.length k6'] 26)) w2.heap.size a6 xs.length k6 a6' ys.length k6' := endIn_new _ _ _ _ _ _ _ _
    have hI3 := hide ((intsAt_of_ownsRow ho6).keep (below_alloc w2 (.cells #[.slice a6 xs.length k6, .slice a6' ys.length k6'] 26)))
    have hI3' := hide ((intsAt_of_ownsRow ho6').keep (below_alloc w2 (.cells #[.slice a6 xs.length k6, .slice a6' ys.length k6'] 26)))
    have hB3 := hide (Below.trans' (Below.trans' hB1.out hb2) (below_alloc w2 (.cells #[.slice a6 xs.length k6, .slice a6' ys.length k6'] 26)))
    obtain ⟨y0, y1⟩ := hY3
    clear ho6 ho6' hap hb2 c0 c1
    cases fd
    · have HR : Hid (r = (false, 5)) := hide (by rw [HRQ.out]; rfl)
      go_wp2_with fail
      refine bodyPost_ret (v := .tuple #[.bool false, .int .i64 5]) (by simp [results, Try.results17, go_sem]) rfl ⟨by rw [HR.out]; rfl, hB3.out⟩
    · obtain ⟨v, hv⟩ : ∃ v, v = vT (cntL xs ys) := ⟨_, rfl⟩
      have hvb := (okT_cnt HOK2.out).bd
      have hr := HRQ.out
      rw [← hv] at hvb hr
      obtain ⟨b0, b1⟩ := HRNG.out rfl
      obtain ⟨T, hT⟩ : ∃ T, T = (ansB (kindOf lp) b v).1 := ⟨_, rfl⟩
      obtain ⟨f, hf⟩ : ∃ f, f = (ansB (kindOf lp) b v).2 := ⟨_, rfl⟩
      have HR : Hid (r = (f, 0)) := hide (by rw [hr, hf]; rfl)
      have hAns : Hid (∀ V : World, Calls Try.prog 58 #[.bool lp, .int .i64 b, .int .i64 v] V (RetB (.tuple #[.int .i64 T, .bool f]) V)) := hide (fun V => by rw [hT, hf]; exact answer_any lp b v V b0 b1 hvb.1 hvb.2)
      have HV := hide hv
      clear hr hv hvb hT hf
      go_wp2_with fail
      refine (value_any _ _ _ xs _ _ ys _ hI3.out hI3'.out HOK2.out rfl).mono ?_
      rw [← HV.out]
      rintro e w4 ⟨rfl, hb4⟩
      have hB4 := hide (Below.trans' hB3.out hb4)
      clear hb4 y0 y1
      go_wp2_with fail
      refine (hAns.out _).mono ?_
      rintro e w5 ⟨rfl, hb5⟩
      have hB5 := hide (Below.trans' hB4.out hb5)
      clear hb5
      go_wp2_with fail
      refine bodyPost_ret (v := .tuple #[.bool f, .int .i64 0]) (by simp [results, Try.results17, go_sem]) rfl ⟨by rw [HR.out]; rfl, hB5.out⟩

set_option maxRecDepth 100000 in
set_option maxHeartbeats 4000000 in
theorem implAns_any (a : Option Addr) (c : Nat) (cs : List Int) (a' : Option Addr) (c' : Nat) (ls : List Int) (lp : Bool) (b : Int) (W : World) (ha : IntsAt W a cs) (ha' : IntsAt W a' ls) (hl : cs.length ≤ 1048576) (hl' : ls.length ≤ 1048576) :
    Calls Try.prog 16 #[.agg #[.slice a cs.length c, .slice a' ls.length c'], .bool lp, .int .i64 b] W (RetB (boolV2 (ansR cs ls lp b)) W) := by
  obtain ⟨W0, hW0⟩ : ∃ W0, W0 = W.alloc (.cells #[.slice a cs.length c, .slice a' ls.length c'] 26) := ⟨_, rfl⟩
  have hB0 : Hid (Below W.heap.size W W0) := by rw [hW0]; exact hide (below_alloc _ _)
  have hX0 : Hid (EndIn W0 W.heap.size a cs.length c a' ls.length c') := by rw [hW0]; exact hide (endIn_new _ _ _ _ _ _ _ _)
  have hA0 := hide (ha.keep hB0.out)
  have hA0' := hide (ha'.keep hB0.out)
  obtain ⟨r, hr⟩ : ∃ r, r = ansR cs ls lp b := ⟨_, rfl⟩
  rw [← hr]
  unfold ansR at hr
  obtain ⟨c0, c1⟩ := hX0.out
  clear ha ha'
  obtain ⟨r1, r2, r3, hq⟩ : ∃ r1 r2 r3, aftR cs ls lp b = (r1, r2, r3) := ⟨_, _, _, rfl⟩
  have HQ := hide hq
  have hcase : (r3 ≠ 0 ∧ r = (false, r3) ∧ (r3 = 1 ∨ r3 = 5)) ∨ (r3 = 0 ∧ okEn r1 r2 = true ∧ 0 ≤ b ∧ b ≤ 30 ∧ r = ((ansB (kindOf lp) b (vT (cntL r1 r2))).2, 0)) := by
    unfold aftR at hq
    cases hok : okEn cs ls
    · rw [hok] at hq hr
      simp only [Bool.false_eq_true, if_false, Prod.mk.injEq] at hq hr
      obtain ⟨_, _, rfl⟩ := hq
      exact .inl ⟨by decide, hr, .inl rfl⟩
    · rw [hok] at hq hr
      simp only [if_true] at hq hr
      cases hf : (woL cs ls lp b).2.2
      · rw [hf] at hq hr
        simp only [Bool.false_eq_true, if_false, Prod.mk.injEq] at hq hr
        obtain ⟨_, _, rfl⟩ := hq
        exact .inl ⟨by decide, hr, .inr rfl⟩
      · rw [hf] at hq hr
        simp only [if_true, Prod.mk.injEq] at hq hr
        obtain ⟨rfl, rfl, rfl⟩ := hq
        have := wo_rng hok hf
        exact .inr ⟨rfl, okEn_wo hok lp b, this.1, this.2, hr⟩
  clear hr hq
  rcases hcase with ⟨h3, hr, hr3⟩ | ⟨rfl, hok2, b0, b1, hr⟩
  · have HR := hide hr
    have hne : (r3 == 0) = false := by simpa using h3
    clear hr hr3
    go_enter Try.func16, Try.ntmps16
    go_wp2_with fail
    rw [← hW0]
    clear hW0
    (try go_wp2_with fail)
    refine (implAft_any _ _ cs _ _ ls lp b _ hA0.out hA0'.out hl hl').mono ?_
    rw [HQ.out]
    dsimp only
    intro e w1 hN
    obtain ⟨a6, k6, a6', k6', rfl, ho6, ho6', hap, hb1⟩ := newEndV_one hN
    have hB3 := hide (Below.trans' (Below.trans' hB0.out hb1) (below_alloc w1 (.cells #[.slice a6 r1.length k6, .slice a6' r2.length k6'] 26)))
    clear hN ho6 ho6' hap hb1 c0 c1
    go_wp2_with fail
    refine bodyPost_ret (v := .tuple #[.bool false, .int .i64 r3]) (by simp [results, Try.results16, go_sem]) rfl ⟨by rw [HR.out]; rfl, hB3.out⟩
  · obtain ⟨L, hL⟩ : ∃ L, L = cntL r1 r2 := ⟨_, rfl⟩
    have hOT := okT_cnt hok2
    rw [← hL] at hr hOT
    have HOK2 := hide hok2
    have HL := hide hL
    obtain ⟨kd, hkd⟩ : ∃ kd, kd = kindOf lp := ⟨_, rfl⟩
    have hk01 : kd = 0 ∨ kd = 1 := by cases lp <;> simp [hkd, kindOf]
    have hst : Hid (∀ V : World, Calls Try.prog 54 #[.bool lp, .int .i64 b] V (RetB (.agg #[.int .i64 kd, .int .i64 b]) V)) := hide (fun V => by
      have h := strandOf_any lp b V
      cases lp
      · rw [hkd]; exact h
      · rw [hkd]; exact h)
    have hBA : Hid (∀ (m : Nat) (V : World), KnowsT m V → Calls Try.prog 53 #[.agg #[.map (some m)], .agg #[.int .i64 kd, .int .i64 b], .agg (tc L)] V (RetK m (KnowsT m) (.tuple #[.int .i64 (ixA kd b (vT L)), .int .i64 (ansB kd b (vT L)).1]) V)) := hide (fun m V hk =>
      bestAns_any m kd b (vT L) L hk01 b0 b1 hOT hOT.bd.1 hOT.bd.2 V hk (fun V' hk' => (implValue_any m _ L V' hOT rfl hk').2))
    rw [← hkd] at hr
    obtain ⟨T, hT⟩ : ∃ T, T = (ansB kd b (vT L)).1 := ⟨_, rfl⟩
    obtain ⟨f, hf⟩ : ∃ f, f = (ansB kd b (vT L)).2 := ⟨_, rfl⟩
    obtain ⟨x, hx⟩ : ∃ x, x = ixA kd b (vT L) := ⟨_, rfl⟩
    rw [← hT, ← hx] at hBA
    rw [← hf] at hr
    have HX : Hid (f = (x == 1)) := hide (by rw [hx]; unfold ixA; rw [← hf]; cases f <;> rfl)
    have HR := hide hr
    clear hr hok2 hL hOT hkd hk01 hT hf hx
    go_enter Try.func16, Try.ntmps16
    go_wp2_with fail
    rw [← hW0]
    clear hW0
    (try go_wp2_with fail)
    refine (implAft_any _ _ cs _ _ ls lp b _ hA0.out hA0'.out hl hl').mono ?_
    rw [HQ.out]
    dsimp only
    intro e w1 hN
    obtain ⟨a6, k6, a6', k6', rfl, ho6, ho6', hap, hb1⟩ := newEndV_one hN
    obtain ⟨W3, hW3⟩ : ∃ W3, W3 = w1.alloc (.cells #[.slice a6 r1.length k6, .slice a6' r2.length k6'] 26) := ⟨_, rfl⟩
    have hY3 : EndIn W3 w1.heap.size a6 r1.length k6 a6' r2.length k6' := by rw [hW3]; exact endIn_new _ _ _ _ _ _ _ _
    have hb13 : Below w1.heap.size w1 W3 := by rw [hW3]; exact below_alloc _ _
    have hI3 := hide ((intsAt_of_ownsRow ho6).keep hb13)
    have hI3' := hide ((intsAt_of_ownsRow ho6').keep hb13)
    have hB3 := hide (Below.trans' (Below.trans' hB0.out hb1) hb13)
    have hD := hide (Below.drew (Below.refl W3.heap.size W3))
    have hlt : w1.heap.size < W3.heap.size := by have := World.block_lt_of_cell? W3 _ hY3.1; simpa using this
    have hTal : Hid (∀ V, Below W3.heap.size W3 V → Calls Try.prog 55 #[.agg #[.slice a6 r1.length k6, .slice a6' r2.length k6']] V (RetB (.agg (tc L)) V)) := hide (fun V hV => by rw [HL.out]; exact tallyOf_any _ _ r1 _ _ r2 V (hI3.out.keep hV) (hI3'.out.keep hV) HOK2.out)
    have cd0 := cell_keep hD.out hY3.1
    have cd1 := cell_keep hD.out hY3.2
    clear hN ho6 ho6' hap hb1 hb13 hY3 c0 c1
    go_wp2_with fail
    rw [← hW3]
    clear hW3
    (try go_wp2_with fail)
    go_region_held3 (fun V => V.cell? ⟨w1.heap.size, 0, none⟩ = some (.slice a6 r1.length k6) ∧ V.cell? ⟨w1.heap.size, 1, none⟩ = some (.slice a6' r2.length k6'))
      ((refine ⟨?_, ?_⟩ <;> (repeat (first | with_reducible exact cd0 | with_reducible exact cd1 | with_reducible refine HB7.out.cell ?_ hne | with_reducible refine cell_keep HBn.out ?_ | with_reducible refine cell_keep HBs.out ?_ | with_reducible refine cell_keep HBt.out ?_))))
      (first | (go_at_call 52; refine (search_new _).mono ?_; rintro e1 w4 ⟨m, rfl, hk4, hmb, hb4⟩; (have HM : Hid (W3.heap.size ≤ m) := hide (by first | exact hmb | exact Nat.le_trans HBs.out.size hmb | exact Nat.le_trans HBt.out.size hmb | exact Nat.le_trans (Nat.le_trans HBs.out.size HBt.out.size) hmb | exact Nat.le_trans (Nat.le_trans HBt.out.size HBs.out.size) hmb)); (have hne : w1.heap.size ≠ m := (by have := HM.out; omega)); have HKn := hide hk4; have HBn := hide hb4; clear hk4 hmb hb4) | (go_at_call 54; refine (hst.out _).mono ?_; rintro e1 w5 ⟨rfl, hb5⟩; have HBs := hide hb5; clear hb5) | (go_at_call 55; refine (hTal.out _ (by repeat (first | with_reducible exact hD.out | with_reducible refine Below.trans' ?_ HBn.out | with_reducible refine Below.trans' ?_ HBs.out))).mono ?_; rintro e1 w6 ⟨rfl, hb6⟩; have HBt := hide hb6; clear hb6) | (go_at_call 53; refine (hBA.out _ _ (by repeat (first | with_reducible exact HKn.out | with_reducible refine KnowsT.keep ?_ HBs.out | with_reducible refine KnowsT.keep ?_ HBt.out))).mono ?_; rintro e1 w7 ⟨rfl, hb7, hk7⟩; have HB7 := hide hb7; clear hb7 hk7))
    all_goals
      have hfin : Hid (Below W.heap.size W w7) := hide (Below.trans' hB3.out (below_but (by repeat (first | with_reducible exact hD.out | with_reducible refine Below.trans' ?_ HBn.out | with_reducible refine Below.trans' ?_ HBs.out | with_reducible refine Below.trans' ?_ HBt.out)) HB7.out HM.out))
      go_wp2_with fail
      refine bodyPost_ret (v := .tuple #[.bool (x == 1), .int .i64 0]) (by simp [results, Try.results16, go_sem]) rfl ⟨by rw [HR.out, HX.out]; rfl, hfin.out⟩
end Go.Proofs.Ytbfpbkbhikogiaa
