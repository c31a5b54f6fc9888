/-
  Ends of dots and boxes: EndingValue, the program's text.
-/
import Derived.Test.YtbfpbkbhikogiaaTl
import Derived.Test.YtbfpbkbhikogiaaVv
namespace Go.Proofs.Ytbfpbkbhikogiaa
open Go.RowKit Go.Maps
set_option linter.unusedVariables false

theorem below_but {a m c : World} {b : Nat} (h : Below a.heap.size a m) (k : But b m c) (hb : a.heap.size ≤ b) : Below a.heap.size a c :=
  ⟨k.os.trans h.os, k.tape.trans h.tape, k.output.trans h.output, Nat.le_trans h.size k.size, fun i hi => (k.block i (Nat.lt_of_lt_of_le hi h.size) (by omega)).trans (h.block i hi)⟩

set_option maxRecDepth 100000 in
set_option maxHeartbeats 2000000 in
theorem implVal_any (a : Option Addr) (c : Nat) (cs : List Int) (a' : Option Addr) (c' : Nat) (ls : List Int) (W : World) (ha : IntsAt W a cs) (ha' : IntsAt W a' ls) (hl : cs.length ≤ 1048576) (hl' : ls.length ≤ 1048576) :
    Calls Try.prog 33 #[.agg #[.slice a cs.length c, .slice a' ls.length c']] W (RetB (numV (valR cs ls)) W) := by
  obtain ⟨W0, hW0⟩ : ∃ W0, W0 = W.alloc (.cells #[.slice a cs.length c, .slice a' ls.length c'] 26) := ⟨_, rfl⟩
  have hB0 : Hid (Below W.heap.size W W0) := by rw [hW0]; exact hide (below_alloc _ _)
  have hs0 : W0.heap.size = W.heap.size + 1 := by rw [hW0]; simp
  have hX0 : Hid (EndIn W0 W.heap.size a cs.length c a' ls.length c') := by rw [hW0]; exact hide (endIn_new _ _ _ _ _ _ _ _)
  have hA0 := hide (ha.keep hB0.out)
  have hA0' := hide (ha'.keep hB0.out)
  obtain ⟨r, hr⟩ : ∃ r, r = valR cs ls := ⟨_, rfl⟩
  rw [← hr]
  unfold valR at hr
  obtain ⟨c0, c1⟩ := hX0.out
  clear ha ha'
  cases hok : okEn cs ls
  · have HR : Hid (r = (0, 1)) := hide (by rw [hr, hok]; rfl)
    have HK := hide hok
    clear hr hok
    go_enter Try.func33, Try.ntmps33
    go_wp2_with fail
    rw [← hW0]
    clear hW0
    (try go_wp2_with fail)
    refine (implIsE_any _ _ cs _ _ ls _ hA0.out hA0'.out hl hl').mono ?_
    rw [HK.out]
    rintro e w1 ⟨rfl, hb1⟩
    have hB1 := hide (Below.trans' hB0.out hb1)
    clear hb1 c0 c1
    go_wp2_with fail
    go_ret2
    exact ⟨by rw [HR.out]; rfl, hB1.out⟩
  · obtain ⟨v, hv⟩ : ∃ v, v = vT (cntL cs ls) := ⟨_, rfl⟩
    have HR : Hid (r = (v, 0)) := hide (by rw [hr, hok, hv]; rfl)
    have HK := hide hok
    have hOT := okT_cnt hok
    obtain ⟨L, hL⟩ : ∃ L, L = cntL cs ls := ⟨_, rfl⟩
    rw [← hL] at hv hOT
    have HL := hide hL
    have hVal : Hid (∀ (b : Nat) (V : World), KnowsT b V → Calls Try.prog 72 #[.agg #[.map (some b)], .agg (tc L)] V (RetK b (KnowsT b) (.int .i64 v) V)) := hide (fun b V hk => by rw [hv]; exact (implValue_any b _ L V hOT rfl hk).2)
    clear hr hok hv hL hOT
    go_enter Try.func33, Try.ntmps33
    go_wp2_with fail
    rw [← hW0]
    clear hW0
    (try go_wp2_with fail)
    refine (implIsE_any _ _ cs _ _ ls _ hA0.out hA0'.out hl hl').mono ?_
    rw [HK.out]
    rintro e w1 ⟨rfl, hb1⟩
    have hB1 := hide (Below.trans' hB0.out hb1)
    have hd : Below w1.heap.size w1 w1.drew := Below.drew (Below.refl _ _)
    have hA1 := hide (hA0.out.keep hb1)
    have hA1' := hide (hA0'.out.keep hb1)
    have hX1 := hX0.out.keep hb1
    have hs1 : W.heap.size + 1 ≤ w1.heap.size := by have := hb1.size; omega
    have hTal : Hid (∀ V, Below w1.heap.size w1 V → Calls Try.prog 55 #[.agg #[.slice a cs.length c, .slice a' ls.length c']] V (RetB (.agg (tc L)) V)) := hide (fun V hV => by rw [HL.out]; exact tallyOf_any _ _ cs _ _ ls V (hA1.out.keep hV) (hA1'.out.keep hV) HK.out)
    have hsd : Hid (w1.drew.heap.size = w1.heap.size) := hide rfl
    clear hb1 c0 c1
    have cd0 := cell_keep hd hX1.1
    have cd1 := cell_keep hd hX1.2
    have hD := hide hd
    clear hX1 hd
    go_wp2_with fail
    go_region_held3 (fun V => V.cell? ⟨W.heap.size, 0, none⟩ = some (.slice a cs.length c) ∧ V.cell? ⟨W.heap.size, 1, none⟩ = some (.slice a' ls.length c'))
      (refine ⟨?_, ?_⟩ <;> (repeat (first | with_reducible exact cd0 | with_reducible exact cd1 | with_reducible refine HB5.out.cell ?_ hne | with_reducible refine cell_keep HB4.out ?_ | with_reducible refine cell_keep HB3.out ?_)))
      (first | (go_at_call 52; refine (search_new _).mono ?_; rintro e1 w3 ⟨b, rfl, hk3, hbb, hb3⟩; (have hne : W.heap.size ≠ b := (by first | (have z4 := HB4.out.size; rw [hsd.out] at z4; omega) | (rw [hsd.out] at hbb; omega))); (have HBB : Hid (w1.heap.size ≤ b) := hide (by first | (have z4 := HB4.out.size; rw [hsd.out] at z4; omega) | (rw [hsd.out] at hbb; omega))); have HK3 := hide hk3; have HB3 := hide hb3; clear hk3 hbb hb3) | (go_at_call 55; refine (hTal.out _ (by first | exact hD.out | exact Below.trans' hD.out HB3.out)).mono ?_; rintro e1 w4 ⟨rfl, hb4⟩; have HB4 := hide hb4; clear hb4) | (go_at_call 72; refine (hVal.out _ _ (by first | exact HK3.out | exact HK3.out.keep HB4.out)).mono ?_; rintro e1 w5 ⟨rfl, hb5, hk5⟩; have HB5 := hide hb5; clear hb5 hk5))
    all_goals
      have hfin : Hid (Below W.heap.size W w5) := hide (Below.trans' hB1.out (below_but (by first | exact Below.trans' (Below.trans' hD.out HB3.out) HB4.out | exact Below.trans' (Below.trans' hD.out HB4.out) HB3.out) HB5.out HBB.out))
      go_wp2_with fail
      go_ret2
      exact ⟨by rw [HR.out]; rfl, hfin.out⟩
end Go.Proofs.Ytbfpbkbhikogiaa
