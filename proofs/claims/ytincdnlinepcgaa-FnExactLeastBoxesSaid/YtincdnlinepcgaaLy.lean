/-
  Dots and boxes: LeastBoxes, the model's text.
-/
import Derived.Test.YtincdnlinepcgaaLx
import Derived.Test.YtincdnlinepcgaaBxRt
namespace Go.Proofs.Ytincdnlinepcgaa
open Go.RowKit
set_option linter.unusedVariables false

theorem set3_other (w : World) (b k : Nat) (x y z : Value) (h : k ≠ b) : (((w.setCell ⟨b, 0, none⟩ x).setCell ⟨b, 1, none⟩ y).setCell ⟨b, 2, none⟩ z).heap[k]? = w.heap[k]? :=
  (Below.heap_setCell _ _ _ _ h).trans ((Below.heap_setCell _ _ _ _ h).trans (Below.heap_setCell _ _ _ _ h))
/-- Where a turn of the model begins. -/
def TurnB (w h E : Int) (t : Nat) (x y : Int) : Prop := (t = 0 ∧ x = E ∧ y = E) ∨ (t = 1 ∧ w = h ∧ x = refl3 w h E 2 ∧ y = bst w h E E 4) ∨ (t = 2 ∧ y = leastE w h E)
theorem TurnB.next {w h E x y : Int} {t : Nat} (hb : okBox w h E = true) (ht : TurnB w h E t x y) (h2 : t < 2) (hs : w = h) : TurnB w h E (t + 1) (refl3 w h (stp w h x 4) 2) (bst w h x y 4) := by
  rcases ht with ⟨rfl, rfl, rfl⟩ | ⟨rfl, _, rfl, rfl⟩ | ⟨rfl, _⟩
  · exact .inr (.inl ⟨rfl, hs, by rw [stp4 hb], rfl⟩)
  · exact .inr (.inr ⟨rfl, by unfold leastE; rw [if_pos hs]⟩)
  · omega
theorem TurnB.out {w h E x y : Int} {t : Nat} (ht : TurnB w h E t x y) (h2 : t < 2) (hs : ¬ w = h) : bst w h x y 4 = leastE w h E := by
  rcases ht with ⟨rfl, rfl, rfl⟩ | ⟨_, h1, _⟩ | ⟨rfl, _⟩
  · unfold leastE; rw [if_neg hs]
  · exact absurd h1 hs
  · omega

set_option maxRecDepth 100000 in
set_option maxHeartbeats 8000000 in
theorem specLeast_any (w h E : Int) (W : World) : Calls Try.prog 36 #[.agg #[.int .i64 w, .int .i64 h, .int .i64 E]] W (RetB (leV (leR w h E)) W) := by
  obtain ⟨W0, hW0⟩ : ∃ W0, W0 = (W.alloc (.cells #[.int .i64 w, .int .i64 h, .int .i64 E] 25)).alloc (.cells #[.int .i64 0, .int .i64 0, .int .i64 0] 25) := ⟨_, rfl⟩
  have hB0 : Hid (Below W.heap.size W W0) := by rw [hW0]; exact hide ((below_alloc _ _).alloc (by simp) _)
  have hs0 : Hid (W0.heap.size = W.heap.size + 2) := by rw [hW0]; exact hide (by simp)
  have hrb : Hid (W0.heap[W.heap.size]? = some (.cells #[.int .i64 w, .int .i64 h, .int .i64 E] 25 (0, 0))) := by
    rw [hW0, Below.heap_alloc _ _ _ (by simp)]
    exact hide (heap_alloc_new W _)
  have hrr : Hid (W0.heap[W.heap.size + 1]? = some (.cells #[.int .i64 0, .int .i64 0, .int .i64 0] 25 (0, 0))) := by
    have := heap_alloc_new (W.alloc (.cells #[.int .i64 w, .int .i64 h, .int .i64 E] 25)) (.cells #[.int .i64 0, .int .i64 0, .int .i64 0] 25 (0, 0))
    rw [hW0]
    exact hide (by simpa using this)
  obtain ⟨r, hr⟩ : ∃ r, r = leR w h E := ⟨_, rfl⟩
  rw [← hr]
  unfold leR at hr
  obtain ⟨c0, c1, c2, _⟩ := row3' hrb.out
  cases hb : okBox w h E
  · have HR : Hid (r = (0, 0, 0, 1)) := hide (by rw [hr, hb]; rfl)
    have HB := hide hb
    clear hb hr
    go_enter Try.func36, Try.ntmps36
    go_wp2_with fail
    rw [← hW0]
    clear hW0
    go_wp2_with fail
    refine (specIs_any w h E _).mono ?_
    rw [HB.out]
    rintro e w1 ⟨rfl, hb1⟩
    have hB1 := hide (Below.trans' hB0.out hb1)
    obtain ⟨d0, d1, d2, f0, f1, f2⟩ := row3' (box_keep' hrr.out hb1)
    have hfin := hide (below3' (b := W.heap.size + 1) (.int .i64 0) (.int .i64 0) (.int .i64 0) hB1.out (by omega))
    have hr4 := hide (box_set3' (x' := .int .i64 0) (y' := .int .i64 0) (z' := .int .i64 0) (box_keep' hrr.out hb1))
    clear hb1
    go_wp2_with fail
    obtain ⟨j0, j1, j2, _⟩ := row3' hr4.out
    exact bodyPost_ret (v := .tuple #[.agg #[.int .i64 0, .int .i64 0, .int .i64 0], .int .i64 1]) (by simp [results, Try.results36, go_sem, j0, j1, j2]) rfl ⟨by rw [HR.out]; rfl, hfin.out⟩
  · have HR : Hid (r = (w, h, leastE w h E, 0)) := hide (by rw [hr, hb]; rfl)
    have HB := hide hb
    clear hb hr
    go_enter Try.func36, Try.ntmps36
    go_wp2_with fail
    rw [← hW0]
    clear hW0
    go_wp2_with fail
    refine (specIs_any w h E _).mono ?_
    rw [HB.out]
    rintro e w1 ⟨rfl, hb1⟩
    have hB1 := hide (Below.trans' hB0.out hb1)
    have hb1r := hide (box_keep' hrb.out hb1)
    have hr1r := hide (box_keep' hrr.out hb1)
    have hs1 : Hid (W.heap.size + 2 ≤ w1.heap.size) := hide (by have := hb1.size; have := hs0.out; omega)
    clear c0 c1 c2 hb1
    obtain ⟨c0, c1, c2, _⟩ := row3' hb1r.out
    go_wp2_with fail
    obtain ⟨W2, hW2⟩ : ∃ W2, W2 = w1.alloc (.cells #[.int .i64 w, .int .i64 h, .int .i64 E] 25) := ⟨_, rfl⟩
    obtain ⟨nb, hnb⟩ : ∃ nb, nb = w1.heap.size := ⟨_, rfl⟩
    have ha2 : Below w1.heap.size w1 W2 := by rw [hW2]; exact below_alloc _ _
    have hbe : Hid (W2.heap[nb]? = some (.cells #[.int .i64 w, .int .i64 h, .int .i64 E] 25 (0, 0))) := by rw [hW2, hnb]; exact hide (heap_alloc_new w1 _)
    have hb2 := hide (box_keep' hb1r.out ha2)
    have hr2 := hide (box_keep' hr1r.out ha2)
    have hB2 := hide (Below.trans' hB1.out ha2)
    have hn2 : Hid (W.heap.size + 2 ≤ nb) := by rw [hnb]; exact hs1
    rw [← hW2, ← hnb]
    clear hW2 hnb ha2 c0 c1 c2
    go_loopg [5] 2 (fun g i wr => ∃ (t : Nat) (x y : Int), t + g = 2 ∧ i = .int .i64 t ∧ okBox w h x = true ∧ TurnB w h E t x y ∧ wr.heap[W.heap.size]? = some (.cells #[.int .i64 w, .int .i64 h, .int .i64 x] 25 (0, 0)) ∧ wr.heap[nb]? = some (.cells #[.int .i64 w, .int .i64 h, .int .i64 y] 25 (0, 0)) ∧ wr.heap[W.heap.size + 1]? = some (.cells #[.int .i64 0, .int .i64 0, .int .i64 0] 25 (0, 0)) ∧ Below W.heap.size W wr)
    case atStart => exact ⟨0, E, E, by omega, rfl, HB.out, .inl ⟨rfl, rfl, rfl⟩, hb2.out, hbe.out, hr2.out, hB2.out⟩
    case round =>
      clear hb2 hbe hr2 hB2
      obtain ⟨t, x, y, htg, rfl, hok, hT, hbr, hyr, hrr', hBr⟩ := hrel
      have HOK := hide hok
      have HTT := hide hT
      have HBR := hide hbr
      have HYR := hide hyr
      have HRR := hide hrr'
      have HBB := hide hBr
      cases gk with
      | zero =>
        obtain rfl : t = 2 := by omega
        have hyl : Hid (y = leastE w h E) := hide (by rcases hT with ⟨h1, _⟩ | ⟨h1, _⟩ | ⟨_, h1⟩; omega; omega; exact h1)
        obtain ⟨c0, c1, c2, _⟩ := row3' hyr
        obtain ⟨d0, d1, d2, f0, f1, f2⟩ := row3' hrr'
        have hr6 := hide (box_set3' (x' := .int .i64 w) (y' := .int .i64 h) (z' := .int .i64 y) hrr')
        have hB6 := hide (below3' (b := W.heap.size + 1) (.int .i64 w) (.int .i64 h) (.int .i64 y) hBr (by omega))
        clear hok hT hbr hyr hrr' hBr
        go_wp2_with fail
        obtain ⟨j0, j1, j2, _⟩ := row3' hr6.out
        exact bodyPost_ret (v := .tuple #[.agg #[.int .i64 w, .int .i64 h, .int .i64 y], .int .i64 0]) (by simp [results, Try.results36, go_sem, j0, j1, j2]) rfl ⟨by rw [HR.out, ← hyl.out]; rfl, hB6.out⟩
      | succ g =>
        have ht2 : t < 2 := by omega
        obtain ⟨wo, hwo⟩ : ∃ wo : World, wo = wr := ⟨_, rfl⟩
        have htd : decide ((t : Int) < 2) = true := decide_eq_true (by omega)
        clear hok hT hbr hyr hrr' hBr
        go_wp2_with fail
        clear htd
        go_loopg [6] 4 (fun g2 i wi => ∃ k : Nat, k + g2 = 4 ∧ i = .int .i64 k ∧ wi.heap[W.heap.size]? = some (.cells #[.int .i64 w, .int .i64 h, .int .i64 (stp w h x k)] 25 (0, 0)) ∧ wi.heap[nb]? = some (.cells #[.int .i64 w, .int .i64 h, .int .i64 (bst w h x y k)] 25 (0, 0)) ∧ wi.heap[W.heap.size + 1]? = some (.cells #[.int .i64 0, .int .i64 0, .int .i64 0] 25 (0, 0)) ∧ Below W.heap.size W wi)
        case atStart => exact ⟨0, by omega, rfl, HBR.out, HYR.out, HRR.out, HBB.out⟩
        case round =>
          clear HBR HYR HRR HBB
          obtain ⟨k, hkg, rfl, hbr, hyr, hrr', hBr⟩ := hrel
          have HBR := hide hbr
          have HYR := hide hyr
          have HRR := hide hrr'
          have HBB := hide hBr
          obtain ⟨c0, c1, c2, f0, f1, f2⟩ := row3' hbr
          cases gk with
          | zero =>
            obtain rfl : k = 4 := by omega
            by_cases hs : w = h
            · have hsk := stp_ok HOK.out 4
              obtain ⟨F, hF⟩ : ∃ F, F = stp w h x 4 := ⟨_, rfl⟩
              obtain ⟨q, hq⟩ : ∃ q, q = bst w h x y 4 := ⟨_, rfl⟩
              obtain ⟨z, hz⟩ : ∃ z, z = refl3 w h F 2 := ⟨_, rfl⟩
              rw [← hF] at hsk HBR hbr c2
              rw [← hq] at HYR hyr
              have hk2 : Keeps w h 2 := .inr (.inr ⟨rfl, hs⟩)
              have hcall : Hid (∀ W' : World, Calls Try.prog 56 #[.agg #[.int .i64 w, .int .i64 h, .int .i64 F], .int .i64 2] W' (RetB (.agg #[.int .i64 w, .int .i64 h, .int .i64 z]) W')) := hide (fun W' => by
                have := specReflected_any w h F 2 hsk (by omega) (by omega) W'
                rw [hk2.m.1, hk2.m.2, ← hz] at this
                exact this)
              have hzo : Hid (okBox w h z = true) := hide (by rw [hz]; exact refl_ok hsk hk2)
              have hTn : Hid (TurnB w h E (t + 1) z q) := hide (by rw [hz, hF, hq]; exact HTT.out.next HB.out ht2 hs)
              have heq : (w == h) = true := by simpa using hs
              have HSS := hide hs
              clear hbr hyr hrr' hBr hF hq hz hsk hk2 hs
              go_wp2_with fail
              refine (hcall.out _).mono ?_
              rintro e w5 ⟨rfl, hb5⟩
              have hb6 := box_keep' HBR.out hb5
              have hy6 := box_keep' HYR.out hb5
              have hr6 := box_keep' HRR.out hb5
              obtain ⟨d0, d1, d2, k0, k1, k2⟩ := row3' hb6
              have hb7 := hide (box_set3' (x' := .int .i64 w) (y' := .int .i64 h) (z' := .int .i64 z) hb6)
              have hy7 := hide ((set3_other w5 W.heap.size nb (.int .i64 w) (.int .i64 h) (.int .i64 z) (by have := hn2.out; omega)).trans hy6)
              have hr7 := hide ((set3_other w5 W.heap.size (W.heap.size + 1) (.int .i64 w) (.int .i64 h) (.int .i64 z) (by omega)).trans hr6)
              have hB7 := hide (below3' (b := W.heap.size) (.int .i64 w) (.int .i64 h) (.int .i64 z) (Below.trans' HBB.out hb5) (Nat.le_refl _))
              clear hb5 hb6 hy6 hr6 c0 c1 c2 f0 f1 f2
              go_wp2_with fail
              go_roundg g
              case rel => exact ⟨t + 1, z, q, by omega, by go_num, hzo.out, hTn.out, hb7.out, hy7.out, hr7.out, hB7.out⟩
              case measure => omega
            · have hyl : Hid (bst w h x y 4 = leastE w h E) := hide (HTT.out.out ht2 hs)
              obtain ⟨q, hq⟩ : ∃ q, q = bst w h x y 4 := ⟨_, rfl⟩
              rw [← hq] at hyl HYR hyr
              have hne : (w == h) = false := by simpa using hs
              obtain ⟨a0, a1, a2, _⟩ := row3' hyr
              obtain ⟨d0, d1, d2, k0, k1, k2⟩ := row3' hrr'
              have hr6 := hide (box_set3' (x' := .int .i64 w) (y' := .int .i64 h) (z' := .int .i64 q) hrr')
              have hB6 := hide (below3' (b := W.heap.size + 1) (.int .i64 w) (.int .i64 h) (.int .i64 q) hBr (by omega))
              clear hbr hyr hrr' hBr hq
              go_wp2_with fail
              obtain ⟨j0, j1, j2, _⟩ := row3' hr6.out
              exact bodyPost_ret (v := .tuple #[.agg #[.int .i64 w, .int .i64 h, .int .i64 q], .int .i64 0]) (by simp [results, Try.results36, go_sem, j0, j1, j2]) rfl ⟨by rw [HR.out, ← hyl.out]; rfl, hB6.out⟩
          | succ g2 =>
            have hsk := stp_ok HOK.out k
            obtain ⟨F, hF⟩ : ∃ F, F = stp w h x k := ⟨_, rfl⟩
            obtain ⟨q, hq⟩ : ∃ q, q = bst w h x y k := ⟨_, rfl⟩
            obtain ⟨z, hz⟩ : ∃ z, z = stp w h x (k + 1) := ⟨_, rfl⟩
            have hb1 : bst w h x y (k + 1) = if z < q then z else q := by rw [hz, hq]; rfl
            have hzz : z = refl3 w h F ((k : Int) % 2) := by rw [hz, hF]; rfl
            rw [← hF] at hsk HBR hbr c2
            rw [← hq] at HYR hyr
            have hkk : Keeps w h ((k : Int) % 2) := by
              rcases (by omega : (k : Int) % 2 = 0 ∨ (k : Int) % 2 = 1) with e | e <;> rw [e]
              · exact .inl rfl
              · exact .inr (.inl rfl)
            have hcall : Hid (∀ W' : World, Calls Try.prog 56 #[.agg #[.int .i64 w, .int .i64 h, .int .i64 F], .int .i64 ((k : Int) % 2)] W' (RetB (.agg #[.int .i64 w, .int .i64 h, .int .i64 z]) W')) := hide (fun W' => by
              have := specReflected_any w h F ((k : Int) % 2) hsk hkk.r.1 hkk.r.2 W'
              rw [hkk.m.1, hkk.m.2, ← hzz] at this
              exact this)
            have HZ := hide hz
            have HB1 := hide hb1
            have hkk4 : (k : Int) < 4 := by omega
            clear hbr hyr hrr' hBr hF hq hz hb1 hzz hsk hkk
            go_wp2_with fail
            refine (hcall.out _).mono ?_
            rintro e w5 ⟨rfl, hb5⟩
            have hb6 := box_keep' HBR.out hb5
            have hy6 := box_keep' HYR.out hb5
            have hr6 := box_keep' HRR.out hb5
            obtain ⟨d0, d1, d2, k0, k1, k2⟩ := row3' hb6
            have hb7 := hide (box_set3' (x' := .int .i64 w) (y' := .int .i64 h) (z' := .int .i64 z) hb6)
            have hy7 := hide ((set3_other w5 W.heap.size nb (.int .i64 w) (.int .i64 h) (.int .i64 z) (by have := hn2.out; omega)).trans hy6)
            have hr7 := hide ((set3_other w5 W.heap.size (W.heap.size + 1) (.int .i64 w) (.int .i64 h) (.int .i64 z) (by omega)).trans hr6)
            have hB7 := hide (below3' (b := W.heap.size) (.int .i64 w) (.int .i64 h) (.int .i64 z) (Below.trans' HBB.out hb5) (Nat.le_refl _))
            clear hb5 hb6 hy6 hr6 c0 c1 c2 f0 f1 f2
            obtain ⟨a0, a1, a2, f0, f1, f2⟩ := row3' hy7.out
            obtain ⟨c0, c1, c2, _⟩ := row3' hb7.out
            by_cases hzq : z < q
            · have hbn : Hid (bst w h x y (k + 1) = z) := hide (by rw [HB1.out, if_pos hzq])
              have hy8 := hide (box_set3' (x' := .int .i64 w) (y' := .int .i64 h) (z' := .int .i64 z) hy7.out)
              have hb8 := hide ((set3_other _ nb W.heap.size (.int .i64 w) (.int .i64 h) (.int .i64 z) (by have := hn2.out; omega)).trans hb7.out)
              have hr8 := hide ((set3_other _ nb (W.heap.size + 1) (.int .i64 w) (.int .i64 h) (.int .i64 z) (by have := hn2.out; omega)).trans hr7.out)
              have hB8 := hide (below3' (b := nb) (.int .i64 w) (.int .i64 h) (.int .i64 z) hB7.out (by have := hn2.out; omega))
              go_wp2_with fail
              go_roundg g2
              case rel => exact ⟨k + 1, by omega, by go_num, by rw [← HZ.out]; exact hb8.out, by rw [hbn.out]; exact hy8.out, hr8.out, hB8.out⟩
              case measure => omega
            · have hbn : Hid (bst w h x y (k + 1) = q) := hide (by rw [HB1.out, if_neg hzq])
              go_wp2_with fail
              go_roundg g2
              case rel => exact ⟨k + 1, by omega, by go_num, by rw [← HZ.out]; exact hb7.out, by rw [hbn.out]; exact hy7.out, hr7.out, hB7.out⟩
              case measure => omega
end Go.Proofs.Ytincdnlinepcgaa
