/-
  Dots and boxes: BoxesText, the model's text: the code and the letters.
-/
import Derived.Test.YtincdnlinepcgaaDoorTf
namespace Go.Proofs.YtincdnlinepcgaaDoor
open Go.RowKit
set_option linter.unusedVariables false

set_option maxRecDepth 100000 in
set_option maxHeartbeats 4000000 in
theorem specText_any (w h E : Int) (W : World) : Calls Tryd.prog 5 #[.agg #[.int .i64 w, .int .i64 h, .int .i64 E]] W (RetB (txtV (txtR w h E)) W) := by
  obtain ⟨r, hr⟩ : ∃ r, r = txtR w h E := ⟨_, rfl⟩
  rw [← hr]
  unfold txtR at hr
  obtain ⟨W0, hW0⟩ : ∃ W0, W0 = W.alloc (.cells #[.int .i64 w, .int .i64 h, .int .i64 E] 26) := ⟨_, rfl⟩
  have hB0 : Hid (Below W.heap.size W W0) := by rw [hW0]; exact hide (below_alloc _ _)
  have hX0 : Hid (BoxIn W0 W.heap.size w h E) := by rw [hW0]; exact hide (boxIn_new _ _ _ _ _)
  obtain ⟨c0, c1, c2⟩ := hX0.out
  cases hb : okBox w h E
  · have HR : Hid (r = ([], 1)) := hide (by rw [hr, hb]; rfl)
    have HB := hide hb
    clear hb hr
    go_enter Tryd.func5, Tryd.ntmps5
    go_wp2_with fail
    rw [← hW0]
    clear hW0
    go_wp2_with fail
    refine (specIs_any w h E _).mono ?_
    rw [HB.out]
    rintro e w1 ⟨rfl, hb1⟩
    have hB1 := hide (Below.trans' hB0.out hb1)
    clear hb1
    go_wp2_with fail
    go_ret2
    exact ⟨by rw [HR.out]; rfl, hB1.out⟩
  · have HR : Hid (r = (textL w h E, 0)) := hide (by rw [hr, hb]; rfl)
    have HB := hide hb
    clear hb hr
    go_enter Tryd.func5, Tryd.ntmps5
    go_wp2_with fail
    rw [← hW0]
    clear hW0
    go_wp2_with fail
    refine (specIs_any w h E _).mono ?_
    rw [HB.out]
    rintro e w1 ⟨rfl, hb1⟩
    have hB1 := hide (Below.trans' hB0.out hb1)
    have hX1 := hide (hX0.out.keep hb1)
    clear hb1 c0 c1 c2
    obtain ⟨c0, c1, c2⟩ := hX1.out
    go_wp2_with fail
    refine (specTxt_any w h E HB.out _).mono ?_
    rintro e w2 ⟨rfl, hb2⟩
    have hB2 := hide (Below.trans' hB1.out hb2)
    clear hb2 c0 c1 c2
    obtain ⟨l, hl⟩ : ∃ l, l = textL w h E := ⟨_, rfl⟩
    rw [← hl]
    have HL := hide hl
    clear hl
    go_wp2_with fail
    go_ret2
    exact ⟨by rw [HR.out, ← HL.out]; rfl, hB2.out⟩
end Go.Proofs.YtincdnlinepcgaaDoor
