/-
  FnExactBoardText: the law's walk.
-/
import Derived.Test.YtkekanllfpdeaaaDoorYs
import Derived.Test.YtkekanllfpdeaaaDoorBa
import Derived.Test.YtkekanllfpdeaaaDoorTl
import Derived.Deep.RegionHeld3
namespace Go.Proofs.YtkekanllfpdeaaaDoor.LawBoardText
open Go.ChangeShapes Go.WideShapes Go.ChangeAt Go.RowKit
set_option linter.unusedVariables false

set_option maxRecDepth 100000 in
set_option maxHeartbeats 2000000 in
theorem walk (n : Int) (a : Option Addr) (c : Nat) (cs : List Int) (W : World) (ha : IntsAt W a cs) (hn : cs.length ≤ 9223372036854775807) (hT : TzTab W) :
    Calls Tryd.prog 3 #[.agg #[.int .i64 n, .slice a cs.length c]] W fun e w' => e = .returned (.bool true) ∧ Below W.heap.size W w' := by
  have HT := hide hT
  clear hT
  obtain ⟨s, hs⟩ : ∃ s, s = szH cs.length := ⟨_, rfl⟩
  have HS := hide hs
  obtain ⟨W0, hW0⟩ : ∃ W0, W0 = W.alloc (.cells #[.int .i64 n, .slice a cs.length c] 24) := ⟨_, rfl⟩
  have hB0 : Hid (Below W.heap.size W W0) := by rw [hW0]; exact hide (below_alloc _ _)
  have hX0 : Hid (HexIn W0 W.heap.size n a cs.length c) := by rw [hW0]; exact hide (hexIn_new _ _ _ _ _ _)
  have hA0 := hide (ha.keep hB0.out)
  obtain ⟨c0, c1⟩ := hX0.out
  have HA := hide ha
  clear ha
  by_cases hneg : s < 0
  · clear hs
    go_enter Tryd.func3, Tryd.ntmps3
    go_wp2_with fail
    rw [← hW0]
    clear hW0
    refine (szHex_any _ _ _ _ _ hn).mono ?_
    rintro e w1 ⟨rfl, hb1⟩
    rw [← HS.out]
    have hB1 := hide (Below.trans' hB0.out hb1)
    clear hb1 c0 c1
    go_wp2_with fail
    go_ret
    exact ⟨rfl, hB1.out⟩
  have hl : cs.length ≤ 1048576 := szH_le (by rw [← hs]; exact hneg)
  have HL := hide hl
  clear hs
  obtain ⟨r0, hr0⟩ : ∃ r0, r0 = (⟨(txtR n cs).1.toArray⟩ : ByteArray) := ⟨_, rfl⟩
  obtain ⟨r1, hr1⟩ : ∃ r1, r1 = (txtR n cs).2 := ⟨_, rfl⟩
  have HR := hide (And.intro hr0 hr1)
  clear hr0 hr1
  have HC1 : Hid (∀ (V : World) (a : Option Addr) (c : Nat), IntsAt V a cs → Calls Tryd.prog 15 #[.agg #[.int .i64 n, .slice a cs.length c]] V (RetB (.tuple #[.string r0, .int .i64 r1]) V)) := hide (fun V a c ha => by rw [HR.out.1, HR.out.2]; exact specBoardText_any n a c cs V ha hl)
  have HC2 : Hid (∀ (V : World) (a : Option Addr) (c : Nat), IntsAt V a cs → TzTab V → Calls Tryd.prog 17 #[.agg #[.int .i64 n, .slice a cs.length c]] V (RetB (.tuple #[.string r0, .int .i64 r1]) V)) := hide (fun V a c ha hv => by rw [HR.out.1, HR.out.2]; exact implBoardText_any n a c cs V ha hl hv)
  clear HR
  go_enter Tryd.func3, Tryd.ntmps3
  go_wp2_with fail
  rw [← hW0]
  clear hW0
  refine (szHex_any _ _ _ _ _ hn).mono ?_
  rintro e w1 ⟨rfl, hb1⟩
  rw [← HS.out]
  have hB1 := hide (Below.trans' hB0.out hb1)
  have hX1 := hide (hX0.out.keep hb1)
  have hA1 := hide (hA0.out.keep hb1)
  clear hb1 c0 c1
  obtain ⟨c0, c1⟩ := hX1.out
  go_wp2_with fail
  refine (toHex_any _ _ _ cs _ hA1.out HL.out).mono ?_
  rintro e w2 ⟨g2, k2, rfl, ho2, hb2⟩
  have hB2 := hide (Below.trans' hB1.out hb2)
  have hX2 := hide (hX1.out.keep hb2)
  have hI2 := hide (intsAt_of_ownsRow ho2)
  clear hb2 c0 c1 ho2
  go_wp2_with fail
  -- the model
  refine (HC1.out _ _ _ hI2.out).mono ?_
  rintro e w3 ⟨rfl, hb3⟩
  have hB3 := hide (Below.trans' hB2.out hb3)
  have hX3 := hide (hX2.out.keep hb3)
  clear hb3
  obtain ⟨c0, c1⟩ := hX3.out
  go_wp2_with fail
  refine (toHex_any _ _ _ cs _ (HA.out.keep hB3.out) HL.out).mono ?_
  rintro e w4 ⟨g4, k4, rfl, ho4, hb4⟩
  obtain ⟨W4, hW4⟩ : ∃ W4, W4 = w4.alloc (.cells #[.int .i64 n, .slice (some ⟨g4, 0, none⟩) cs.length k4] 28) := ⟨_, rfl⟩
  have hb44 : Below w4.heap.size w4 W4 := by rw [hW4]; exact below_alloc _ _
  have hb4' : Below w3.heap.size w3 W4 := Below.trans' hb4 hb44
  have hY4 : Hid (HexIn W4 w4.heap.size n (some ⟨g4, 0, none⟩) cs.length k4) := by rw [hW4]; exact hide (hexIn_new _ _ _ _ _ _)
  have hO4 := hide (ownsRow_keep ho4 hb44)
  have hB4 := hide (Below.trans' hB3.out hb4')
  have hX4 := hide (hX3.out.keep hb4')
  have hT4 := hide hb4'
  have hg4 := hide (ho4.lt g4 rfl)
  have hz34 : w3.heap.size ≤ w4.heap.size := hb4.size
  have hX3l : Hid (W.heap.size < w3.heap.size) := hide hX3.out.lt
  clear hb4 hb4' hb44 c0 c1 ho4
  obtain ⟨x0, x1⟩ := hX4.out
  go_wp2_with fail
  rw [← hW4]
  clear hW4
  obtain ⟨y0, y1⟩ := hY4.out
  (try go_wp2_with fail)
  -- the program
  refine (HC2.out _ _ _ (intsAt_of_ownsRow hO4.out) (HT.out.keep hB4.out)).mono ?_
  rintro e w5 ⟨rfl, hb5⟩
  have hB5 := hide (Below.trans' hB4.out hb5)
  obtain ⟨x0, x1⟩ := hX4.out.keep hb5
  obtain ⟨z0, z1⟩ := hY4.out.keep hb5
  have hI5 := hide (intsAt_of_ownsRow (ownsRow_keep hO4.out hb5))
  clear hb5 y0 y1
  go_wp2_with fail
  have hd5 : Below w5.heap.size w5 w5.drew := Below.drew (Below.refl _ _)
  have hA6 := hide (HA.out.keep (Below.trans' hB5.out hd5))
  have hI6 := hide (hI5.out.keep hd5)
  have xd0 := cell_keep hd5 x0
  have xd1 := cell_keep hd5 x1
  have zd0 := cell_keep hd5 z0
  have zd1 := cell_keep hd5 z1
  go_region_held3 (fun V => V.cell? ⟨W.heap.size, 0, none⟩ = some (.int .i64 n) ∧ V.cell? ⟨W.heap.size, 1, none⟩ = some (.slice a cs.length c) ∧ V.cell? ⟨w4.heap.size, 0, none⟩ = some (.int .i64 n) ∧ V.cell? ⟨w4.heap.size, 1, none⟩ = some (.slice (some ⟨g4, 0, none⟩) cs.length k4) ∧ Below w5.heap.size w5 V) (first | (exact ⟨xd0, xd1, zd0, zd1, hd5⟩) | (exact ⟨cell_keep hB6 xd0, cell_keep hB6 xd1, cell_keep hB6 zd0, cell_keep hB6 zd1, Below.trans' hd5 hB6⟩) | (exact ⟨cell_keep hB7 (cell_keep hB6 xd0), cell_keep hB7 (cell_keep hB6 xd1), cell_keep hB7 (cell_keep hB6 zd0), cell_keep hB7 (cell_keep hB6 zd1), Below.trans' (Below.trans' hd5 hB6) hB7⟩)) (first | (go_at_call 16; refine (toHex_any _ _ _ cs _ hA6.out HL.out).mono ?_; rintro e w6 ⟨g6, k6, rfl, ho6, hB6⟩) | (go_at_call 18; refine (eqHex_same _ _ _ _ _ cs _ (hI6.out.keep hB6) (intsAt_of_ownsRow ho6) HL.out).mono ?_; rintro e w7 ⟨rfl, hB7⟩))
  go_wp2_with fail
  go_ret
  exact ⟨rfl, Below.trans' (Below.trans' (Below.trans' hB5.out hd5) hB6) hB7⟩

end Go.Proofs.YtkekanllfpdeaaaDoor.LawBoardText
