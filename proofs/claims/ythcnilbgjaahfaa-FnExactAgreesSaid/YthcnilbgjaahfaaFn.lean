/-
  IsFleet: the model.
-/
import Derived.Test.YthcnilbgjaahfaaIf
import Derived.Test.YthcnilbgjaahfaaFm
namespace Go.Proofs.Ythcnilbgjaahfaa
open Go.RowKit
set_option linter.unusedVariables false

set_option maxRecDepth 100000 in
set_option maxHeartbeats 2000000 in
theorem specIsFleet_any (wd hi : Int) (a : Option Addr) (c : Nat) (cs : List Int) (af : Option Addr) (cf : Nat) (f : List Int) (W : World) (ha : IntsAt W a cs) (hl : cs.length ≤ 1048576) (hf : IntsAt W af f) (hfl : f.length ≤ 1048576) :
    Calls Try.prog 23 #[.agg #[.int .i64 wd, .int .i64 hi, .slice a cs.length c], .slice af f.length cf] W (RetB (.tuple #[.bool (isfR wd hi cs f).1, .int .i64 (isfR wd hi cs f).2]) W) := by
  obtain ⟨W0, hW0⟩ : ∃ W0, W0 = W.alloc (.cells #[.int .i64 wd, .int .i64 hi, .slice a cs.length c] 27) := ⟨_, rfl⟩
  have hB0 : Hid (Below W.heap.size W W0) := by rw [hW0]; exact hide (below_alloc _ _)
  have hX0 : Hid (SeaIn W0 W.heap.size wd hi a cs.length c) := by rw [hW0]; exact hide (seaIn_new _ _ _ _ _ _ _)
  have hA0 := hide (ha.keep hB0.out)
  have hF0 := hide (hf.keep hB0.out)
  obtain ⟨c0, c1, c2⟩ := hX0.out
  clear ha hf
  cases hs : seaB wd hi cs
  · have hR : Hid (isfR wd hi cs f = (false, 1)) := hide (by simp [isfR, hs])
    rw [hR.out]
    have HS := hide hs
    clear hs
    go_enter Try.func23, Try.ntmps23
    go_wp2_with fail
    rw [← hW0]
    clear hW0
    (try go_wp2_with fail)
    refine (l09Is_is HS.out hA0.out (by omega)).mono ?_
    rintro e w1 ⟨rfl, hb1⟩
    have hB1 := hide (Below.trans' hB0.out hb1)
    clear hb1 c0 c1 c2
    go_wp2_with fail
    go_ret2
    exact ⟨rfl, hB1.out⟩
  have HS := hide hs
  have hR : Hid (isfR wd hi cs f = (fleetB wd hi cs f, 0)) := hide (by simp [isfR, hs])
  rw [hR.out]
  dsimp only
  obtain ⟨r, hr⟩ : ∃ r, r = fleetB wd hi cs f := ⟨_, rfl⟩
  rw [← hr]
  have HR := hide hr
  clear hs hr
  go_enter Try.func23, Try.ntmps23
  go_wp2_with fail
  rw [← hW0]
  clear hW0
  (try go_wp2_with fail)
  refine (l09Is_is HS.out hA0.out (by omega)).mono ?_
  rintro e w1 ⟨rfl, hb1⟩
  have hB1 := hide (Below.trans' hB0.out hb1)
  have hX1 := hide (hX0.out.keep hb1)
  have hA1 := hide (hA0.out.keep hb1)
  have hF1 := hide (hF0.out.keep hb1)
  clear hb1 c0 c1 c2
  obtain ⟨c0, c1, c2⟩ := hX1.out
  go_wp2_with fail
  refine (l09Fleet_any wd hi _ _ cs _ _ f _ HS.out hA1.out hF1.out hfl).mono ?_
  rw [← HR.out]
  rintro e w2 ⟨rfl, hb2⟩
  have hB2 := hide (Below.trans' hB1.out hb2)
  clear hb2 c0 c1 c2
  go_wp2_with fail
  go_ret2
  exact ⟨rfl, hB2.out⟩
end Go.Proofs.Ythcnilbgjaahfaa
