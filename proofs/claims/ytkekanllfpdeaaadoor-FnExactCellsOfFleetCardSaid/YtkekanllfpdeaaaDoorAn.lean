/-
  What a shot gets: checkFleet, l09Code, l09Answer, answer.
-/
import Derived.Test.YtkekanllfpdeaaaDoorFn
import Derived.BigQuiet
namespace Go.Proofs.YtkekanllfpdeaaaDoor
open Go.RowKit
set_option linter.unusedVariables false

def codF (wd hi : Int) (cs f : List Int) : Int := if seaB wd hi cs = true then (if fleetB wd hi cs f = true then 0 else 2) else 1
/-- The answer to a shot at c, when the shots so far are at the set s. -/
def ansF (c s : Int) : List Int → Int
  | [] => 0
  | z :: t => if dg z c = 0 then ansF c s t else if bits BinOp.andNot IntKind.i64 z s = 0 then 2 else 1
theorem dg_zero (c : Int) : dg 0 c = 0 := by unfold dg; simp
theorem ansF_pad {f : List Int} (h3 : f.length ≤ 3) (c s : Int) : ansF c s [(padF f).1, (padF f).2.1, (padF f).2.2] = ansF c s f := by
  match f, h3 with
  | [], _ => simp [padF, ansF, dg_zero]
  | [x], _ => simp [padF, ansF, dg_zero]
  | [x, y], _ => simp [padF, ansF, dg_zero]
  | [x, y, z], _ => simp [padF, ansF]

set_option maxRecDepth 100000 in
set_option maxHeartbeats 2000000 in
theorem checkFleet_any (wd hi : Int) (a : Option Addr) (c : Nat) (cs : List Int) (af : Option Addr) (cf : Nat) (f : List Int) (W : World) (ha : IntsAt W a cs) (hl : cs.length ≤ 1048576) (hf : IntsAt W af f) (hfl : f.length ≤ 1048576) :
    Calls Tryd.prog 84 #[.agg #[.int .i64 wd, .int .i64 hi, .slice a cs.length c], .slice af f.length cf] W (RetB (.int .i64 (codF wd hi cs f)) W) := by
  obtain ⟨W0, hW0⟩ : ∃ W0, W0 = W.alloc (.cells #[.int .i64 wd, .int .i64 hi, .slice a cs.length c] 52) := ⟨_, rfl⟩
  have hB0 : Hid (Below W.heap.size W W0) := by rw [hW0]; exact hide (below_alloc _ _)
  have hX0 : Hid (SeaIn W0 W.heap.size wd hi a cs.length c) := by rw [hW0]; exact hide (seaIn_new _ _ _ _ _ _ _)
  have HC := hide (implIsFleet_any wd hi a c cs af cf f W0 (ha.keep hB0.out) hl (hf.keep hB0.out) hfl)
  obtain ⟨c0, c1, c2⟩ := hX0.out
  clear ha hf
  cases hs : seaB wd hi cs
  · have hR : isfR wd hi cs f = (false, 1) := by simp [isfR, hs]
    have hK : codF wd hi cs f = 1 := by simp [codF, hs]
    rw [hR] at HC
    rw [hK]
    clear hR hK hs
    go_enter Tryd.func84, Tryd.ntmps84
    go_wp2_with fail
    rw [← hW0]
    clear hW0
    (try go_wp2_with fail)
    refine HC.out.mono ?_
    rintro e w1 ⟨rfl, hb1⟩
    have hB1 := hide (Below.trans' hB0.out hb1)
    clear hb1 c0 c1 c2
    go_wp2_with fail
    go_ret
    exact ⟨rfl, hB1.out⟩
  · cases hq : fleetB wd hi cs f
    · have hR : isfR wd hi cs f = (false, 0) := by simp [isfR, hs, hq]
      have hK : codF wd hi cs f = 2 := by simp [codF, hs, hq]
      rw [hR] at HC
      rw [hK]
      clear hR hK hs hq
      go_enter Tryd.func84, Tryd.ntmps84
      go_wp2_with fail
      rw [← hW0]
      clear hW0
      (try go_wp2_with fail)
      refine HC.out.mono ?_
      rintro e w1 ⟨rfl, hb1⟩
      have hB1 := hide (Below.trans' hB0.out hb1)
      clear hb1 c0 c1 c2
      go_wp2_with fail
      go_ret
      exact ⟨rfl, hB1.out⟩
    · have hR : isfR wd hi cs f = (true, 0) := by simp [isfR, hs, hq]
      have hK : codF wd hi cs f = 0 := by simp [codF, hs, hq]
      rw [hR] at HC
      rw [hK]
      clear hR hK hs hq
      go_enter Tryd.func84, Tryd.ntmps84
      go_wp2_with fail
      rw [← hW0]
      clear hW0
      (try go_wp2_with fail)
      refine HC.out.mono ?_
      rintro e w1 ⟨rfl, hb1⟩
      have hB1 := hide (Below.trans' hB0.out hb1)
      clear hb1 c0 c1 c2
      go_wp2_with fail
      go_ret
      exact ⟨rfl, hB1.out⟩

set_option maxRecDepth 100000 in
set_option maxHeartbeats 2000000 in
theorem l09Code_any (wd hi : Int) (a : Option Addr) (c : Nat) (cs : List Int) (af : Option Addr) (cf : Nat) (f : List Int) (W : World) (ha : IntsAt W a cs) (hl : cs.length ≤ 1048576) (hf : IntsAt W af f) (hfl : f.length ≤ 1048576) :
    Calls Tryd.prog 81 #[.agg #[.int .i64 wd, .int .i64 hi, .slice a cs.length c], .slice af f.length cf] W (RetB (.int .i64 (codF wd hi cs f)) W) := by
  obtain ⟨W0, hW0⟩ : ∃ W0, W0 = W.alloc (.cells #[.int .i64 wd, .int .i64 hi, .slice a cs.length c] 52) := ⟨_, rfl⟩
  have hB0 : Hid (Below W.heap.size W W0) := by rw [hW0]; exact hide (below_alloc _ _)
  have hX0 : Hid (SeaIn W0 W.heap.size wd hi a cs.length c) := by rw [hW0]; exact hide (seaIn_new _ _ _ _ _ _ _)
  have hA0 := hide (ha.keep hB0.out)
  have hF0 := hide (hf.keep hB0.out)
  obtain ⟨c0, c1, c2⟩ := hX0.out
  clear ha hf
  cases hs : seaB wd hi cs
  · have hK : codF wd hi cs f = 1 := by simp [codF, hs]
    rw [hK]
    have HS := hide hs
    clear hK hs
    go_enter Tryd.func81, Tryd.ntmps81
    go_wp2_with fail
    rw [← hW0]
    clear hW0
    (try go_wp2_with fail)
    refine (l09Is_is HS.out hA0.out (by omega)).mono ?_
    rintro e w1 ⟨rfl, hb1⟩
    have hB1 := hide (Below.trans' hB0.out hb1)
    clear hb1 c0 c1 c2
    go_wp2_with fail
    go_ret
    exact ⟨rfl, hB1.out⟩
  · have HS := hide hs
    obtain ⟨q, hq⟩ : ∃ q, q = fleetB wd hi cs f := ⟨_, rfl⟩
    obtain ⟨K, hK⟩ : ∃ K : Int, K = codF wd hi cs f := ⟨_, rfl⟩
    rw [← hK]
    have HK : Hid (K = if q = true then 0 else 2) := hide (by rw [hK, hq]; simp [codF, hs])
    have HQ := hide hq
    clear hK hs hq
    go_enter Tryd.func81, Tryd.ntmps81
    go_wp2_with fail
    rw [← hW0]
    clear hW0
    (try go_wp2_with fail)
    refine (l09Is_is HS.out hA0.out (by omega)).mono ?_
    rintro e w1 ⟨rfl, hb1⟩
    have hB1 := hide (Below.trans' hB0.out hb1)
    obtain ⟨d0, d1, d2⟩ := hX0.out.keep hb1
    have HF := hide (l09Fleet_any wd hi a c cs af cf f w1 HS.out (hA0.out.keep hb1) (hF0.out.keep hb1) hfl)
    rw [← HQ.out] at HF
    clear hb1 c0 c1 c2
    cases q
    · obtain rfl : K = 2 := HK.out
      go_wp2_with fail
      refine HF.out.mono ?_
      rintro e w2 ⟨rfl, hb2⟩
      have hB2 := hide (Below.trans' hB1.out hb2)
      clear hb2 d0 d1 d2
      go_wp2_with fail
      go_ret
      exact ⟨rfl, hB2.out⟩
    · obtain rfl : K = 0 := HK.out
      go_wp2_with fail
      refine HF.out.mono ?_
      rintro e w2 ⟨rfl, hb2⟩
      have hB2 := hide (Below.trans' hB1.out hb2)
      clear hb2 d0 d1 d2
      go_wp2_with fail
      go_ret
      exact ⟨rfl, hB2.out⟩

end Go.Proofs.YtkekanllfpdeaaaDoor
