/-
  PlacementsOf, both texts.
-/
import Derived.Test.YthcnilbgjaahfaaSq
namespace Go.Proofs.Ythcnilbgjaahfaa
open Go.RowKit
set_option linter.unusedVariables false

theorem newList_nil (W w1 : World) (k : Int) (h : Below W.heap.size W w1) : NewList (([] : List Int), k) W (.returned (.tuple #[.slice none 0 0, .int .i64 k])) w1 := ⟨none, 0, rfl, World.ownsRow_nil _ _ _ _, h⟩
theorem newList_of {W w0 w1 : World} {a : Option Addr} {c : Nat} {zs : List Int} {k : Int} (hb : Below W.heap.size W w0) (ho : w1.ownsRow w0.heap.size 2 1 (.slice a zs.length c) zs.length (zs.map intV)) (h : Below w0.heap.size w0 w1) : NewList (zs, k) W (.returned (.tuple #[.slice a zs.length c, .int .i64 k])) w1 :=
  ⟨a, c, rfl, ownsRow_base ho hb.size, Below.trans' hb h⟩
def plcR (wd hi : Int) (cs : List Int) (n : Int) : List Int × Int := if seaB wd hi cs = true then (if inn n 1 5 = true then (plc wd hi n.toNat, 0) else ([], 2)) else ([], 1)
theorem plcR_le (wd hi : Int) (cs : List Int) (n : Int) : (plcR wd hi cs n).1.length ≤ 1048576 := by
  unfold plcR
  split
  · rename_i h
    obtain ⟨a, b, c, d, _⟩ := seaB_yes h
    split
    · rename_i h2
      have := inn_yes h2
      have := (pl_facts a b c d this.1 this.2).2.2.1
      show (plc wd hi n.toNat).length ≤ _
      omega
    · simp
  · simp

set_option maxRecDepth 100000 in
set_option maxHeartbeats 2000000 in
theorem implPl_any (wd hi : Int) (a : Option Addr) (c : Nat) (cs : List Int) (n : Int) (W : World) (ha : IntsAt W a cs) (hl : cs.length ≤ 1048576) :
    Calls Try.prog 18 #[.agg #[.int .i64 wd, .int .i64 hi, .slice a cs.length c], .int .i64 n] W (NewList (plcR wd hi cs n) W) := by
  obtain ⟨W0, hW0⟩ : ∃ W0, W0 = W.alloc (.cells #[.int .i64 wd, .int .i64 hi, .slice a cs.length c] 27) := ⟨_, rfl⟩
  have hB0 : Hid (Below W.heap.size W W0) := by rw [hW0]; exact hide (below_alloc _ _)
  have hX0 : Hid (SeaIn W0 W.heap.size wd hi a cs.length c) := by rw [hW0]; exact hide (seaIn_new _ _ _ _ _ _ _)
  have hA0 := hide (ha.keep hB0.out)
  obtain ⟨c0, c1, c2⟩ := hX0.out
  clear ha
  cases hs : seaB wd hi cs
  · have hR : Hid (plcR wd hi cs n = ([], 1)) := hide (by simp [plcR, hs])
    rw [hR.out]
    have HS := hide hs
    clear hs
    go_enter Try.func18, Try.ntmps18
    go_wp2_with fail
    rw [← hW0]
    clear hW0
    (try go_wp2_with fail)
    refine (implIsSea_is HS.out hA0.out hl).mono ?_
    rintro e w1 ⟨rfl, hb1⟩
    have hfin := hide (newList_nil _ _ 1 (Below.trans' hB0.out hb1))
    clear hb1 c0 c1 c2
    go_wp2_with fail
    go_ret2
    exact hfin.out
  obtain ⟨a1, a2, b1, b2, _⟩ := seaB_yes hs
  have HS := hide hs
  cases hn : inn n 1 5
  · have hR : Hid (plcR wd hi cs n = ([], 2)) := hide (by simp [plcR, hs, hn])
    rw [hR.out]
    have HN := hide hn
    clear hs hn
    go_enter Try.func18, Try.ntmps18
    go_wp2_with fail
    rw [← hW0]
    clear hW0
    (try go_wp2_with fail)
    refine (implIsSea_is HS.out hA0.out hl).mono ?_
    rintro e w1 ⟨rfl, hb1⟩
    have hB1 := hide (Below.trans' hB0.out hb1)
    clear hb1 c0 c1 c2
    go_wp2_with fail
    refine (isSide_is HN.out _).mono ?_
    rintro e w1 ⟨rfl, rfl⟩
    have hfin := hide (newList_nil _ _ 2 hB1.out)
    go_wp2_with fail
    go_ret2
    exact hfin.out
  · have hR : Hid (plcR wd hi cs n = (plc wd hi n.toNat, 0)) := hide (by simp [plcR, hs, hn])
    rw [hR.out]
    obtain ⟨n1, n2⟩ := inn_yes hn
    have HN := hide hn
    clear hs hn
    go_enter Try.func18, Try.ntmps18
    go_wp2_with fail
    rw [← hW0]
    clear hW0
    (try go_wp2_with fail)
    refine (implIsSea_is HS.out hA0.out hl).mono ?_
    rintro e w1 ⟨rfl, hb1⟩
    have hB1 := hide (Below.trans' hB0.out hb1)
    have hX1 := hide (hX0.out.keep hb1)
    clear hb1 c0 c1 c2
    obtain ⟨c0, c1, c2⟩ := hX1.out
    go_wp2_with fail
    refine (isSide_is HN.out _).mono ?_
    rintro e w1 ⟨rfl, rfl⟩
    go_wp2_with fail
    refine (placements_any wd hi n _ _ _ _ a1 a2 b1 b2 n1 n2).mono ?_
    rintro e w2 ⟨av, cv, rfl, ho, hb⟩
    have hfin := hide (newList_of (k := 0) hB1.out ho hb)
    clear ho hb c0 c1 c2
    go_wp2_with fail
    go_ret2
    exact hfin.out

set_option maxRecDepth 100000 in
set_option maxHeartbeats 2000000 in
theorem specPl_any (wd hi : Int) (a : Option Addr) (c : Nat) (cs : List Int) (n : Int) (W : World) (ha : IntsAt W a cs) (hl : cs.length ≤ 1048576) :
    Calls Try.prog 17 #[.agg #[.int .i64 wd, .int .i64 hi, .slice a cs.length c], .int .i64 n] W (NewList (plcR wd hi cs n) W) := by
  obtain ⟨W0, hW0⟩ : ∃ W0, W0 = W.alloc (.cells #[.int .i64 wd, .int .i64 hi, .slice a cs.length c] 27) := ⟨_, rfl⟩
  have hB0 : Hid (Below W.heap.size W W0) := by rw [hW0]; exact hide (below_alloc _ _)
  have hX0 : Hid (SeaIn W0 W.heap.size wd hi a cs.length c) := by rw [hW0]; exact hide (seaIn_new _ _ _ _ _ _ _)
  have hA0 := hide (ha.keep hB0.out)
  obtain ⟨c0, c1, c2⟩ := hX0.out
  clear ha
  cases hs : seaB wd hi cs
  · have hR : Hid (plcR wd hi cs n = ([], 1)) := hide (by simp [plcR, hs])
    rw [hR.out]
    have HS := hide hs
    clear hs
    go_enter Try.func17, Try.ntmps17
    go_wp2_with fail
    rw [← hW0]
    clear hW0
    (try go_wp2_with fail)
    refine (l09Is_is HS.out hA0.out (by omega)).mono ?_
    rintro e w1 ⟨rfl, hb1⟩
    have hfin := hide (newList_nil _ _ 1 (Below.trans' hB0.out hb1))
    clear hb1 c0 c1 c2
    go_wp2_with fail
    go_ret2
    exact hfin.out
  obtain ⟨a1, a2, b1, b2, _⟩ := seaB_yes hs
  have HS := hide hs
  cases hn : inn n 1 5
  · have hR : Hid (plcR wd hi cs n = ([], 2)) := hide (by simp [plcR, hs, hn])
    rw [hR.out]
    have HN := hide hn
    clear hs hn
    go_enter Try.func17, Try.ntmps17
    go_wp2_with fail
    rw [← hW0]
    clear hW0
    (try go_wp2_with fail)
    refine (l09Is_is HS.out hA0.out (by omega)).mono ?_
    rintro e w1 ⟨rfl, hb1⟩
    have hB1 := hide (Below.trans' hB0.out hb1)
    clear hb1 c0 c1 c2
    go_wp2_with fail
    refine (innS_is HN.out _).mono ?_
    rintro e w1 ⟨rfl, rfl⟩
    have hfin := hide (newList_nil _ _ 2 hB1.out)
    go_wp2_with fail
    go_ret2
    exact hfin.out
  · have hR : Hid (plcR wd hi cs n = (plc wd hi n.toNat, 0)) := hide (by simp [plcR, hs, hn])
    rw [hR.out]
    obtain ⟨n1, n2⟩ := inn_yes hn
    obtain ⟨m, rfl⟩ := Int.eq_ofNat_of_zero_le (show 0 ≤ n by omega)
    rw [Int.toNat_natCast]
    have HN := hide hn
    clear hs hn
    go_enter Try.func17, Try.ntmps17
    go_wp2_with fail
    rw [← hW0]
    clear hW0
    (try go_wp2_with fail)
    refine (l09Is_is HS.out hA0.out (by omega)).mono ?_
    rintro e w1 ⟨rfl, hb1⟩
    have hB1 := hide (Below.trans' hB0.out hb1)
    have hX1 := hide (hX0.out.keep hb1)
    clear hb1 c0 c1 c2
    obtain ⟨c0, c1, c2⟩ := hX1.out
    go_wp2_with fail
    refine (innS_is HN.out _).mono ?_
    rintro e w1 ⟨rfl, rfl⟩
    go_wp2_with fail
    refine (l09Placements_any wd hi m _ _ _ _ a1 a2 b1 b2 (by omega)).mono ?_
    rintro e w2 ⟨gv, cv, rfl, ho, hb, _⟩
    have hfin := hide (newList_of (k := 0) hB1.out ho hb)
    clear ho hb c0 c1 c2
    go_wp2_with fail
    go_ret2
    exact hfin.out
end Go.Proofs.Ythcnilbgjaahfaa
