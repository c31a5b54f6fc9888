/-
  FnExactFleetList: the model's text; what is told of its rows; the law's walk.
-/
import Derived.Test.YtkekanllfpdeaabGw
import Derived.Test.YtkekanllfpdeaabSf
import Derived.Test.YtkekanllfpdeaabSk
import Derived.Test.YtkekanllfpdeaabRl
import Derived.Test.YtkekanllfpdeaabLv
import Derived.Deep.RegionHeld3
import Derived.Deep.DeepCutAuto
namespace Go.Proofs.Ytkekanllfpdeaab
open Go.RowKit
set_option linter.unusedVariables false

theorem allF_rows {wd hi : Int} {cs : List Int} : ∀ (r : Nat) (f : List Int), ∀ zs ∈ allF wd hi cs r f, zs.length = f.length + r
  | 0, f, zs, h => by
    have : zs = f := by simpa [allF] using h
    rw [this]; omega
  | r + 1, f, zs, h => by
    have h2 : zs ∈ (extF wd hi cs f).flatMap (allF wd hi cs r) := h
    obtain ⟨g, hg, hz⟩ := List.mem_flatMap.1 h2
    obtain ⟨z, _, rfl⟩ := List.mem_map.1 hg
    have := allF_rows r (f ++ [z]) zs hz
    simp at this
    omega
theorem flR_le (wd hi : Int) (cs : List Int) : (flR wd hi cs).1.length ≤ 300 ∧ ∀ zs ∈ (flR wd hi cs).1, zs.length ≤ 3 := by
  unfold flR
  cases hs : seaB wd hi cs
  · simp
  · obtain ⟨_, _, _, _, _, l3, _⟩ := seaB_yes hs
    by_cases h : (allF wd hi cs cs.length []).length ≤ 300
    · rw [if_pos rfl, if_pos h]
      exact ⟨h, fun zs hz => by have := allF_rows cs.length [] zs hz; simp at this; omega⟩
    · rw [if_pos rfl, if_neg h]
      simp

set_option maxRecDepth 100000 in
set_option maxHeartbeats 2000000 in
theorem specFleetList_any (wd hi : Int) (a : Option Addr) (c : Nat) (cs : List Int) (W : World) (ha : IntsAt W a cs) (hl : cs.length ≤ 1048576) :
    Calls Try.prog 10 #[.agg #[.int .i64 wd, .int .i64 hi, .slice a cs.length c]] W (NewRows (flR wd hi cs) W) := by
  obtain ⟨W0, hW0⟩ : ∃ W0, W0 = W.alloc (.cells #[.int .i64 wd, .int .i64 hi, .slice a cs.length c] 29) := ⟨_, rfl⟩
  have hB0 : Hid (Below W.heap.size W W0) := by rw [hW0]; exact hide (below_alloc _ _)
  have hX0 : Hid (SeaIn W0 W.heap.size wd hi a cs.length c) := by rw [hW0]; exact hide (seaIn_new _ _ _ _ _ _ _)
  have HA := hide (ha.keep hB0.out)
  obtain ⟨c0, c1, c2⟩ := hX0.out
  have HC := hide (l09Is_any wd hi a c cs W0 HA.out (by omega))
  obtain ⟨b, hb⟩ : ∃ b, b = seaB wd hi cs := ⟨_, rfl⟩
  rw [← hb] at HC
  have HB := hide hb.symm
  clear ha hb
  cases b
  · have HR : Hid (flR wd hi cs = ([], 1)) := hide (by unfold flR; rw [HB.out]; rfl)
    rw [HR.out]
    go_enter Try.func10, Try.ntmps10
    go_wp2_with fail
    rw [← hW0]
    clear hW0
    (try go_wp2_with fail)
    refine HC.out.mono ?_
    rintro e w1 ⟨rfl, hb1⟩
    have hfin := hide (rows_nil W w1 1 (Below.trans' hB0.out hb1))
    clear hb1 c0 c1 c2
    go_wp2_with fail
    go_ret2
    exact hfin.out
  · obtain ⟨A, hA⟩ : ∃ A, A = allF wd hi cs cs.length [] := ⟨_, rfl⟩
    obtain ⟨R, hR⟩ : ∃ R, R = A.take 301 := ⟨_, rfl⟩
    have hRl : R.length = min 301 A.length := by rw [hR, List.length_take]
    have HG : Hid (∀ (V : World) (gf cf : Nat) (av : Option Addr) (cv B : Nat), IntsAt V av cs → V.ownsRow B 2 1 (.slice (some ⟨gf, 0, none⟩) 0 cf) 0 [] → B ≤ V.heap.size → Calls Try.prog 37 #[.agg #[.int .i64 wd, .int .i64 hi, .slice av cs.length cv], .slice (some ⟨gf, 0, none⟩) 0 cf, .int .i64 0, .slice none 0 0, .int .i64 301] V (GoPost B R V)) := hide (fun V gf cf av cv B h1 h2 h3 => by
      have k := l09Go_any wd hi cs HB.out cs.length [] B av cv gf cf 301 V (by simp) h1 (by simpa using h2) h3 (fun z hz => by cases hz) (by omega) (by omega)
      rw [← hA, ← hR] at k
      exact k)
    have HAA := hide hA
    have HRR := hide hR
    have HRL := hide hRl
    clear hA hR hRl
    by_cases hle : A.length ≤ 300
    · have HR : Hid (flR wd hi cs = (R, 0)) := hide (by unfold flR; rw [HB.out, if_pos rfl, ← HAA.out, if_pos hle, HRR.out, List.take_of_length_le (by omega)])
      rw [HR.out]
      have hr300 : R.length ≤ 300 := by have := HRL.out; omega
      clear hle
      go_enter Try.func10, Try.ntmps10
      go_wp2_with fail
      rw [← hW0]
      clear hW0
      (try go_wp2_with fail)
      refine HC.out.mono ?_
      rintro e w1 ⟨rfl, hb1⟩
      have hB1 := hide (Below.trans' hB0.out hb1)
      have hA1 := hide (HA.out.keep hb1)
      have hX1 := hide (hX0.out.keep hb1)
      have hz1 : Hid (W.heap.size ≤ w1.heap.size) := hide hB1.out.size
      clear hb1 c0 c1 c2
      obtain ⟨c0, c1, c2⟩ := hX1.out
      go_wp2_with fail
      have hE := HG.out (w1.alloc (.cells #[] 2)) w1.heap.size 0 a c W.heap.size (hA1.out.keep (below_alloc _ _)) ⟨rfl, .inr ⟨w1.heap.size, 0, #[], rfl, hz1.out, heap_alloc_new w1 _, Nat.le_refl _, by decide, rfl, rfl⟩⟩ (by have := hz1.out; simp; omega)
      refine hE.mono ?_
      rintro e w2 ⟨g2, c2', vs, rfl, hr, hb2⟩
      have hfin : Hid (NewRows (R, 0) W (.returned (.tuple #[.slice (some ⟨g2, 0, none⟩) R.length c2', .int .i64 0])) w2) := hide ⟨_, _, _, rfl, hr, Below.trans' (Below.alloc' hB1.out _) hb2⟩
      clear hE hr hb2 c0 c1 c2
      go_wp2_with fail
      go_ret2
      exact hfin.out
    · have HR : Hid (flR wd hi cs = ([], 3)) := hide (by unfold flR; rw [HB.out, if_pos rfl, ← HAA.out, if_neg hle])
      rw [HR.out]
      have hr300 : 300 < R.length := by have := HRL.out; omega
      clear hle
      go_enter Try.func10, Try.ntmps10
      go_wp2_with fail
      rw [← hW0]
      clear hW0
      (try go_wp2_with fail)
      refine HC.out.mono ?_
      rintro e w1 ⟨rfl, hb1⟩
      have hB1 := hide (Below.trans' hB0.out hb1)
      have hA1 := hide (HA.out.keep hb1)
      have hX1 := hide (hX0.out.keep hb1)
      have hz1 : Hid (W.heap.size ≤ w1.heap.size) := hide hB1.out.size
      clear hb1 c0 c1 c2
      obtain ⟨c0, c1, c2⟩ := hX1.out
      go_wp2_with fail
      have hE := HG.out (w1.alloc (.cells #[] 2)) w1.heap.size 0 a c W.heap.size (hA1.out.keep (below_alloc _ _)) ⟨rfl, .inr ⟨w1.heap.size, 0, #[], rfl, hz1.out, heap_alloc_new w1 _, Nat.le_refl _, by decide, rfl, rfl⟩⟩ (by have := hz1.out; simp; omega)
      refine hE.mono ?_
      rintro e w2 ⟨g2, c2', vs, rfl, hr, hb2⟩
      have hfin := hide (rows_nil W w2 3 (Below.trans' (Below.alloc' hB1.out _) hb2))
      clear hE hr hb2 c0 c1 c2
      go_wp2_with fail
      go_ret2
      exact hfin.out
end Go.Proofs.Ytkekanllfpdeaab

namespace Go.Proofs.Ytkekanllfpdeaab.LawFleetList
open Go.ChangeShapes Go.WideShapes Go.ChangeAt Go.RowKit Go.Deep
set_option linter.unusedVariables false

set_option maxRecDepth 100000 in
set_option maxHeartbeats 2000000 in
theorem walk (wd hi : Int) (a : Option Addr) (c : Nat) (cs : List Int) (W : World) (ha : IntsAt W a cs) (hn : cs.length ≤ 9223372036854775807) :
    Calls Try.prog 3 #[.agg #[.int .i64 wd, .int .i64 hi, .slice a cs.length c]] W fun e w' => e = .returned (.bool true) ∧ Below W.heap.size W w' := by
  obtain ⟨s, hs⟩ : ∃ s, s = szH cs.length := ⟨_, rfl⟩
  have HS := hide hs
  obtain ⟨W0, hW0⟩ : ∃ W0, W0 = W.alloc (.cells #[.int .i64 wd, .int .i64 hi, .slice a cs.length c] 24) := ⟨_, rfl⟩
  have hB0 : Hid (Below W.heap.size W W0) := by rw [hW0]; exact hide (below_alloc _ _)
  have hX0 : Hid (SeaIn W0 W.heap.size wd hi a cs.length c) := by rw [hW0]; exact hide (seaIn_new _ _ _ _ _ _ _)
  have hA0 := hide (ha.keep hB0.out)
  obtain ⟨c0, c1, c2⟩ := hX0.out
  have HA := hide ha
  clear ha
  by_cases hneg : s < 0
  · clear hs
    go_enter Try.func3, Try.ntmps3
    go_wp2_with fail
    rw [← hW0]
    clear hW0
    refine (szSea_any _ _ _ _ _ _ hn).mono ?_
    rintro e w1 ⟨rfl, hb1⟩
    rw [← HS.out]
    have hB1 := hide (Below.trans' hB0.out hb1)
    clear hb1 c0 c1 c2
    go_wp2_with fail
    go_ret
    exact ⟨rfl, hB1.out⟩
  have hl : cs.length ≤ 1048576 := szH_le (by rw [← hs]; exact hneg)
  have HL := hide hl
  clear hs
  obtain ⟨r, hr⟩ : ∃ r, r = flR wd hi cs := ⟨_, rfl⟩
  have hrl : r.1.length ≤ 300 ∧ ∀ zs ∈ r.1, zs.length ≤ 3 := by rw [hr]; exact flR_le wd hi cs
  have HR := hide hr
  clear hr
  have HC1 : Hid (∀ (V : World) (a : Option Addr) (c : Nat), IntsAt V a cs → Calls Try.prog 10 #[.agg #[.int .i64 wd, .int .i64 hi, .slice a cs.length c]] V (NewRows r V)) := hide (fun V a c ha => by have h := specFleetList_any wd hi a c cs V ha hl; rw [← HR.out] at h; exact h)
  have HC2 : Hid (∀ (V : World) (a : Option Addr) (c : Nat), IntsAt V a cs → Calls Try.prog 12 #[.agg #[.int .i64 wd, .int .i64 hi, .slice a cs.length c]] V (NewRows r V)) := hide (fun V a c ha => by have h := implFleetList_any wd hi a c cs V ha hl; rw [← HR.out] at h; exact h)
  clear HR
  obtain ⟨xss, k⟩ := r
  dsimp only at hrl
  have HRM := hide hrl.2
  have HR8 := hide hrl.1
  have HSM : Hid (Small xss) := hide ⟨by have := hrl.1; omega, fun zs hz => by have := hrl.2 zs hz; omega⟩
  have e1 : (k != k) = false := by simp
  clear hrl
  go_enter Try.func3, Try.ntmps3
  go_wp2_with fail
  rw [← hW0]
  clear hW0
  refine (szSea_any _ _ _ _ _ _ hn).mono ?_
  rintro e w1 ⟨rfl, hb1⟩
  rw [← HS.out]
  have hB1 := hide (Below.trans' hB0.out hb1)
  have hX1 := hide (hX0.out.keep hb1)
  have hA1 := hide (hA0.out.keep hb1)
  clear hb1 c0 c1 c2
  obtain ⟨c0, c1, c2⟩ := hX1.out
  go_wp2_with fail
  refine (toSea_any _ _ _ _ cs _ hA1.out HL.out).mono ?_
  rintro e w2 ⟨g2, k2, rfl, ho2, hb2⟩
  have hB2 := hide (Below.trans' hB1.out hb2)
  have hX2 := hide (hX1.out.keep hb2)
  have hI2 := hide (intsAt_of_ownsRow ho2)
  clear hb2 c0 c1 c2 ho2
  go_wp2_with fail
  -- the model
  refine (HC1.out _ _ _ hI2.out).mono ?_
  rintro e w3 ⟨aw, kw, vw, rfl, how, hb3⟩
  have hJ3 := hide (how.leaves (HRM.out) (by show 3 * xss.length ≤ 1048576; have := HR8.out; omega)).reads
  have hB3 := hide (Below.trans' hB2.out hb3)
  have hX3 := hide (hX2.out.keep hb3)
  clear hb3 how
  obtain ⟨c0, c1, c2⟩ := hX3.out
  go_wp2_with fail
  refine (toSea_any _ _ _ _ cs _ (HA.out.keep hB3.out) HL.out).mono ?_
  rintro e w4 ⟨g4, k4, rfl, ho4, hb4⟩
  obtain ⟨W4, hW4⟩ : ∃ W4, W4 = w4.alloc (.cells #[.int .i64 wd, .int .i64 hi, .slice (some ⟨g4, 0, none⟩) cs.length k4] 29) := ⟨_, rfl⟩
  have hb44 : Below w4.heap.size w4 W4 := by rw [hW4]; exact below_alloc _ _
  have hb4' : Below w3.heap.size w3 W4 := Below.trans' hb4 hb44
  have hY4 : Hid (SeaIn W4 w4.heap.size wd hi (some ⟨g4, 0, none⟩) cs.length k4) := by rw [hW4]; exact hide (seaIn_new _ _ _ _ _ _ _)
  have hO4 := hide (ownsRow_keep ho4 hb44)
  have hB4 := hide (Below.trans' hB3.out hb4')
  have hX4 := hide (hX3.out.keep hb4')
  have hT4 := hide hb4'
  have hg4 := hide (ho4.lt g4 rfl)
  have hz34 : w3.heap.size ≤ w4.heap.size := hb4.size
  have hX3l : Hid (W.heap.size < w3.heap.size) := hide hX3.out.lt
  clear hb4 hb4' hb44 c0 c1 c2 ho4
  obtain ⟨x0, x1, x2⟩ := hX4.out
  go_wp2_with fail
  rw [← hW4]
  clear hW4
  obtain ⟨y0, y1, y2⟩ := hY4.out
  (try go_wp2_with fail)
  -- the program
  refine (HC2.out _ _ _ (intsAt_of_ownsRow hO4.out)).mono ?_
  rintro e wi ⟨a7, k7, vs7, rfl, hog, hbi⟩
  have hzi : W4.heap.size ≤ wi.heap.size := hbi.size
  obtain ⟨lv, hlv⟩ : ∃ lv, lv = lfR vs7 xss := ⟨_, rfl⟩
  have hG4 := hog.leaves (HRM.out) (by show 3 * xss.length ≤ 1048576; have := HR8.out; omega)
  rw [← hlv] at hG4
  have hlen : Hid (lv.length = xss.length) := hide hG4.len
  obtain ⟨LO, hLO⟩ : ∃ LO, LO = W4.heap.size := ⟨_, rfl⟩
  rw [← hLO] at hG4
  have HLO := hide hLO
  have hG := hide hG4
  clear hlv hG4 hLO
  have hYi := hide (hY4.out.keep hbi)
  have hXi := hide (hX4.out.keep hbi)
  have hOi := hide (ownsRow_keep hO4.out hbi)
  have hBi := hide (Below.trans' hB4.out hbi)
  have hTi := hide (Below.trans' hT4.out hbi)
  have hzW : Hid (w4.heap.size < W4.heap.size) := hide hY4.out.lt
  clear hbi hog y0 y1 y2 x0 x1 x2
  go_wp2_with fail
  refine (eqInt64SS_same _ _ _ _ xss _ hG.out.reads (hJ3.out.keep hTi.out) HSM.out).mono ?_
  rintro e w5 ⟨rfl, hq5⟩
  have hb5 : Below wi.heap.size wi w5 := hq5.below
  have hT5 := hide (Below.trans' hTi.out hb5)
  have hG5 := hide (hG.out.keep hb5)
  have hB5 := hide (Below.trans' hBi.out hb5)
  obtain ⟨x0, x1, x2⟩ := hXi.out.keep hb5
  obtain ⟨z0, z1, z2⟩ := hYi.out.keep hb5
  have hO5 := hide (ownsRow_keep hOi.out hb5)
  have hI5 := hide (intsAt_of_ownsRow hO5.out)
  have hX5 := hide (hXi.out.keep hb5)
  have hY5 := hide (hYi.out.keep hb5)
  clear hb5 hq5
  go_wp2_with fail
  have hd5 : Below w5.heap.size w5 w5.drew := Below.drew (Below.refl _ _)
  have hA6 := hide (HA.out.keep (Below.trans' hB5.out hd5))
  have hI6 := hide (hI5.out.keep hd5)
  have xd0 := cell_keep hd5 x0
  have xd1 := cell_keep hd5 x1
  have xd2 := cell_keep hd5 x2
  have zd0 := cell_keep hd5 z0
  have zd1 := cell_keep hd5 z1
  have zd2 := cell_keep hd5 z2
  go_region_held3 (fun V => V.cell? ⟨W.heap.size, 0, none⟩ = some (.int .i64 wd) ∧ V.cell? ⟨W.heap.size, 1, none⟩ = some (.int .i64 hi) ∧ V.cell? ⟨W.heap.size, 2, none⟩ = some (.slice a cs.length c) ∧ V.cell? ⟨w4.heap.size, 0, none⟩ = some (.int .i64 wd) ∧ V.cell? ⟨w4.heap.size, 1, none⟩ = some (.int .i64 hi) ∧ V.cell? ⟨w4.heap.size, 2, none⟩ = some (.slice (some ⟨g4, 0, none⟩) cs.length k4) ∧ Below w5.heap.size w5 V) (first | (exact ⟨xd0, xd1, xd2, zd0, zd1, zd2, hd5⟩) | (exact ⟨cell_keep hB6 xd0, cell_keep hB6 xd1, cell_keep hB6 xd2, cell_keep hB6 zd0, cell_keep hB6 zd1, cell_keep hB6 zd2, Below.trans' hd5 hB6⟩) | (exact ⟨cell_keep hB7 (cell_keep hB6 xd0), cell_keep hB7 (cell_keep hB6 xd1), cell_keep hB7 (cell_keep hB6 xd2), cell_keep hB7 (cell_keep hB6 zd0), cell_keep hB7 (cell_keep hB6 zd1), cell_keep hB7 (cell_keep hB6 zd2), Below.trans' (Below.trans' hd5 hB6) hB7⟩)) (first | (go_at_call 11; refine (toSea_any _ _ _ _ cs _ hA6.out HL.out).mono ?_; rintro e w6 ⟨g6, k6, rfl, ho6, hB6⟩) | (go_at_call 14; refine (eqSea_same _ _ _ _ _ _ cs _ (hI6.out.keep hB6) (intsAt_of_ownsRow ho6) HL.out).mono ?_; rintro e w7 ⟨rfl, hB7⟩))
  have hb57 := Below.trans' (Below.trans' hd5 hB6) hB7
  have hO7 := hide (ownsRow_keep hO5.out hb57)
  have hG7 := hide (hG5.out.keep hb57)
  have hT7 := hide (Below.trans' hT5.out hb57)
  have hX7 := hide (hX5.out.keep hb57)
  have hY7 := hide (hY5.out.keep hb57)
  have hB7' := hide (Below.trans' hB5.out hb57)
  have hz7 := hb57.size
  have hz5 := hB5.out.size
  have HZ : Hid (w3.heap.size ≤ w4.heap.size ∧ w4.heap.size < LO) := hide ⟨hz34, by rw [HLO.out]; exact hzW.out⟩
  have hZ3 := hX3l.out
  clear xd0 xd1 xd2 zd0 zd1 zd2 x0 x1 x2 z0 z1 z2 hb57 hd5 hB6 hB7 ho6
  obtain ⟨y0, y1, y2⟩ := hY7.out
  go_wp2_with fail
  -- the argument's marks
  refine (markSea_any _ _ _ _ _ _ _ _ hO7.out HL.out).mono ?_
  rintro e w8 ⟨rfl, ho8, hM8⟩
  have hZ := HZ.out
  have hb4 := hg4.out
  have hW8 : W.heap.size ≤ w7.heap.size := (Nat.le_of_lt hX7.out.lt)
  have hX8 := hide (hX7.out.mk1 hM8 (fun e => by simp [Value.ownBlock] at e; omega))
  have hG8 := hide (hG7.out.agree (w' := w8) (fun b hb hlt => hM8.block b hlt (fun e => by simp [Value.ownBlock] at e; omega)))
  have hT8 := hide (hT7.out.trans (hM8.old (B := w3.heap.size) (by have := hT7.out.size; omega) (fun g e => by simp [Value.ownBlock] at e; omega)))
  have hBW8 := hide (hB7'.out.trans (hM8.old hW8 (fun g e => by simp [Value.ownBlock] at e; omega)))
  clear y0 y1 y2 hM8 ho8
  go_wp2_with fail
  refine (eqInt64SS_same _ _ _ _ xss _ hG8.out.reads (hJ3.out.keep hT8.out) HSM.out).mono ?_
  rintro e w9 ⟨rfl, hq9⟩
  have hb9 : Below w8.heap.size w8 w9 := hq9.below
  have hT9 := hide (Below.trans' hT8.out hb9)
  have hG9 := hide (hG8.out.keep hb9)
  have hBW9 := hide (Below.trans' hBW8.out hb9)
  have hX9 := hide (hX8.out.keep hb9)
  clear hb9 hq9
  go_wp2_with fail
  rw [← hlen.out]
  obtain ⟨tt, htt⟩ : ∃ tt, tt = total lv := ⟨_, rfl⟩
  have htb : tt ≤ 1048576 := by rw [htt]; exact hG.out.tot
  have hll : lv.length ≤ 1048576 := by rw [hlen.out]; have := HR8.out; omega
  refine (markInt64SS_leaves a7 k7 lv 1 (OwnNums w9 LO) _ hG9.out.row (fun l hl => by obtain ⟨i, hi⟩ := List.mem_iff_getElem?.1 hl; obtain ⟨zs, _, _, _, hr, _⟩ := hG9.out.leaf i l hi; exact hr) (fun l hl b off hb hp => by
    obtain ⟨i, hi⟩ := List.mem_iff_getElem?.1 hl
    obtain ⟨zs, _, _, _, hr, hlo⟩ := hG9.out.leaf i l hi
    obtain ⟨b', off', e', hlo'⟩ := hlo hp
    rw [hb] at e'
    simp at e'
    refine ⟨by omega, ?_⟩
    rcases hr with h0 | ⟨b2, off2, cur, e2, hcur, _⟩
    · omega
    · rw [hb] at e2
      simp at e2
      rw [e2.1]
      exact ⟨cur, hcur⟩) (fun b off hb hS => by
    obtain ⟨_, cur, hcur⟩ := hS
    obtain ⟨_, cur2, hcur2⟩ := hG9.out.outer b off hb
    rw [hcur] at hcur2
    simp at hcur2) hG9.out.apart hll hG9.out.small (by omega) (by have := hG.out.tot; omega)).mono ?_
  rw [← htt]
  rintro e w10 ⟨rfl, hM, hcb, hmk⟩
  have hT10 := hide (hT9.out.trans (hmk.below (B := w3.heap.size) (fun k hk => by have h1 := hk.1; have h2 := HZ.out; omega)))
  have hBW10 := hide (hBW9.out.trans (hmk.below (B := W.heap.size) (fun k hk => by have h1 := hk.1; have h2 := HZ.out; omega)))
  have hLR : Hid (LeafRow w10 a7 lv) := hide (fun hne2 => by
    obtain ⟨b, off, rfl, hi⟩ := hG9.out.row hne2
    refine ⟨b, off, rfl, fun i l hl => ?_⟩
    obtain ⟨c2, hc2⟩ := hi i l hl
    refine ⟨c2, (World.cell?_of_block (hmk.block b (fun hS => ?_))).trans hc2⟩
    obtain ⟨_, cur, hcur⟩ := hS
    obtain ⟨_, cur2, hcur2⟩ := hG9.out.outer b off rfl
    rw [hcur] at hcur2
    simp at hcur2)
  have hLM := hide hM
  have hsm := hide hG.out.small
  clear hM hcb hmk
  go_wp2_with fail
  refine (heldInt64SS_leaves a7 k7 lv 1 _ hLR.out hLM.out hll hsm.out (by omega) (by rw [← htt]; omega)).mono ?_
  rw [← htt]
  rintro e w11 ⟨rfl, hq⟩
  have hb11 : Below w10.heap.size w10 w11 := hq.below
  have hT11 := hide (Below.trans' hT10.out hb11)
  have hBW11 := hide (Below.trans' hBW10.out hb11)
  have hLR11 := hide (hLR.out.keep hb11)
  have hLM11 := hide (hLM.out.keep hb11)
  have HTT := hide htt
  clear hq htt hb11
  (try rw [hlen.out])
  have hq0 : ((1 : Int) + tt < 0) = False := by simp; omega
  have hX11 : Hid (SeaIn w11 W.heap.size wd hi a cs.length c) := hide (hX3.out.keep hT11.out)
  obtain ⟨x0, x1, x2⟩ := hX11.out
  go_wp2_with fail
  -- once more
  refine (toSea_any _ _ _ _ cs _ (HA.out.keep hBW11.out) HL.out).mono ?_
  rintro e w12 ⟨g12, k12, rfl, ho12, hb12⟩
  have hI12 := hide (intsAt_of_ownsRow ho12)
  have hT12 := hide (Below.trans' hT11.out hb12)
  have hBW12 := hide (Below.trans' hBW11.out hb12)
  have hU12 := hide hb12
  clear hb12 x0 x1 x2 ho12
  go_wp2_with fail
  refine (HC2.out _ _ _ hI12.out).mono ?_
  rintro e w13 ⟨ah, kh, vh, rfl, hoh, hb13⟩
  have hH13 := hide (hoh.leaves (HRM.out) (by show 3 * xss.length ≤ 1048576; have := HR8.out; omega)).reads
  have hT13 := hide (Below.trans' hT12.out hb13)
  have hU13 := hide (Below.trans' hU12.out hb13)
  have hBW13 := hide (Below.trans' hBW12.out hb13)
  clear hb13 hoh
  go_wp2_with fail
  refine (eqInt64SS_same _ _ _ _ xss _ hH13.out (hJ3.out.keep hT13.out) HSM.out).mono ?_
  rintro e w14 ⟨rfl, hq14⟩
  have hU14 := hide (Below.trans' hU13.out hq14.below)
  have hBW14 := hide (Below.trans' hBW13.out hq14.below)
  clear hq14
  go_wp2_with fail
  (try rw [← hlen.out])
  refine (heldInt64SS_leaves a7 k7 lv 1 _ (hLR11.out.keep hU14.out) (hLM11.out.keep hU14.out) hll hsm.out (by omega) (by rw [← HTT.out]; omega)).mono ?_
  rw [← HTT.out]
  rintro e w15 ⟨rfl, hq15⟩
  have hBW15 := hide (Below.trans' hBW14.out hq15.below)
  clear hq15
  go_wp2_with fail
  go_ret
  exact ⟨rfl, hBW15.out⟩
end Go.Proofs.Ytkekanllfpdeaab.LawFleetList
