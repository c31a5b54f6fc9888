/-
  FirstCar, both texts.
-/
import Derived.Test.YtmoekjgnichgnaaDoorTf
namespace Go.Proofs.YtmoekjgnichgnaaDoor
open Go.RowKit
set_option linter.unusedVariables false

def fcR (ss : List ByteArray) : Cr × Int := if trk ss = true then (fstC ss, 0) else (Cr.zero, 1)

set_option maxRecDepth 100000 in
set_option maxHeartbeats 1000000 in
theorem specFirstCar_any (a : Option Addr) (c : Nat) (ss : List ByteArray) (W : World) (ha : StrsAt W a ss) (hl : ss.length ≤ 1048576) (hz : ∀ s ∈ ss, s.size ≤ 1048576) :
    Calls Tryd.prog 20 #[.slice a ss.length c] W (RetB (.tuple #[crV (fcR ss).1, .int .i64 (fcR ss).2]) W) := by
  obtain ⟨W0, hW0⟩ : ∃ W0, W0 = W.alloc (.cells #[.int .i64 0, .int .i64 0, .int .i64 0, .int .i64 0] 28) := ⟨_, rfl⟩
  have hB0 : Hid (Below W.heap.size W W0) := by rw [hW0]; exact hide (below_alloc _ _)
  have hr0 : W0.heap[W.heap.size]? = some (.cells #[.int .i64 0, .int .i64 0, .int .i64 0, .int .i64 0] 28 (0, 0)) := by rw [hW0]; exact row_new _ _ _
  have HR0 := hide hr0
  have HA := hide (ha.keep hB0.out)
  have HIS := hide (l08Is_any a c ss W0 HA.out hl hz)
  cases hok : trk ss
  · have HF : Hid (fcR ss = (Cr.zero, 1)) := hide (by unfold fcR; rw [hok]; rfl)
    rw [HF.out]
    rw [hok] at HIS
    clear ha hl hz hr0 hok
    go_enter Tryd.func20, Tryd.ntmps20
    go_wp2_with fail
    rw [← hW0]
    clear hW0
    (try go_wp2_with fail)
    refine HIS.out.mono ?_
    rintro e w1 ⟨rfl, hb1⟩
    have HB1 := hide (Below.trans' hB0.out hb1)
    have hr1 := box_keep HR0.out hb1
    have hst := st4_box 0 0 0 0 hr1
    obtain ⟨f0, f1, f2, f3⟩ := froz4 hr1
    obtain ⟨d0, d1, d2, d3⟩ := row4 hr1
    obtain ⟨j0, j1, j2, j3⟩ := row4 hst
    have hB := hide (st4_below 0 0 0 0 HB1.out (Nat.le_refl _))
    have HJ := hide (And.intro j0 (And.intro j1 (And.intro j2 j3)))
    clear hst j0 j1 j2 j3 hb1 hr1
    go_wp2_with fail
    obtain ⟨j0, j1, j2, j3⟩ := HJ.out
    unfold st4 at j0 j1 j2 j3 hB
    exact bodyPost_ret (v := .tuple #[.agg #[.int .i64 0, .int .i64 0, .int .i64 0, .int .i64 0], .int .i64 1]) (by simp [results, Tryd.results20, go_sem, j0, j1, j2, j3]) rfl ⟨rfl, hB.out⟩
  · have HF : Hid (fcR ss = (fstC ss, 0)) := hide (by unfold fcR; rw [hok]; rfl)
    have HFC := hide (fun (V : World) (h : StrsAt V a ss) => l08First_any a c ss V h hok)
    obtain ⟨K, hK⟩ : ∃ K, K = fstC ss := ⟨_, rfl⟩
    rw [HF.out]
    rw [← hK] at HFC ⊢
    obtain ⟨x, y, u, v⟩ := K
    rw [hok] at HIS
    clear ha hl hz hr0 hok hK
    go_enter Tryd.func20, Tryd.ntmps20
    go_wp2_with fail
    rw [← hW0]
    clear hW0
    (try go_wp2_with fail)
    refine HIS.out.mono ?_
    rintro e w1 ⟨rfl, hb1⟩
    have HB1 := hide (Below.trans' hB0.out hb1)
    have HA1 := hide (HA.out.keep hb1)
    have HR1 := hide (box_keep HR0.out hb1)
    clear hb1
    go_wp2_with fail
    refine (HFC.out _ HA1.out).mono ?_
    rintro e w2 ⟨rfl, hb2⟩
    have HB2 := hide (Below.trans' HB1.out hb2)
    have hr1 := box_keep HR1.out hb2
    have hst := st4_box x y u v hr1
    obtain ⟨f0, f1, f2, f3⟩ := froz4 hr1
    obtain ⟨d0, d1, d2, d3⟩ := row4 hr1
    obtain ⟨j0, j1, j2, j3⟩ := row4 hst
    have hB := hide (st4_below x y u v HB2.out (Nat.le_refl _))
    have HJ := hide (And.intro j0 (And.intro j1 (And.intro j2 j3)))
    clear hst j0 j1 j2 j3 hb2 hr1
    unfold crV
    go_wp2_with fail
    obtain ⟨j0, j1, j2, j3⟩ := HJ.out
    unfold st4 at j0 j1 j2 j3 hB
    exact bodyPost_ret (v := .tuple #[.agg #[.int .i64 x, .int .i64 y, .int .i64 u, .int .i64 v], .int .i64 0]) (by simp [results, Tryd.results20, go_sem, j0, j1, j2, j3]) rfl ⟨rfl, hB.out⟩

set_option maxRecDepth 100000 in
set_option maxHeartbeats 1000000 in
theorem implFirstCar_any (a : Option Addr) (c : Nat) (ss : List ByteArray) (W : World) (ha : StrsAt W a ss) (hl : ss.length ≤ 1048576) (hz : ∀ s ∈ ss, s.size ≤ 1048576) (hcap : ss.length ≤ c) :
    Calls Tryd.prog 21 #[.slice a ss.length c] W (RetB (.tuple #[crV (fcR ss).1, .int .i64 (fcR ss).2]) W) := by
  obtain ⟨W0, hW0⟩ : ∃ W0, W0 = W.alloc (.cells #[.int .i64 0, .int .i64 0, .int .i64 0, .int .i64 0] 28) := ⟨_, rfl⟩
  have hB0 : Hid (Below W.heap.size W W0) := by rw [hW0]; exact hide (below_alloc _ _)
  have hr0 : W0.heap[W.heap.size]? = some (.cells #[.int .i64 0, .int .i64 0, .int .i64 0, .int .i64 0] 28 (0, 0)) := by rw [hW0]; exact row_new _ _ _
  have HR0 := hide hr0
  have HA := hide (ha.keep hB0.out)
  have HIS := hide (implIsTrack_any a c ss W0 HA.out hl hz hcap)
  cases hok : trk ss
  · have HF : Hid (fcR ss = (Cr.zero, 1)) := hide (by unfold fcR; rw [hok]; rfl)
    rw [HF.out]
    rw [hok] at HIS
    clear ha hl hz hr0 hok
    go_enter Tryd.func21, Tryd.ntmps21
    go_wp2_with fail
    rw [← hW0]
    clear hW0
    (try go_wp2_with fail)
    refine HIS.out.mono ?_
    rintro e w1 ⟨rfl, hb1⟩
    have HB1 := hide (Below.trans' hB0.out hb1)
    have hr1 := box_keep HR0.out hb1
    have hst := st4_box 0 0 0 0 hr1
    obtain ⟨f0, f1, f2, f3⟩ := froz4 hr1
    obtain ⟨d0, d1, d2, d3⟩ := row4 hr1
    obtain ⟨j0, j1, j2, j3⟩ := row4 hst
    have hB := hide (st4_below 0 0 0 0 HB1.out (Nat.le_refl _))
    have HJ := hide (And.intro j0 (And.intro j1 (And.intro j2 j3)))
    clear hst j0 j1 j2 j3 hb1 hr1
    go_wp2_with fail
    obtain ⟨j0, j1, j2, j3⟩ := HJ.out
    unfold st4 at j0 j1 j2 j3 hB
    exact bodyPost_ret (v := .tuple #[.agg #[.int .i64 0, .int .i64 0, .int .i64 0, .int .i64 0], .int .i64 1]) (by simp [results, Tryd.results21, go_sem, j0, j1, j2, j3]) rfl ⟨rfl, hB.out⟩
  · have HF : Hid (fcR ss = (fstC ss, 0)) := hide (by unfold fcR; rw [hok]; rfl)
    have HFC := hide (fun (V : World) (h : StrsAt V a ss) => firstCar_any a c ss V h hok)
    obtain ⟨K, hK⟩ : ∃ K, K = fstC ss := ⟨_, rfl⟩
    rw [HF.out]
    rw [← hK] at HFC ⊢
    obtain ⟨x, y, u, v⟩ := K
    rw [hok] at HIS
    clear ha hl hz hr0 hok hK
    go_enter Tryd.func21, Tryd.ntmps21
    go_wp2_with fail
    rw [← hW0]
    clear hW0
    (try go_wp2_with fail)
    refine HIS.out.mono ?_
    rintro e w1 ⟨rfl, hb1⟩
    have HB1 := hide (Below.trans' hB0.out hb1)
    have HA1 := hide (HA.out.keep hb1)
    have HR1 := hide (box_keep HR0.out hb1)
    clear hb1
    go_wp2_with fail
    refine (HFC.out _ HA1.out).mono ?_
    rintro e w2 ⟨rfl, hb2⟩
    have HB2 := hide (Below.trans' HB1.out hb2)
    have hr1 := box_keep HR1.out hb2
    have hst := st4_box x y u v hr1
    obtain ⟨f0, f1, f2, f3⟩ := froz4 hr1
    obtain ⟨d0, d1, d2, d3⟩ := row4 hr1
    obtain ⟨j0, j1, j2, j3⟩ := row4 hst
    have hB := hide (st4_below x y u v HB2.out (Nat.le_refl _))
    have HJ := hide (And.intro j0 (And.intro j1 (And.intro j2 j3)))
    clear hst j0 j1 j2 j3 hb2 hr1
    unfold crV
    go_wp2_with fail
    obtain ⟨j0, j1, j2, j3⟩ := HJ.out
    unfold st4 at j0 j1 j2 j3 hB
    exact bodyPost_ret (v := .tuple #[.agg #[.int .i64 x, .int .i64 y, .int .i64 u, .int .i64 v], .int .i64 0]) (by simp [results, Tryd.results21, go_sem, j0, j1, j2, j3]) rfl ⟨rfl, hB.out⟩
end Go.Proofs.YtmoekjgnichgnaaDoor
