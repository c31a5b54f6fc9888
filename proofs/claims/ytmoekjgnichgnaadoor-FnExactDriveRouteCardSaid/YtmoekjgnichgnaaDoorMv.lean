/-
  Checks of cars and moves, and MoveCar, the program's text.
-/
import Derived.Test.YtmoekjgnichgnaaDoorIo
namespace Go.Proofs.YtmoekjgnichgnaaDoor
open Go.RowKit
set_option linter.unusedVariables false

def carC (ss : List ByteArray) (c : Cr) : Int := if trk ss = true then (if okCr ss c = true then 0 else 2) else 1
def movC (ss : List ByteArray) (c : Cr) (mv : Int) : Int := if carC ss c = 0 then (if inI mv 0 8 = true then 0 else 2) else carC ss c
def mvR (ss : List ByteArray) (c : Cr) (mv : Int) : Cr × Int := if movC ss c mv = 0 then (if opn ss c mv = true then (c.go mv, 0) else (Cr.zero, 5)) else (Cr.zero, movC ss c mv)
theorem carC_zero {ss : List ByteArray} {c : Cr} (h : carC ss c = 0) : trk ss = true ∧ okCr ss c = true := by
  unfold carC at h
  split at h
  · rename_i h1
    split at h
    · rename_i h2
      exact ⟨h1, h2⟩
    · omega
  · omega
theorem movC_zero {ss : List ByteArray} {c : Cr} {mv : Int} (h : movC ss c mv = 0) : carC ss c = 0 ∧ 0 ≤ mv ∧ mv ≤ 8 := by
  unfold movC at h
  split at h
  · rename_i h1
    split at h
    · rename_i h2
      exact ⟨h1, inI_yes h2⟩
    · omega
  · rename_i h1
    exact absurd h h1
set_option maxRecDepth 100000 in
set_option maxHeartbeats 1000000 in
theorem checkCar_any (a : Option Addr) (c : Nat) (ss : List ByteArray) (x y u v : Int) (W : World) (ha : StrsAt W a ss) (hl : ss.length ≤ 1048576) (hz : ∀ s ∈ ss, s.size ≤ 1048576) (hcap : ss.length ≤ c) :
    Calls Tryd.prog 65 #[.slice a ss.length c, .agg #[.int .i64 x, .int .i64 y, .int .i64 u, .int .i64 v]] W (RetB (.int .i64 (carC ss ⟨x, y, u, v⟩)) W) := by
  obtain ⟨W0, hW0, hb0, hr0⟩ := carBox W x y u v
  have HB0 := hide hb0
  have HA := hide (ha.keep hb0)
  have HR0 := hide hr0
  have HIS := hide (implIsTrack_any a c ss W0 HA.out hl hz hcap)
  clear ha hr0 hb0
  cases hok : trk ss
  · have hfin : Hid (carC ss ⟨x, y, u, v⟩ = 1) := hide (by unfold carC; rw [hok]; rfl)
    rw [hok] at HIS
    rw [hfin.out]
    clear hl hz hok
    go_enter Tryd.func65, Tryd.ntmps65
    go_wp2_with fail
    rw [← hW0]
    clear hW0
    (try go_wp2_with fail)
    refine HIS.out.mono ?_
    rintro e w1 ⟨rfl, hb1⟩
    have HB1 := hide (Below.trans' HB0.out hb1)
    clear hb1
    go_wp2_with fail
    go_ret
    exact ⟨rfl, HB1.out⟩
  · have hfin : Hid (carC ss ⟨x, y, u, v⟩ = if okCr ss ⟨x, y, u, v⟩ = true then 0 else 2) := hide (by unfold carC; rw [hok]; rfl)
    have HHC := hide (fun V (h : StrsAt V a ss) => hasCar_any a c ss x y u v V h (trk_shp hok))
    rw [hok] at HIS
    obtain ⟨k, hk⟩ : ∃ k, k = okCr ss ⟨x, y, u, v⟩ := ⟨_, rfl⟩
    rw [← hk] at hfin HHC
    clear hl hz hok hk
    go_enter Tryd.func65, Tryd.ntmps65
    go_wp2_with fail
    rw [← hW0]
    clear hW0
    (try go_wp2_with fail)
    refine HIS.out.mono ?_
    rintro e w1 ⟨rfl, hb1⟩
    have HB1 := hide (Below.trans' HB0.out hb1)
    have HA1 := hide (HA.out.keep hb1)
    obtain ⟨d0, d1, d2, d3⟩ := row4 (box_keep HR0.out hb1)
    clear hb1
    go_wp2_with fail
    refine (HHC.out _ HA1.out).mono ?_
    rintro e w2 ⟨rfl, hb2⟩
    have HB2 := hide (Below.trans' HB1.out hb2)
    clear hb2 d0 d1 d2 d3
    cases k
    · go_wp2_with fail
      go_ret
      exact ⟨by rw [hfin.out]; rfl, HB2.out⟩
    · go_wp2_with fail
      go_ret
      exact ⟨by rw [hfin.out]; rfl, HB2.out⟩

set_option maxRecDepth 100000 in
set_option maxHeartbeats 1000000 in
theorem checkMove_any (a : Option Addr) (c : Nat) (ss : List ByteArray) (x y u v mv : Int) (W : World) (ha : StrsAt W a ss) (hl : ss.length ≤ 1048576) (hz : ∀ s ∈ ss, s.size ≤ 1048576) (hcap : ss.length ≤ c) :
    Calls Tryd.prog 61 #[.slice a ss.length c, .agg #[.int .i64 x, .int .i64 y, .int .i64 u, .int .i64 v], .int .i64 mv] W (RetB (.int .i64 (movC ss ⟨x, y, u, v⟩ mv)) W) := by
  obtain ⟨W0, hW0, hb0, hr0⟩ := carBox W x y u v
  have HB0 := hide hb0
  have HA := hide (ha.keep hb0)
  obtain ⟨d0, d1, d2, d3⟩ := row4 hr0
  rw [hW0] at d0 d1 d2 d3
  have HCC := hide (checkCar_any a c ss x y u v W0 HA.out hl hz hcap)
  obtain ⟨k, hk⟩ : ∃ k, k = carC ss ⟨x, y, u, v⟩ := ⟨_, rfl⟩
  have hfin : Hid (movC ss ⟨x, y, u, v⟩ mv = if k = 0 then (if inI mv 0 8 = true then 0 else 2) else k) := hide (by unfold movC; rw [hk])
  rw [← hk] at HCC
  clear ha hr0 hb0 hl hz hk
  by_cases h0 : k = 0
  · subst h0
    obtain ⟨b, hb⟩ : ∃ b, b = inI mv 0 8 := ⟨_, rfl⟩
    have HIX : Hid (idxB mv 9 = b) := hide (by rw [idxB_inI, hb]; rfl)
    rw [← hb] at hfin
    clear hb
    go_enter Tryd.func61, Tryd.ntmps61
    go_wp2_with fail
    rw [← hW0]
    clear hW0
    (try go_wp2_with fail)
    refine HCC.out.mono ?_
    rintro e w1 ⟨rfl, hb1⟩
    have HB1 := hide (Below.trans' HB0.out hb1)
    clear hb1 d0 d1 d2 d3
    go_wp2_with fail
    refine (isIndex_is HIX.out _).mono ?_
    rintro e w2 ⟨rfl, hb2⟩
    have HB2 := hide (Below.trans' HB1.out hb2)
    clear hb2
    cases b
    · go_wp2_with fail
      go_ret
      exact ⟨by rw [hfin.out]; rfl, HB2.out⟩
    · go_wp2_with fail
      go_ret
      exact ⟨by rw [hfin.out]; rfl, HB2.out⟩
  · have hk2 : Hid (movC ss ⟨x, y, u, v⟩ mv = k) := hide (by rw [hfin.out, if_neg h0])
    go_enter Tryd.func61, Tryd.ntmps61
    go_wp2_with fail
    rw [← hW0]
    clear hW0
    (try go_wp2_with fail)
    refine HCC.out.mono ?_
    rintro e w1 ⟨rfl, hb1⟩
    have HB1 := hide (Below.trans' HB0.out hb1)
    clear hb1 d0 d1 d2 d3
    go_wp2_with fail
    go_ret
    exact ⟨by rw [hk2.out]; rfl, HB1.out⟩

theorem carBox2 (W : World) (x y u v : Int) : ∃ W0, W0 = (W.alloc (.cells #[.int .i64 x, .int .i64 y, .int .i64 u, .int .i64 v] 28)).alloc (.cells #[.int .i64 0, .int .i64 0, .int .i64 0, .int .i64 0] 28) ∧ Below W.heap.size W W0 ∧ W0.heap[W.heap.size]? = some (.cells #[.int .i64 x, .int .i64 y, .int .i64 u, .int .i64 v] 28 (0, 0)) ∧ W0.heap[W.heap.size + 1]? = some (.cells #[.int .i64 0, .int .i64 0, .int .i64 0, .int .i64 0] 28 (0, 0)) := by
  refine ⟨_, rfl, (below_alloc _ _).alloc (by simp) _, row_up _ (row_new _ _ _), ?_⟩
  have := row_new (W.alloc (.cells #[.int .i64 x, .int .i64 y, .int .i64 u, .int .i64 v] 28)) #[.int .i64 0, .int .i64 0, .int .i64 0, .int .i64 0] 28
  simpa using this
set_option maxRecDepth 100000 in
set_option maxHeartbeats 1000000 in
theorem implMove_any (a : Option Addr) (c : Nat) (ss : List ByteArray) (x y u v mv : Int) (W : World) (ha : StrsAt W a ss) (hl : ss.length ≤ 1048576) (hz : ∀ s ∈ ss, s.size ≤ 1048576) (hcap : ss.length ≤ c) :
    Calls Tryd.prog 36 #[.slice a ss.length c, .agg #[.int .i64 x, .int .i64 y, .int .i64 u, .int .i64 v], .int .i64 mv] W (RetB (.tuple #[crV (mvR ss ⟨x, y, u, v⟩ mv).1, .int .i64 (mvR ss ⟨x, y, u, v⟩ mv).2]) W) := by
  obtain ⟨W0, hW0, hb0, hr0, hr1⟩ := carBox2 W x y u v
  have HB0 := hide hb0
  have HA := hide (ha.keep hb0)
  have HR0 := hide hr0
  have HR1 := hide hr1
  obtain ⟨d0, d1, d2, d3⟩ := row4 hr0
  rw [hW0] at d0 d1 d2 d3
  have HCM := hide (checkMove_any a c ss x y u v mv W0 HA.out hl hz hcap)
  obtain ⟨k, hk⟩ : ∃ k, k = movC ss ⟨x, y, u, v⟩ mv := ⟨_, rfl⟩
  rw [← hk] at HCM
  clear ha hr0 hr1 hb0 hl hz
  by_cases h0 : k = 0
  · obtain ⟨hc0, m0, m8⟩ := movC_zero (hk.symm.trans h0)
    obtain ⟨ht, hok⟩ := carC_zero hc0
    have hsh := trk_shp ht
    have HOP := hide (fun V (h : StrsAt V a ss) => isOpen_any a c ss x y u v mv V h hsh hok m0 m8)
    obtain ⟨⟨x0, x1⟩, ⟨y0, y1⟩, ⟨u0, u1⟩, ⟨v0, v1⟩⟩ := okCr_rg hsh hok
    dsimp only at x0 x1 y0 y1 u0 u1 v0 v1
    have HBH := hide (fun V => behind_any x y u v mv (by unfold Rg; omega) (by unfold Rg; omega) (by unfold Rg; omega) (by unfold Rg; omega) m0 m8 V)
    have hR : Hid (mvR ss ⟨x, y, u, v⟩ mv = if opn ss ⟨x, y, u, v⟩ mv = true then ((⟨x, y, u, v⟩ : Cr).go mv, 0) else (Cr.zero, 5)) := hide (by unfold mvR; rw [← hk, h0]; rfl)
    subst h0
    cases hop : opn ss ⟨x, y, u, v⟩ mv
    · have hR2 : Hid (mvR ss ⟨x, y, u, v⟩ mv = (Cr.zero, 5)) := hide (by rw [hR.out, hop]; rfl)
      rw [hR2.out]
      rw [hop] at HOP
      clear hop hk hok ht hc0 hsh
      go_enter Tryd.func36, Tryd.ntmps36
      go_wp2_with fail
      rw [← hW0]
      clear hW0
      (try go_wp2_with fail)
      refine HCM.out.mono ?_
      rintro e w1 ⟨rfl, hb1⟩
      have HB1 := hide (Below.trans' HB0.out hb1)
      have HA1 := hide (HA.out.keep hb1)
      have HR11 := hide (box_keep HR1.out hb1)
      clear d0 d1 d2 d3
      obtain ⟨d0, d1, d2, d3⟩ := row4 (box_keep HR0.out hb1)
      clear hb1
      go_wp2_with fail
      refine (HOP.out _ HA1.out).mono ?_
      rintro e w2 ⟨rfl, hb2⟩
      have HB2 := hide (Below.trans' HB1.out hb2)
      have hr3 := box_keep HR11.out hb2
      clear hb2 d0 d1 d2 d3
      have hst := st4_box (0) (0) (0) (0) hr3
      obtain ⟨f0, f1, f2, f3⟩ := froz4 hr3
      obtain ⟨d0, d1, d2, d3⟩ := row4 hr3
      obtain ⟨j0, j1, j2, j3⟩ := row4 hst
      have hB := hide (st4_below (0) (0) (0) (0) (b := W.heap.size + 1) HB2.out (by omega))
      have HJ := hide (And.intro j0 (And.intro j1 (And.intro j2 j3)))
      clear hst j0 j1 j2 j3
      go_wp2_with fail
      obtain ⟨j0, j1, j2, j3⟩ := HJ.out
      unfold st4 at j0 j1 j2 j3 hB
      exact bodyPost_ret (v := .tuple #[.agg #[.int .i64 0, .int .i64 0, .int .i64 0, .int .i64 0], .int .i64 5]) (by simp [results, Tryd.results36, go_sem, j0, j1, j2, j3]) rfl ⟨rfl, hB.out⟩
    · obtain ⟨K, hK⟩ : ∃ K, K = (⟨x, y, u, v⟩ : Cr).go mv := ⟨_, rfl⟩
      have hR2 : Hid (mvR ss ⟨x, y, u, v⟩ mv = (K, 0)) := hide (by rw [hR.out, hop, hK]; rfl)
      rw [hR2.out]
      rw [hop] at HOP
      rw [← hK] at HBH
      obtain ⟨gx, gy, gu, gv⟩ := K
      clear hop hk hok ht hc0 hsh hK
      go_enter Tryd.func36, Tryd.ntmps36
      go_wp2_with fail
      rw [← hW0]
      clear hW0
      (try go_wp2_with fail)
      refine HCM.out.mono ?_
      rintro e w1 ⟨rfl, hb1⟩
      have HB1 := hide (Below.trans' HB0.out hb1)
      have HA1 := hide (HA.out.keep hb1)
      have HR11 := hide (box_keep HR1.out hb1)
      have HR01 := hide (box_keep HR0.out hb1)
      clear d0 d1 d2 d3
      obtain ⟨d0, d1, d2, d3⟩ := row4 HR01.out
      clear hb1
      go_wp2_with fail
      refine (HOP.out _ HA1.out).mono ?_
      rintro e w2 ⟨rfl, hb2⟩
      have HB2 := hide (Below.trans' HB1.out hb2)
      have HR12 := hide (box_keep HR11.out hb2)
      have HR02 := hide (box_keep HR01.out hb2)
      clear hb2 d0 d1 d2 d3
      obtain ⟨d0, d1, d2, d3⟩ := row4 HR02.out
      go_wp2_with fail
      refine (HBH.out _).mono ?_
      rintro e w3 ⟨rfl, hb3⟩
      have HB3 := hide (Below.trans' HB2.out hb3)
      have hr3 := box_keep HR12.out hb3
      clear hb3 d0 d1 d2 d3
      unfold crV
      have hst := st4_box (gx) (gy) (gu) (gv) hr3
      obtain ⟨f0, f1, f2, f3⟩ := froz4 hr3
      obtain ⟨d0, d1, d2, d3⟩ := row4 hr3
      obtain ⟨j0, j1, j2, j3⟩ := row4 hst
      have hB := hide (st4_below (gx) (gy) (gu) (gv) (b := W.heap.size + 1) HB3.out (by omega))
      have HJ := hide (And.intro j0 (And.intro j1 (And.intro j2 j3)))
      clear hst j0 j1 j2 j3
      go_wp2_with fail
      obtain ⟨j0, j1, j2, j3⟩ := HJ.out
      unfold st4 at j0 j1 j2 j3 hB
      exact bodyPost_ret (v := .tuple #[.agg #[.int .i64 gx, .int .i64 gy, .int .i64 gu, .int .i64 gv], .int .i64 0]) (by simp [results, Tryd.results36, go_sem, j0, j1, j2, j3]) rfl ⟨rfl, hB.out⟩
  · have hR : Hid (mvR ss ⟨x, y, u, v⟩ mv = (Cr.zero, k)) := hide (by unfold mvR; rw [← hk, if_neg h0])
    rw [hR.out]
    clear hk
    go_enter Tryd.func36, Tryd.ntmps36
    go_wp2_with fail
    rw [← hW0]
    clear hW0
    (try go_wp2_with fail)
    refine HCM.out.mono ?_
    rintro e w1 ⟨rfl, hb1⟩
    have HB1 := hide (Below.trans' HB0.out hb1)
    have hr3 := box_keep HR1.out hb1
    clear hb1 d0 d1 d2 d3
    have hst := st4_box (0) (0) (0) (0) hr3
    obtain ⟨f0, f1, f2, f3⟩ := froz4 hr3
    obtain ⟨d0, d1, d2, d3⟩ := row4 hr3
    obtain ⟨j0, j1, j2, j3⟩ := row4 hst
    have hB := hide (st4_below (0) (0) (0) (0) (b := W.heap.size + 1) HB1.out (by omega))
    have HJ := hide (And.intro j0 (And.intro j1 (And.intro j2 j3)))
    clear hst j0 j1 j2 j3
    go_wp2_with fail
    obtain ⟨j0, j1, j2, j3⟩ := HJ.out
    unfold st4 at j0 j1 j2 j3 hB
    exact bodyPost_ret (v := .tuple #[.agg #[.int .i64 0, .int .i64 0, .int .i64 0, .int .i64 0], .int .i64 k]) (by simp [results, Tryd.results36, go_sem, j0, j1, j2, j3]) rfl ⟨rfl, hB.out⟩
end Go.Proofs.YtmoekjgnichgnaaDoor
