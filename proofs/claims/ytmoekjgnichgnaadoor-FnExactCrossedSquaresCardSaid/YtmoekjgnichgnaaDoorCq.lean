/-
  CrossedSquares, the model's text.
-/
import Derived.Test.YtmoekjgnichgnaaDoorCr
import Derived.Deep.Cut
namespace Go.Proofs.YtmoekjgnichgnaaDoor
open Go.RowKit
set_option linter.unusedVariables false

set_option maxRecDepth 100000 in
set_option maxHeartbeats 8000000 in
theorem specCrossedSquares_any (a : Option Addr) (c : Nat) (ss : List ByteArray) (x y u v mv : Int) (W : World) (ha : StrsAt W a ss) (hl : ss.length ≤ 1048576) (hz : ∀ s ∈ ss, s.size ≤ 1048576) :
    Calls Tryd.prog 23 #[.slice a ss.length c, .agg #[.int .i64 x, .int .i64 y, .int .i64 u, .int .i64 v], .int .i64 mv] W (NewRows (csR ss ⟨x, y, u, v⟩ mv) W) := by
  obtain ⟨W0, hW0, hb0, hr0⟩ := carBox W x y u v
  have HB0 := hide hb0
  have HA := hide (ha.keep hb0)
  have HR0 := hide hr0
  have HCC := hide (l08Car_any a c ss x y u v mv W0 HA.out hl hz)
  obtain ⟨d0, d1, d2, d3⟩ := row4 hr0
  rw [hW0] at d0 d1 d2 d3
  obtain ⟨k, hk⟩ : ∃ k, k = movC ss ⟨x, y, u, v⟩ mv := ⟨_, rfl⟩
  rw [← hk] at HCC
  by_cases h0 : k = 0
  · subst h0
    obtain ⟨hcar, hm0, hm8⟩ := movC_zero hk.symm
    obtain ⟨htk, hok⟩ := carC_zero hcar
    have hs := trk_shp htk
    have hnr := nu_rg hs hok hm0 hm8
    obtain ⟨⟨x0, x1⟩, ⟨y0, y1⟩, ⟨u0, u1⟩, ⟨v0, v1⟩⟩ := okCr_rg hs hok
    dsimp only at x0 x1 y0 y1 u0 u1 v0 v1
    obtain ⟨q, hq⟩ : ∃ q, q = mv / 3 := ⟨_, rfl⟩
    obtain ⟨r, hr⟩ : ∃ r, r = mv % 3 := ⟨_, rfl⟩
    have hq0 : 0 ≤ q ∧ q ≤ 2 := by omega
    have hrr : 0 ≤ r ∧ r ≤ 2 := by omega
    have hqw : mv.tdiv 3 = q := by rw [hq]; exact Int.tdiv_eq_ediv_of_nonneg hm0
    have hrw : mv.tmod 3 = r := by rw [hr]; exact Int.tmod_eq_emod_of_nonneg hm0
    obtain ⟨q0, q1⟩ := hq0
    obtain ⟨r0, r1⟩ := hrr
    have hnu : (⟨x, y, u, v⟩ : Cr).nu mv = u + q - 1 := by unfold Cr.nu; rw [hq]
    have hnv : (⟨x, y, u, v⟩ : Cr).nv mv = v + r - 1 := by unfold Cr.nv; rw [hr]
    have hfin : Hid (csR ss ⟨x, y, u, v⟩ mv = ((crs x y (u + q - 1) (v + r - 1)).map two, 0)) := hide (by unfold csR; rw [if_pos hk.symm, hnu, hnv])
    rw [hfin.out]
    have HCR := hide (fun V => l08Crossed_any x y u v (u + q - 1) (v + r - 1) (by unfold Rg; omega) (by unfold Rg; omega) (by omega) (by omega) V)
    obtain ⟨xss, hxs⟩ : ∃ xss, xss = (crs x y (u + q - 1) (v + r - 1)).map two := ⟨_, rfl⟩
    rw [← hxs] at HCR ⊢
    clear ha hr0 hb0 hl hz hk htk hcar hq hr hnu hnv hnr hxs
    go_enter Tryd.func23, Tryd.ntmps23
    go_wp2_with fail
    rw [← hW0]
    clear hW0
    (try go_wp2_with fail)
    refine HCC.out.mono ?_
    rintro e w1 ⟨rfl, hb1⟩
    have HB1 := hide (Below.trans' HB0.out hb1)
    have HR1 := hide (box_keep HR0.out hb1)
    clear hb1 d0 d1 d2 d3
    obtain ⟨d0, d1, d2, d3⟩ := row4 HR1.out
    go_wp2_with fail
    refine (HCR.out _).mono ?_
    rintro e w2 ⟨a2, c2, vs, rfl, ho2, hb2⟩
    have HF : Hid (NewRows (xss, 0) W (.returned (.tuple #[.slice a2 xss.length c2, .int .i64 0])) w2) := hide ⟨a2, c2, vs, rfl, ho2.base HB1.out.size, Below.trans' HB1.out hb2⟩
    clear ho2 hb2
    go_wp2_with fail
    go_ret2
    exact HF.out
  · have hfin : Hid (csR ss ⟨x, y, u, v⟩ mv = ([], k)) := hide (by unfold csR; rw [if_neg (by rw [← hk]; exact h0), hk])
    rw [hfin.out]
    clear ha hr0 hb0 hl hz hk
    go_enter Tryd.func23, Tryd.ntmps23
    go_wp2_with fail
    rw [← hW0]
    clear hW0
    (try go_wp2_with fail)
    refine HCC.out.mono ?_
    rintro e w1 ⟨rfl, hb1⟩
    have hfin2 := hide (newRows_nil W w1 k (Below.trans' HB0.out hb1))
    clear hb1 d0 d1 d2 d3
    go_wp2_with fail
    go_ret2
    exact hfin2.out
end Go.Proofs.YtmoekjgnichgnaaDoor
