/-
  AreEqualGames: both texts against one plain function.
-/
import Derived.Test.YtlgogpphlnogoaaGrundy
import Derived.Test.YtlgogpphlnogoaaPlace
namespace Go.Proofs.Ytlgogpphlnogoaa
open Go.RowKit Go.Shelf

def inB (xss : List (List Int)) (p : Int) : Bool := decide (0 ≤ p ∧ p < xss.length)
theorem isPlaceB_any (a : Option Addr) (c : Nat) (xss : List (List Int)) (p : Int) (w : World) :
    Calls Try.prog 71 #[.agg #[.slice a xss.length c], .int .i64 p] w fun e w' => e = .returned (.bool (inB xss p)) ∧ Below w.heap.size w w' := isPlace_any a c xss.length p w
def grundyAt (xss : List (List Int)) (p : Int) : Int := (valsL 0 mexV xss)[p.toNat]?.getD 0
theorem grundyAt_get {xss : List (List Int)} {p : Nat} (h : p < xss.length) : (valsL 0 mexV xss)[p]? = some (grundyAt xss p) := by
  unfold grundyAt
  have : p < (valsL 0 mexV xss).length := by simpa [valsL] using h
  rw [Int.toNat_natCast, List.getElem?_eq_getElem this]; rfl
def equalR (xss : List (List Int)) (p : Int) (yss : List (List Int)) (q : Int) : Bool × Int :=
  if isGameB xss && isGameB yss then (if inB xss p && inB yss q then (decide (grundyAt xss p = grundyAt yss q), 0) else (false, 2)) else (false, 1)

set_option maxRecDepth 100000 in
set_option maxHeartbeats 2000000 in
theorem implEqual_any (a b : Option Addr) (c d : Nat) (xss yss : List (List Int)) (p q : Int) (w : World) (ha : RowsAt w a xss) (hs : Small xss) (hb : RowsAt w b yss) (ht : Small yss) :
    Calls Try.prog 30 #[.agg #[.slice a xss.length c], .int .i64 p, .agg #[.slice b yss.length d], .int .i64 q] w fun e w' => e = .returned (.tuple #[.bool (equalR xss p yss q).1, .int .i64 (equalR xss p yss q).2]) ∧ Below w.heap.size w w' := by
  have hB0 : Below w.heap.size w ((w.alloc (.cells #[.slice a xss.length c] 29)).alloc (.cells #[.slice b yss.length d] 29)) := ((Below.refl _ _).alloc (Nat.le_refl _) _).alloc (by simp) _
  have hbx : ((w.alloc (.cells #[.slice a xss.length c] 29)).alloc (.cells #[.slice b yss.length d] 29)).cell? ⟨w.heap.size, 0, none⟩ = some (.slice a xss.length c) := by simp [go_sem, World.cell?_alloc_past]
  have hby : ((w.alloc (.cells #[.slice a xss.length c] 29)).alloc (.cells #[.slice b yss.length d] 29)).cell? ⟨w.heap.size + 1, 0, none⟩ = some (.slice b yss.length d) := by simp [go_sem]
  obtain ⟨r, hr⟩ : ∃ r, r = equalR xss p yss q := ⟨_, rfl⟩
  rw [← hr]
  unfold equalR at hr
  cases hg : isGameB xss
  · have HG := hide hg
    rw [hg] at hr
    obtain rfl : r = (false, 1) := by simpa using hr
    clear hr hg
    go_enter Try.func30, Try.ntmps30
    go_wp2_with fail
    refine (implIsGame_any _ _ xss _ (ha.keep hB0) hs).mono ?_
    rw [HG.out]
    rintro e w1 ⟨rfl, hB1⟩
    have hbx1 := cell_keep hB1 hbx
    have hby1 := cell_keep hB1 hby
    go_wp2_with fail
    go_ret2
    exact ⟨rfl, Below.trans' hB0 hB1⟩
  · have HG := hide hg
    cases hh : isGameB yss
    · have HH := hide hh
      rw [hg, hh] at hr
      obtain rfl : r = (false, 1) := by simpa using hr
      clear hr hg hh
      go_enter Try.func30, Try.ntmps30
      go_wp2_with fail
      refine (implIsGame_any _ _ xss _ (ha.keep hB0) hs).mono ?_
      rw [HG.out]
      rintro e w1 ⟨rfl, hB1⟩
      have hbx1 := cell_keep hB1 hbx
      have hby1 := cell_keep hB1 hby
      go_wp2_with fail
      refine (implIsGame_any _ _ yss _ (hb.keep (Below.trans' hB0 hB1)) ht).mono ?_
      rw [HH.out]
      rintro e w2 ⟨rfl, hB2⟩
      have hbx2 := cell_keep hB2 hbx1
      have hby2 := cell_keep hB2 hby1
      clear hbx1 hby1
      go_wp2_with fail
      go_ret2
      exact ⟨rfl, Below.trans' (Below.trans' hB0 hB1) hB2⟩
    · have HH := hide hh
      cases hp : inB xss p
      · have HP := hide hp
        rw [hg, hh, hp] at hr
        obtain rfl : r = (false, 2) := by simpa using hr
        clear hr hg hh hp
        go_enter Try.func30, Try.ntmps30
        go_wp2_with fail
        refine (implIsGame_any _ _ xss _ (ha.keep hB0) hs).mono ?_
        rw [HG.out]
        rintro e w1 ⟨rfl, hB1⟩
        have hbx1 := cell_keep hB1 hbx
        have hby1 := cell_keep hB1 hby
        go_wp2_with fail
        refine (implIsGame_any _ _ yss _ (hb.keep (Below.trans' hB0 hB1)) ht).mono ?_
        rw [HH.out]
        rintro e w2 ⟨rfl, hB2⟩
        have hbx2 := cell_keep hB2 hbx1
        have hby2 := cell_keep hB2 hby1
        clear hbx1 hby1
        go_wp2_with fail
        refine (isPlaceB_any _ _ xss _ _).mono ?_
        rw [HP.out]
        rintro e w3 ⟨rfl, hB3⟩
        have hbx3 := cell_keep hB3 hbx2
        have hby3 := cell_keep hB3 hby2
        clear hbx2 hby2
        go_wp2_with fail
        go_ret2
        exact ⟨rfl, Below.trans' (Below.trans' (Below.trans' hB0 hB1) hB2) hB3⟩
      · have HP := hide hp
        cases hq : inB yss q
        · have HQ := hide hq
          rw [hg, hh, hp, hq] at hr
          obtain rfl : r = (false, 2) := by simpa using hr
          clear hr hg hh hp hq
          go_enter Try.func30, Try.ntmps30
          go_wp2_with fail
          refine (implIsGame_any _ _ xss _ (ha.keep hB0) hs).mono ?_
          rw [HG.out]
          rintro e w1 ⟨rfl, hB1⟩
          have hbx1 := cell_keep hB1 hbx
          have hby1 := cell_keep hB1 hby
          go_wp2_with fail
          refine (implIsGame_any _ _ yss _ (hb.keep (Below.trans' hB0 hB1)) ht).mono ?_
          rw [HH.out]
          rintro e w2 ⟨rfl, hB2⟩
          have hbx2 := cell_keep hB2 hbx1
          have hby2 := cell_keep hB2 hby1
          clear hbx1 hby1
          go_wp2_with fail
          refine (isPlaceB_any _ _ xss _ _).mono ?_
          rw [HP.out]
          rintro e w3 ⟨rfl, hB3⟩
          have hbx3 := cell_keep hB3 hbx2
          have hby3 := cell_keep hB3 hby2
          clear hbx2 hby2
          go_wp2_with fail
          refine (isPlaceB_any _ _ yss _ _).mono ?_
          rw [HQ.out]
          rintro e w4 ⟨rfl, hB4⟩
          have hbx4 := cell_keep hB4 hbx3
          have hby4 := cell_keep hB4 hby3
          clear hbx3 hby3
          go_wp2_with fail
          go_ret2
          exact ⟨rfl, Below.trans' (Below.trans' (Below.trans' (Below.trans' hB0 hB1) hB2) hB3) hB4⟩
        · have HQ := hide hq
          rw [hg, hh, hp, hq] at hr
          obtain rfl : r = (decide (grundyAt xss p = grundyAt yss q), 0) := by simpa using hr
          obtain ⟨hp0, hp1⟩ := of_decide_eq_true hp
          obtain ⟨hq0, hq1⟩ := of_decide_eq_true hq
          obtain ⟨pn, rfl⟩ := Int.eq_ofNat_of_zero_le hp0
          obtain ⟨qn, rfl⟩ := Int.eq_ofNat_of_zero_le hq0
          have hpn : pn < xss.length := by omega
          have hqn : qn < yss.length := by omega
          obtain ⟨u, hu⟩ : ∃ u, u = grundyAt xss pn := ⟨_, rfl⟩
          obtain ⟨v, hv⟩ : ∃ v, v = grundyAt yss qn := ⟨_, rfl⟩
          have HGX : (valsL 0 mexV xss)[pn]? = some u := by rw [hu]; exact grundyAt_get hpn
          have HGY : (valsL 0 mexV yss)[qn]? = some v := by rw [hv]; exact grundyAt_get hqn
          have hxl : pn < (valsL 0 mexV xss).length := by simpa [valsL] using hpn
          have hyl : qn < (valsL 0 mexV yss).length := by simpa [valsL] using hqn
          rw [← hu, ← hv]
          have HX := hide HGX
          have HY := hide HGY
          clear hu hv HGX HGY hr hg hh hp hq
          go_enter Try.func30, Try.ntmps30
          go_wp2_with fail
          refine (implIsGame_any _ _ xss _ (ha.keep hB0) hs).mono ?_
          rw [HG.out]
          rintro e w1 ⟨rfl, hB1⟩
          have hbx1 := cell_keep hB1 hbx
          have hby1 := cell_keep hB1 hby
          go_wp2_with fail
          refine (implIsGame_any _ _ yss _ (hb.keep (Below.trans' hB0 hB1)) ht).mono ?_
          rw [HH.out]
          rintro e w2 ⟨rfl, hB2⟩
          have hbx2 := cell_keep hB2 hbx1
          have hby2 := cell_keep hB2 hby1
          clear hbx1 hby1
          go_wp2_with fail
          refine (isPlaceB_any _ _ xss _ _).mono ?_
          rw [HP.out]
          rintro e w3 ⟨rfl, hB3⟩
          have hbx3 := cell_keep hB3 hbx2
          have hby3 := cell_keep hB3 hby2
          clear hbx2 hby2
          go_wp2_with fail
          refine (isPlaceB_any _ _ yss _ _).mono ?_
          rw [HQ.out]
          rintro e w4 ⟨rfl, hB4⟩
          have hbx4 := cell_keep hB4 hbx3
          have hby4 := cell_keep hB4 hby3
          clear hbx3 hby3
          go_wp2_with fail
          have hB40 := Below.trans' (Below.trans' (Below.trans' (Below.trans' hB0 hB1) hB2) hB3) hB4
          have hd4 : Below w4.heap.size w4 w4.drew := Below.drew (Below.refl _ _)
          have hBd := Below.trans' hB40 hd4
          have hxd := cell_keep hd4 hbx4
          have hyd := cell_keep hd4 hby4
          have had := ha.keep hBd
          have hbd := hb.keep hBd
          clear hB0 hB1 hB2 hB3 hB4 hbx hby hbx4 hby4 hd4 hB40
          have hcA : ∀ W, Below w4.drew.heap.size w4.drew W → Calls Try.prog 72 #[.agg #[.slice a xss.length c], .func (.func 73) #[] #[]] W (NewInts (valsL 0 mexV xss) W) := fun W hW =>
            valuesBy_any 73 #[] mexV MexG a c xss W (had.keep hW) hs HG.out (enters_of Try.func73 (by kernel_rfl) rfl) mexG_zero mexV_good (fun a c vs W _ hi hl hg => by rw [Array.append_empty]; exact implMex_any a c vs W hi (by omega) (mexG_i64s hg))
          have hcB : ∀ W, Below w4.drew.heap.size w4.drew W → Calls Try.prog 72 #[.agg #[.slice b yss.length d], .func (.func 73) #[] #[]] W (NewInts (valsL 0 mexV yss) W) := fun W hW =>
            valuesBy_any 73 #[] mexV MexG b d yss W (hbd.keep hW) ht HH.out (enters_of Try.func73 (by kernel_rfl) rfl) mexG_zero mexV_good (fun a c vs W _ hi hl hg => by rw [Array.append_empty]; exact implMex_any a c vs W hi (by omega) (mexG_i64s hg))
          have HA := hide hcA
          have HB := hide hcB
          have hr0 : Below w4.drew.heap.size w4.drew w4.drew := Below.refl _ _
          clear hcA hcB had hbd
          go_region_with (first | (go_at_call 72; (with_reducible refine (HA.out _ hr0).mono ?_); rintro e w5 ⟨g5, c5, rfl, ho5, hB5⟩; obtain ⟨b5, o5, z5, e5, hc5, hz5⟩ := (intsAt_of_ownsRow ho5).one hxl; cases e5; rw [Nat.zero_add] at hc5; have hy5 := cell_keep hB5 hyd; have hx5 := cell_keep hB5 hxd; obtain rfl : z5 = u := (by have h1 := HX.out; rw [hz5.out] at h1; exact Option.some.inj h1); clear ho5) | (go_at_call 72; (with_reducible refine (HB.out _ hB5).mono ?_); rintro e w6 ⟨g6, c6, rfl, ho6, hB6⟩; obtain ⟨b6, o6, z6, e6, hc6, hz6⟩ := (intsAt_of_ownsRow ho6).one hyl; cases e6; rw [Nat.zero_add] at hc6; have hc56 := cell_keep hB6 hc5; obtain rfl : z6 = v := (by have h1 := HY.out; rw [hz6.out] at h1; exact Option.some.inj h1); clear ho6))
          all_goals
            go_wp2_with fail
            go_ret2
            refine ⟨?_, Below.trans' (Below.trans' hBd hB5) hB6⟩
            first | rfl | (simp; done)
end Go.Proofs.Ytlgogpphlnogoaa
