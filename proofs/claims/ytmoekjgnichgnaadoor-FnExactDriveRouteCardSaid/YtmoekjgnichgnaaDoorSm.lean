/-
  Open moves, the model's text: l08Move.
-/
import Derived.Test.YtmoekjgnichgnaaDoorSc
import Derived.Test.YtmoekjgnichgnaaDoorMv
namespace Go.Proofs.YtmoekjgnichgnaaDoor
open Go.RowKit
set_option linter.unusedVariables false

theorem own_block {w : World} {base n c : Nat} {e : TypeId} {a : Option Addr} {xs : List Value} (h : w.ownsRow base e 1 (.slice a n c) n xs) (hp : 0 < xs.length) : ∃ g, a = some ⟨g, 0, none⟩ ∧ ∀ i, i < n → w.cell? ⟨g, i, none⟩ = xs[i]? := by
  have hl := h.1
  rcases h.2 with ⟨_, hn⟩ | ⟨g, cap, cur, hv, _⟩
  · omega
  · have hv' := hv
    simp only [Value.slice.injEq] at hv
    obtain ⟨rfl, _⟩ := hv
    exact ⟨g, rfl, fun i hi => h.cellAt i (by omega)⟩
/-- A square of a list of squares, in memory. -/
theorem RowsO.get2 {B : Nat} {w : World} {a : Option Addr} {c : Nat} {vs : List Value} {L : List (Int × Int)} (h : RowsO B w (.slice a (L.map two).length c) vs (L.map two)) {i : Nat} {p q : Int} (hi : L[i]? = some (p, q)) :
    ∃ g b c', a = some ⟨g, 0, none⟩ ∧ w.cell? ⟨g, i, none⟩ = some (.slice (some ⟨b, 0, none⟩) 2 c') ∧ w.cell? ⟨b, 0, none⟩ = some (.int .i64 p) ∧ w.cell? ⟨b, 1, none⟩ = some (.int .i64 q) := by
  have hlt := (List.getElem?_eq_some_iff.1 hi).1
  have hx : (L.map two)[i]? = some [p, q] := by rw [List.getElem?_map, hi]; rfl
  have hvl : i < vs.length := by rw [h.l.len, List.length_map]; exact hlt
  have hv : vs[i]? = some vs[i] := List.getElem?_eq_getElem hvl
  have h3 := h.l.rows i _ _ hv hx
  obtain ⟨a', c', e⟩ := own_form h3
  obtain ⟨g, hg, hcells⟩ := own_block h.l.own (by omega)
  rw [e] at h3 hv
  obtain ⟨b, hb, hc2⟩ := own_block h3 (by simp)
  refine ⟨g, b, c', hg, ?_, hc2 0 (by simp), hc2 1 (by simp)⟩
  rw [hcells i (by rw [List.length_map]; exact hlt), hv, hb]
  rfl
def mvS (ss : List ByteArray) (c : Cr) (mv : Int) : Cr × Bool := if opn ss c mv = true then (c.go mv, true) else (Cr.zero, false)

set_option maxRecDepth 100000 in
set_option maxHeartbeats 8000000 in
theorem l08Move_any (a : Option Addr) (c : Nat) (ss : List ByteArray) (x y u v mv : Int) (W : World) (ha : StrsAt W a ss) (hs : shp ss = true) (hok : okCr ss ⟨x, y, u, v⟩ = true) (h0 : 0 ≤ mv) (h8 : mv ≤ 8) :
    Calls Tryd.prog 64 #[.slice a ss.length c, .agg #[.int .i64 x, .int .i64 y, .int .i64 u, .int .i64 v], .int .i64 mv] W (RetB (.tuple #[crV (mvS ss ⟨x, y, u, v⟩ mv).1, .bool (mvS ss ⟨x, y, u, v⟩ mv).2]) W) := by
  obtain ⟨⟨x0, x1⟩, ⟨y0, y1⟩, ⟨u0, u1⟩, ⟨v0, v1⟩⟩ := okCr_rg hs hok
  dsimp only at x0 x1 y0 y1 u0 u1 v0 v1
  obtain ⟨W0, hW0, hb0, hr0, hr1⟩ := carBox2 W x y u v
  have HB0 := hide hb0
  have HA := hide (ha.keep hb0)
  have HR0 := hide hr0
  have HR1 := hide hr1
  obtain ⟨d0, d1, d2, d3⟩ := row4 hr0
  obtain ⟨q, hq⟩ : ∃ q, q = mv / 3 := ⟨_, rfl⟩
  obtain ⟨r, hr⟩ : ∃ r, r = mv % 3 := ⟨_, rfl⟩
  have hq0 : 0 ≤ q ∧ q ≤ 2 := by omega
  have hrr : 0 ≤ r ∧ r ≤ 2 := by omega
  have hqw : mv.tdiv 3 = q := by rw [hq]; exact Int.tdiv_eq_ediv_of_nonneg h0
  have hrw : mv.tmod 3 = r := by rw [hr]; exact Int.tmod_eq_emod_of_nonneg h0
  obtain ⟨q0, q1⟩ := hq0
  obtain ⟨r0, r1⟩ := hrr
  have hgo : (⟨x, y, u, v⟩ : Cr).go mv = ⟨x + (u + q - 1), y + (v + r - 1), u + q - 1, v + r - 1⟩ := by
    unfold Cr.go Cr.nu Cr.nv
    rw [hq, hr]
  have hop : opn ss ⟨x, y, u, v⟩ mv = (okCr ss ⟨x + (u + q - 1), y + (v + r - 1), u + q - 1, v + r - 1⟩ && (crs x y (u + q - 1) (v + r - 1)).all fun p => freeB ss p.1 p.2) := by
    unfold opn
    rw [hgo]
    unfold Cr.nu Cr.nv
    rw [← hq, ← hr]
  have hokp : okCr ss ⟨x + (u + q - 1), y + (v + r - 1), u + q - 1, v + r - 1⟩ = (freeB ss (x + (u + q - 1)) (y + (v + r - 1)) && (inI (u + q - 1) (-5) 5 && inI (v + r - 1) (-5) 5)) := rfl
  rw [hokp] at hop
  clear ha hr0 hr1 hb0 hq hr hokp
  cases hu : inI (u + q - 1) (-5) 5
  · have HU := hide hu
    have hR : Hid (mvS ss ⟨x, y, u, v⟩ mv = (Cr.zero, false)) := hide (by unfold mvS; rw [hop, hu, Bool.false_and, Bool.and_false, Bool.false_and]; rfl)
    rw [hR.out]
    clear hu hop hgo hok
    go_enter Tryd.func64, Tryd.ntmps64
    go_wp2_with fail
    rw [← hW0]
    clear hW0
    (try go_wp2_with fail)
    go_quiet (fail)
    obtain ⟨W1, hW1⟩ : ∃ W1, W1 = W0.drewN nq := ⟨_, rfl⟩
    have hb01 : Below W0.heap.size W0 W1 := by rw [hW1]; exact Quiet.below (Quiet.drewN (Quiet.refl _) _)
    rw [← hW1]
    clear hW1 d0 d1 d2 d3
    have HB1 := hide (Below.trans' HB0.out hb01)
    have HA1 := hide (HA.out.keep hb01)
    have HR01 := hide (box_keep HR0.out hb01)
    have HR11 := hide (box_keep HR1.out hb01)
    clear hb01
    go_wp2_with fail
    refine (inI_is HU.out _).mono ?_
    rintro e w2 ⟨rfl, hb2⟩
    have HB2 := hide (Below.trans' HB1.out hb2)
    have HA2 := hide (HA1.out.keep hb2)
    have HR02 := hide (box_keep HR01.out hb2)
    have HR12 := hide (box_keep HR11.out hb2)
    clear hb2
    have hst := st4_box (0) (0) (0) (0) HR12.out
    obtain ⟨f0, f1, f2, f3⟩ := froz4 HR12.out
    obtain ⟨e0, e1, e2, e3⟩ := row4 HR12.out
    obtain ⟨j0, j1, j2, j3⟩ := row4 hst
    have hB := hide (st4_below (0) (0) (0) (0) (b := W.heap.size + 1) HB2.out (by omega))
    have HJ := hide (And.intro j0 (And.intro j1 (And.intro j2 j3)))
    clear hst j0 j1 j2 j3
    go_wp2_with fail
    obtain ⟨j0, j1, j2, j3⟩ := HJ.out
    unfold st4 at j0 j1 j2 j3 hB
    exact bodyPost_ret (v := .tuple #[.agg #[.int .i64 0, .int .i64 0, .int .i64 0, .int .i64 0], .bool false]) (by simp [results, Tryd.results64, go_sem, j0, j1, j2, j3]) rfl ⟨rfl, hB.out⟩
  cases hv : inI (v + r - 1) (-5) 5
  · have HU := hide hu
    have HV := hide hv
    have hR : Hid (mvS ss ⟨x, y, u, v⟩ mv = (Cr.zero, false)) := hide (by unfold mvS; rw [hop, hv, Bool.and_false, Bool.and_false, Bool.false_and]; rfl)
    rw [hR.out]
    clear hu hv hop hgo hok
    go_enter Tryd.func64, Tryd.ntmps64
    go_wp2_with fail
    rw [← hW0]
    clear hW0
    (try go_wp2_with fail)
    go_quiet (fail)
    obtain ⟨W1, hW1⟩ : ∃ W1, W1 = W0.drewN nq := ⟨_, rfl⟩
    have hb01 : Below W0.heap.size W0 W1 := by rw [hW1]; exact Quiet.below (Quiet.drewN (Quiet.refl _) _)
    rw [← hW1]
    clear hW1 d0 d1 d2 d3
    have HB1 := hide (Below.trans' HB0.out hb01)
    have HA1 := hide (HA.out.keep hb01)
    have HR01 := hide (box_keep HR0.out hb01)
    have HR11 := hide (box_keep HR1.out hb01)
    clear hb01
    go_wp2_with fail
    refine (inI_is HU.out _).mono ?_
    rintro e w2 ⟨rfl, hb2⟩
    have HB2 := hide (Below.trans' HB1.out hb2)
    have HA2 := hide (HA1.out.keep hb2)
    have HR02 := hide (box_keep HR01.out hb2)
    have HR12 := hide (box_keep HR11.out hb2)
    clear hb2

    go_wp2_with fail
    refine (inI_is HV.out _).mono ?_
    rintro e w3 ⟨rfl, hb3⟩
    have HB3 := hide (Below.trans' HB2.out hb3)
    have HA3 := hide (HA2.out.keep hb3)
    have HR03 := hide (box_keep HR02.out hb3)
    have HR13 := hide (box_keep HR12.out hb3)
    clear hb3
    have hst := st4_box (0) (0) (0) (0) HR13.out
    obtain ⟨f0, f1, f2, f3⟩ := froz4 HR13.out
    obtain ⟨e0, e1, e2, e3⟩ := row4 HR13.out
    obtain ⟨j0, j1, j2, j3⟩ := row4 hst
    have hB := hide (st4_below (0) (0) (0) (0) (b := W.heap.size + 1) HB3.out (by omega))
    have HJ := hide (And.intro j0 (And.intro j1 (And.intro j2 j3)))
    clear hst j0 j1 j2 j3
    go_wp2_with fail
    obtain ⟨j0, j1, j2, j3⟩ := HJ.out
    unfold st4 at j0 j1 j2 j3 hB
    exact bodyPost_ret (v := .tuple #[.agg #[.int .i64 0, .int .i64 0, .int .i64 0, .int .i64 0], .bool false]) (by simp [results, Tryd.results64, go_sem, j0, j1, j2, j3]) rfl ⟨rfl, hB.out⟩
  cases hf : freeB ss (x + (u + q - 1)) (y + (v + r - 1))
  · have HU := hide hu
    have HV := hide hv
    have HF := hide hf
    have hR : Hid (mvS ss ⟨x, y, u, v⟩ mv = (Cr.zero, false)) := hide (by unfold mvS; rw [hop, hf]; rfl)
    rw [hR.out]
    clear hu hv hf hop hgo hok
    go_enter Tryd.func64, Tryd.ntmps64
    go_wp2_with fail
    rw [← hW0]
    clear hW0
    (try go_wp2_with fail)
    go_quiet (fail)
    obtain ⟨W1, hW1⟩ : ∃ W1, W1 = W0.drewN nq := ⟨_, rfl⟩
    have hb01 : Below W0.heap.size W0 W1 := by rw [hW1]; exact Quiet.below (Quiet.drewN (Quiet.refl _) _)
    rw [← hW1]
    clear hW1 d0 d1 d2 d3
    have HB1 := hide (Below.trans' HB0.out hb01)
    have HA1 := hide (HA.out.keep hb01)
    have HR01 := hide (box_keep HR0.out hb01)
    have HR11 := hide (box_keep HR1.out hb01)
    clear hb01
    go_wp2_with fail
    refine (inI_is HU.out _).mono ?_
    rintro e w2 ⟨rfl, hb2⟩
    have HB2 := hide (Below.trans' HB1.out hb2)
    have HA2 := hide (HA1.out.keep hb2)
    have HR02 := hide (box_keep HR01.out hb2)
    have HR12 := hide (box_keep HR11.out hb2)
    clear hb2

    go_wp2_with fail
    refine (inI_is HV.out _).mono ?_
    rintro e w3 ⟨rfl, hb3⟩
    have HB3 := hide (Below.trans' HB2.out hb3)
    have HA3 := hide (HA2.out.keep hb3)
    have HR03 := hide (box_keep HR02.out hb3)
    have HR13 := hide (box_keep HR12.out hb3)
    clear hb3

    obtain ⟨d0, d1, d2, d3⟩ := row4 HR03.out
    go_wp2_with fail
    refine (l08Free_is HF.out HA3.out hs).mono ?_
    rintro e w4 ⟨rfl, hb4⟩
    have HB4 := hide (Below.trans' HB3.out hb4)
    have HA4 := hide (HA3.out.keep hb4)
    have HR04 := hide (box_keep HR03.out hb4)
    have HR14 := hide (box_keep HR13.out hb4)
    clear hb4 d0 d1 d2 d3
    have hst := st4_box (0) (0) (0) (0) HR14.out
    obtain ⟨f0, f1, f2, f3⟩ := froz4 HR14.out
    obtain ⟨e0, e1, e2, e3⟩ := row4 HR14.out
    obtain ⟨j0, j1, j2, j3⟩ := row4 hst
    have hB := hide (st4_below (0) (0) (0) (0) (b := W.heap.size + 1) HB4.out (by omega))
    have HJ := hide (And.intro j0 (And.intro j1 (And.intro j2 j3)))
    clear hst j0 j1 j2 j3
    go_wp2_with fail
    obtain ⟨j0, j1, j2, j3⟩ := HJ.out
    unfold st4 at j0 j1 j2 j3 hB
    exact bodyPost_ret (v := .tuple #[.agg #[.int .i64 0, .int .i64 0, .int .i64 0, .int .i64 0], .bool false]) (by simp [results, Tryd.results64, go_sem, j0, j1, j2, j3]) rfl ⟨rfl, hB.out⟩
  have HU := hide hu
  have HV := hide hv
  have HF := hide hf
  obtain ⟨nu, hnu⟩ : ∃ nu, nu = u + q - 1 := ⟨_, rfl⟩
  obtain ⟨nv, hnv⟩ : ∃ nv, nv = v + r - 1 := ⟨_, rfl⟩
  obtain ⟨L, hL⟩ : ∃ L, L = crs x y (u + q - 1) (v + r - 1) := ⟨_, rfl⟩
  have hop2 : opn ss ⟨x, y, u, v⟩ mv = L.all fun p => freeB ss p.1 p.2 := by rw [hop, hf, hu, hv, hL]; rfl
  have HCR := hide (fun V => l08Crossed_any x y u v (u + q - 1) (v + r - 1) (by unfold Rg; omega) (by unfold Rg; omega) (by omega) (by omega) V)
  rw [← hL] at HCR
  have hLl : L.length ≤ 6 := by
    rw [hL, crs_len]
    have := spd_le (u := u + q - 1) (v := v + r - 1) (by omega) (by omega)
    omega
  have HGO := hide hgo
  have HOP := hide hop2
  clear hu hv hf hop hgo hok hL hop2 hnu hnv
  go_enter Tryd.func64, Tryd.ntmps64
  go_wp2_with fail
  rw [← hW0]
  clear hW0
  (try go_wp2_with fail)
  go_quiet (fail)
  obtain ⟨W1, hW1⟩ : ∃ W1, W1 = W0.drewN nq := ⟨_, rfl⟩
  have hb01 : Below W0.heap.size W0 W1 := by rw [hW1]; exact Quiet.below (Quiet.drewN (Quiet.refl _) _)
  rw [← hW1]
  clear hW1 d0 d1 d2 d3
  have HB1 := hide (Below.trans' HB0.out hb01)
  have HA1 := hide (HA.out.keep hb01)
  have HR01 := hide (box_keep HR0.out hb01)
  have HR11 := hide (box_keep HR1.out hb01)
  clear hb01
  go_wp2_with fail
  refine (inI_is HU.out _).mono ?_
  rintro e w2 ⟨rfl, hb2⟩
  have HB2 := hide (Below.trans' HB1.out hb2)
  have HA2 := hide (HA1.out.keep hb2)
  have HR02 := hide (box_keep HR01.out hb2)
  have HR12 := hide (box_keep HR11.out hb2)
  clear hb2

  go_wp2_with fail
  refine (inI_is HV.out _).mono ?_
  rintro e w3 ⟨rfl, hb3⟩
  have HB3 := hide (Below.trans' HB2.out hb3)
  have HA3 := hide (HA2.out.keep hb3)
  have HR03 := hide (box_keep HR02.out hb3)
  have HR13 := hide (box_keep HR12.out hb3)
  clear hb3

  obtain ⟨d0, d1, d2, d3⟩ := row4 HR03.out
  go_wp2_with fail
  refine (l08Free_is HF.out HA3.out hs).mono ?_
  rintro e w4 ⟨rfl, hb4⟩
  have HB4 := hide (Below.trans' HB3.out hb4)
  have HA4 := hide (HA3.out.keep hb4)
  have HR04 := hide (box_keep HR03.out hb4)
  have HR14 := hide (box_keep HR13.out hb4)
  clear hb4 d0 d1 d2 d3
  obtain ⟨d0, d1, d2, d3⟩ := row4 HR04.out
  go_wp2_with fail
  refine (HCR.out _).mono ?_
  rintro e w5 ⟨a5, c5, vs5, rfl, ho5, hb5⟩
  have HO5 := hide ho5
  have HB5 := hide (Below.trans' HB4.out hb5)
  have HA5 := hide (HA4.out.keep hb5)
  have HR05 := hide (box_keep HR04.out hb5)
  have HR15 := hide (box_keep HR14.out hb5)
  obtain ⟨nL, hnL⟩ : ∃ nL, nL = (L.map two).length := ⟨_, rfl⟩
  have HNL := hide hnL
  have hnl6 : nL ≤ 6 := by rw [hnL, List.length_map]; exact hLl
  have hnLL : Hid (nL = L.length) := hide (by rw [hnL, List.length_map])
  rw [← hnL]
  clear hb5 ho5 d0 d1 d2 d3 hnL
  go_wp2_with fail
  go_loopw [11] (fun v11 wr => ∃ k : Nat, v11 = .int .i64 k ∧ k ≤ nL ∧ Hid (((L.take k).all fun p => freeB ss p.1 p.2) = true) ∧ Hid (Below w5.heap.size w5 wr)) (fun v11 _ => nL - (intOf v11).toNat)
  case atStart => exact ⟨0, rfl, Nat.zero_le _, hide rfl, hide (Below.refl _ _)⟩
  case round =>
    obtain ⟨k, rfl, hk, hall, HB⟩ := hrel
    by_cases hlt : k < nL
    · obtain ⟨⟨X, Y⟩, hX⟩ : ∃ p, L[k]? = some p := ⟨_, List.getElem?_eq_getElem (by rw [← hnLL.out]; exact hlt)⟩
      obtain ⟨g, b, c', rfl, e1, e2, e3⟩ := HO5.out.get2 hX
      have HBB := HB.out
      have p1 : ∀ p : Past wr, p.to.cell? ⟨g, k, none⟩ = some (.slice (some ⟨b, 0, none⟩) 2 c') := fun p => p.cell (cell_keep HBB e1)
      have p2 : ∀ p : Past wr, p.to.cell? ⟨b, 0, none⟩ = some (.int .i64 X) := fun p => p.cell (cell_keep HBB e2)
      have p3 : ∀ p : Past wr, p.to.cell? ⟨b, 1, none⟩ = some (.int .i64 Y) := fun p => p.cell (cell_keep HBB e3)
      have HA6 := hide (HA5.out.keep HBB)
      cases hf : freeB ss X Y
      · have HLF : Hid (∀ p : Past wr, Calls Tryd.prog 104 #[.slice a ss.length c, .int .i64 X, .int .i64 Y] p.to (RetB (.bool false) p.to)) := hide (fun p => l08Free_is hf (HA6.out.keep p.old) hs)
        have hR : Hid (mvS ss ⟨x, y, u, v⟩ mv = (Cr.zero, false)) := hide (by
          unfold mvS
          have : (L.all fun p => freeB ss p.1 p.2) = false := by
            rw [List.all_eq_false]
            exact ⟨(X, Y), List.mem_of_getElem? hX, by rw [hf]; simp⟩
          rw [HOP.out, this]
          rfl)
        clear hX hf e1 e2 e3 HBB
        go_wp2_with fail
        refine wp_region_past (by kernel_rfl) (by kernel_rfl) ?_
        repeat (first | go_big_quiet_step ((go_at_call 104; (with_reducible exact ret_past (HLF.out _)))) | quiet_step ((go_at_call 104; (with_reducible exact ret_past (HLF.out _)))))
        refine wpQuiet_nil ?_
        rintro _ ⟨pq, rfl⟩
        have hb9 := Below.trans' HB.out pq.old
        have HB9 := hide (Below.trans' HB5.out hb9)
        have hr9 := box_keep HR15.out hb9
        clear p1 p2 p3 hb9
        have hst := st4_box (0) (0) (0) (0) hr9
        obtain ⟨f0, f1, f2, f3⟩ := froz4 hr9
        obtain ⟨e0, e1, e2, e3⟩ := row4 hr9
        obtain ⟨j0, j1, j2, j3⟩ := row4 hst
        have hB := hide (st4_below (0) (0) (0) (0) (b := W.heap.size + 1) HB9.out (by omega))
        have HJ := hide (And.intro j0 (And.intro j1 (And.intro j2 j3)))
        clear hst j0 j1 j2 j3
        go_wp2_with fail
        obtain ⟨j0, j1, j2, j3⟩ := HJ.out
        unfold st4 at j0 j1 j2 j3 hB
        exact bodyPost_ret (v := .tuple #[.agg #[.int .i64 0, .int .i64 0, .int .i64 0, .int .i64 0], .bool false]) (by simp [results, Tryd.results64, go_sem, j0, j1, j2, j3]) rfl ⟨by rw [hR.out]; rfl, hB.out⟩
      · have HLF : Hid (∀ p : Past wr, Calls Tryd.prog 104 #[.slice a ss.length c, .int .i64 X, .int .i64 Y] p.to (RetB (.bool true) p.to)) := hide (fun p => l08Free_is hf (HA6.out.keep p.old) hs)
        have hnx : Hid (((L.take (k + 1)).all fun p => freeB ss p.1 p.2) = true) := hide (by
          rw [List.take_add_one, hX, List.all_append, hall.out]
          simp [hf])
        clear hX hf e1 e2 e3 HBB
        go_wp2_with fail
        refine wp_region_past (by kernel_rfl) (by kernel_rfl) ?_
        repeat (first | go_big_quiet_step ((go_at_call 104; (with_reducible exact ret_past (HLF.out _)))) | quiet_step ((go_at_call 104; (with_reducible exact ret_past (HLF.out _)))))
        refine wpQuiet_nil ?_
        rintro _ ⟨pq, rfl⟩
        have HB9 := hide (Below.trans' HB.out pq.old)
        clear p1 p2 p3
        go_wp2_with fail
        go_roundw
        case rel => exact ⟨k + 1, by go_num, by omega, hnx, HB9⟩
        case measure => simp [intOf]; omega
    · have hyes : Hid (mvS ss ⟨x, y, u, v⟩ mv = (⟨x + (u + q - 1), y + (v + r - 1), u + q - 1, v + r - 1⟩, true)) := hide (by
        unfold mvS
        have h := hall.out
        rw [show k = L.length by rw [← hnLL.out]; omega, List.take_length] at h
        rw [HOP.out, h, HGO.out]
        rfl)
      have HB9 := hide (Below.trans' HB5.out HB.out)
      have hr9 := box_keep HR15.out HB.out
      obtain ⟨d0, d1, d2, d3⟩ := row4 (box_keep HR05.out HB.out)
      have hst := st4_box (x + (u + q - 1)) (y + (v + r - 1)) (u + q - 1) (v + r - 1) hr9
      obtain ⟨f0, f1, f2, f3⟩ := froz4 hr9
      obtain ⟨e0, e1, e2, e3⟩ := row4 hr9
      obtain ⟨j0, j1, j2, j3⟩ := row4 hst
      have hB := hide (st4_below (x + (u + q - 1)) (y + (v + r - 1)) (u + q - 1) (v + r - 1) (b := W.heap.size + 1) HB9.out (by omega))
      have HJ := hide (And.intro j0 (And.intro j1 (And.intro j2 j3)))
      clear hst j0 j1 j2 j3
      go_wp2_with fail
      obtain ⟨j0, j1, j2, j3⟩ := HJ.out
      unfold st4 at j0 j1 j2 j3 hB
      exact bodyPost_ret (v := .tuple #[.agg #[.int .i64 (x + (u + q - 1)), .int .i64 (y + (v + r - 1)), .int .i64 (u + q - 1), .int .i64 (v + r - 1)], .bool true]) (by simp [results, Tryd.results64, go_sem, j0, j1, j2, j3]) rfl ⟨by rw [hyes.out]; rfl, hB.out⟩
end Go.Proofs.YtmoekjgnichgnaaDoor
