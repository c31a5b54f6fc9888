/-
  Crossed squares, the model's text.
-/
import Derived.Test.YtmoekjgnichgnaaDoorCx
import Derived.Test.YtmoekjgnichgnaaDoorFo
import Derived.Test.YtmoekjgnichgnaaDoorPm
namespace Go.Proofs.YtmoekjgnichgnaaDoor
open Go.RowKit
set_option linter.unusedVariables false

set_option maxRecDepth 100000 in
set_option maxHeartbeats 8000000 in
theorem l08Crossed_any (x y u v nu nv : Int) (hx : Rg x) (hy : Rg y) (hnu6 : -6 ≤ nu ∧ nu ≤ 6) (hnv6 : -6 ≤ nv ∧ nv ≤ 6) (W : World) :
    Calls Tryd.prog 60 #[.agg #[.int .i64 x, .int .i64 y, .int .i64 u, .int .i64 v], .int .i64 nu, .int .i64 nv] W (NewRowsS ((crs x y nu nv).map two) W) := by
  obtain ⟨i0, hi0, hz0, hz1, hz2⟩ := info_parts infoRow
  obtain ⟨W0, hW0⟩ : ∃ W0, W0 = (W.alloc (.cells #[.int .i64 x, .int .i64 y, .int .i64 u, .int .i64 v] 28)).alloc (.cells #[] 39) := ⟨_, rfl⟩
  have hs0 : W0.heap.size = W.heap.size + 2 := by rw [hW0]; simp
  have hb0 : Below W.heap.size W W0 := by rw [hW0]; exact (below_alloc _ _).alloc (by simp) _
  have hr0 : W0.heap[W.heap.size]? = some (.cells #[.int .i64 x, .int .i64 y, .int .i64 u, .int .i64 v] 28 (0, 0)) := by rw [hW0]; exact row_up _ (row_new _ _ _)
  have hr1 : W0.heap[W.heap.size + 1]? = some (.cells #[] 39 (0, 0)) := by
    have := row_new (W.alloc (.cells #[.int .i64 x, .int .i64 y, .int .i64 u, .int .i64 v] 28)) #[] 39
    rw [hW0]
    simpa using this
  have HB0 := hide hb0
  have HR0 := hide hr0
  have HRO := hide (RowsO.mk (ListO.empty (A := W.heap.size) W.heap.size hr1 (by omega)) List.Pairwise.nil)
  obtain ⟨K, hK⟩ : ∃ K, K = spd nu nv := ⟨_, rfl⟩
  have hK6 : 0 ≤ K ∧ K ≤ 6 := by rw [hK]; exact ⟨spd_nonneg _ _, spd_le hnu6 hnv6⟩
  obtain ⟨hK0, hK1⟩ := hK6
  obtain ⟨nu0, nu1⟩ := hnu6
  obtain ⟨nv0, nv1⟩ := hnv6
  obtain ⟨hx0, hx1⟩ := hx
  obtain ⟨hy0, hy1⟩ := hy
  have HK := hide hK
  have hmx : ∀ V : World, (Builtin.max_ #[2, 2, 2, 2] 2 #[.int .i64 nu, .int .i64 (-nu), .int .i64 nv, .int .i64 (-nv)]).run Tryd.prog V = .ok (.int .i64 K) V := fun V => by rw [hK]; exact max4 _ _ _ _ _
  clear hb0 hr0 hr1 hK
  go_enter Tryd.func60, Tryd.ntmps60
  go_wp2_with fail
  clear hmx
  rw [← hW0]
  clear hW0
  go_loopw [8, 9] (fun v8 v9 wr => ∃ (k : Nat) (vs : List Value), v9 = .int .i64 k ∧ 1 ≤ k ∧ (k = 1 ∨ k ≤ K) ∧ Hid (RowsO W.heap.size wr v8 vs (((crs x y nu nv).take (k - 1)).map two)) ∧ Hid (Below W.heap.size W wr) ∧ Hid (wr.heap[W.heap.size]? = some (.cells #[.int .i64 x, .int .i64 y, .int .i64 u, .int .i64 v] 28 (0, 0))))
    (fun _ v9 _ => K.toNat + 1 - (intOf v9).toNat)
  case atStart => exact ⟨1, [], rfl, Nat.le_refl _, .inl rfl, HRO, HB0, HR0⟩
  case round =>
    clear HRO HB0 HR0
    obtain ⟨k, vs, rfl, hk1, hkK, HRO, HB, HR⟩ := hrel
    obtain ⟨av, cv, hv8⟩ := own_form HRO.out.l.own
    subst hv8
    obtain ⟨nP, hnP⟩ : ∃ nP, nP = (((crs x y nu nv).take (k - 1)).map two).length := ⟨_, rfl⟩
    have HNP := hide hnP
    rw [← hnP]
    by_cases hlt : (k : Int) < K
    · obtain ⟨d0, d1, _, _⟩ := row4 HR.out
      have p0 : ∀ p : Past wr, p.to.cell? ⟨W.heap.size, 0, none⟩ = some (.int .i64 x) := fun p => p.cell d0
      have p1 : ∀ p : Past wr, p.to.cell? ⟨W.heap.size, 1, none⟩ = some (.int .i64 y) := fun p => p.cell d1
      obtain ⟨r1, r2, r3, r4⟩ := stp_range (k := (k : Int)) (u := nu) (m := K) (by omega) hlt hK1 ⟨nu0, nu1⟩
      obtain ⟨t1, t2, t3, t4⟩ := stp_range (k := (k : Int)) (u := nv) (m := K) (by omega) hlt hK1 ⟨nv0, nv1⟩
      obtain ⟨pu, hpu⟩ : ∃ pu, 2 * (k : Int) * nu = pu := ⟨_, rfl⟩
      obtain ⟨pv, hpv⟩ : ∃ pv, 2 * (k : Int) * nv = pv := ⟨_, rfl⟩
      have hpu2 : 2 * ((k : Int) * nu) = pu := by rw [← hpu, Int.mul_assoc]
      have hpv2 : 2 * ((k : Int) * nv) = pv := by rw [← hpv, Int.mul_assoc]
      obtain ⟨su, hsu⟩ : ∃ su, stp k nu K = su := ⟨_, rfl⟩
      obtain ⟨sv, hsv⟩ : ∃ sv, stp k nv K = sv := ⟨_, rfl⟩
      have hpu9 : -80 ≤ pu ∧ pu ≤ 80 := by omega
      have hpv9 : -80 ≤ pv ∧ pv ≤ 80 := by omega
      have HN1 : Hid (∀ V : World, Calls Tryd.prog 105 #[.int .i64 (pu + K), .int .i64 (2 * K)] V (RetB (.int .i64 su) V)) := hide (fun V => by
        have h := l08Floor_any (pu + K) (2 * K) (by omega) (by omega) (by omega) (by omega) V
        rw [← hsu]
        unfold stp
        rw [hpu2]
        exact h)
      have HN2 : Hid (∀ V : World, Calls Tryd.prog 105 #[.int .i64 (pv + K), .int .i64 (2 * K)] V (RetB (.int .i64 sv) V)) := hide (fun V => by
        have h := l08Floor_any (pv + K) (2 * K) (by omega) (by omega) (by omega) (by omega) V
        rw [← hsv]
        unfold stp
        rw [hpv2]
        exact h)
      have hget : (crs x y nu nv)[k - 1]? = some (x + su, y + sv) := by
        have h := crs_get (x := x) (y := y) (u := nu) (v := nv) (k := k - 1) (by rw [← HK.out]; omega)
        rw [← HK.out, show (((k - 1 : Nat) : Int) + 1) = (k : Int) by omega, hsu, hsv] at h
        exact h
      have hnx : Hid (((crs x y nu nv).take (k + 1 - 1)).map two = ((crs x y nu nv).take (k - 1)).map two ++ [[x + su, y + sv]]) := hide (by
        rw [show k + 1 - 1 = (k - 1) + 1 by omega, List.take_add_one, hget, List.map_append]
        rfl)
      rw [hsu] at r3 r4
      rw [hsv] at t3 t4
      obtain ⟨g1, g2⟩ := hpu9
      obtain ⟨g3, g4⟩ := hpv9
      have hnP9 : nP ≤ 100 := by
        rw [hnP, List.length_map, List.length_take]
        omega
      clear d0 d1 hget hsu hsv hkK hpu2 hpv2 r1 r2 t1 t2 hnP
      go_wp2_with fail
      refine wp_region_past_float 25 (.tmp 8) rfl rfl (by kernel_rfl) (by kernel_rfl) (fun _ _ _ _ h => h) ?_
      simp only [Nat.reduceSub, List.take_succ_cons, List.take_zero, List.drop_succ_cons, List.drop_zero]
      repeat (first | fail | go_big_quiet_step ((go_at_call 105; (with_reducible first | exact ret_past (HN1.out _) | exact ret_past (HN2.out _)))) | quiet_step ((go_at_call 105; (with_reducible first | exact ret_past (HN1.out _) | exact ret_past (HN2.out _)))))
      refine wpQuiet_nil ?_
      rintro _ ⟨pq, rfl⟩
      obtain ⟨V, hV⟩ : ∃ V, V = pq.to := ⟨_, rfl⟩
      have hbV : Below wr.heap.size wr V := by rw [hV]; exact pq.old
      rw [← hV]
      have HR3 := hide (box_keep HR.out hbV)
      have HRO3 := hide (HRO.out.keep hbV)
      have HB3 := hide (HB.out.trans (hbV.mono HB.out.size))
      obtain ⟨V1, hV1⟩ : ∃ V1, V1 = V.alloc (.cells #[.int .i64 (x + su), .int .i64 (y + sv)] 2) := ⟨_, rfl⟩
      have hbV1 : Below V.heap.size V V1 := by rw [hV1]; exact below_alloc _ _
      have hs1 : V1.heap.size = V.heap.size + 1 := by rw [hV1]; simp
      have HRO4 := hide (HRO3.out.keep hbV1)
      have HU : Hid (V1.ownsRow W.heap.size 2 1 (.slice (some ⟨V.heap.size, 0, none⟩) 2 2) 2 ([x + su, y + sv].map intV)) := hide (by rw [hV1]; exact own_two V _ _ HB3.out.size)
      have hown := HRO4.out.l.own
      have hnew : Hid (∀ x' ∈ vs, ∀ g, x'.ownBlock = some g → (Value.slice (some ⟨V.heap.size, 0, none⟩) 2 2).ownBlock ≠ some g) := hide (fun x' hx' g hg e => by
        have h1 := HRO3.out.lt x' hx' g hg
        simp [Value.ownBlock] at e
        omega)
      have hVe := hide hV1
      have hzV : W.heap.size ≤ V.heap.size := HB3.out.size
      have HB4 := hide (HB3.out.trans (hbV1.mono HB3.out.size))
      have HR4 := hide (box_keep HR3.out hbV1)
      rw [← HNP.out] at hown
      rw [hV1] at hown
      clear hbV hbV1 hV hV1 p0 p1 HN1 HN2 hpu hpv
      go_wp2_with (at_builtin; go_must (refine wpList_append_own _ rfl _ _ 32 rfl W.heap.size 39 i0 (.slice none 0 0) 1 24 Tryd.underlying32 hi0 hz0 hz1 hz2 rfl (by decide) _ _ _ rfl (hown.alloc _) ⟨V.heap.size + 1, 0, none⟩ 1 1 [.slice (some ⟨V.heap.size, 0, none⟩) 2 2] rfl rfl (by have := cell_one_new (V.alloc (.cells #[.int .i64 (x + su), .int .i64 (y + sv)] 2)) (.slice (some ⟨V.heap.size, 0, none⟩) 2 2) 39; simpa using this) (by simp [Value.oneCell']) (by unfold maxLen; omega) (by omega) (by simp; omega) ?_))
      intro v' w7 hown' hgrow _
      rw [← hVe.out] at hgrow
      rw [← hVe.out] at hown
      have hR7 := hide (RowsO.snoc (u := .slice (some ⟨V.heap.size, 0, none⟩) 2 2) (zs := [x + su, y + sv]) HRO4.out HU.out hnew.out (by rw [← HNP.out]; exact hown') (by rw [← HNP.out]; exact hgrow))
      have HB7 : Hid (Below W.heap.size W w7) := hide ((HB4.out.alloc HB4.out.size _).grown hgrow (by simp; omega) (fun j hj => (hown.lt j hj).1))
      have hne7 : (Value.slice av nP cv).ownBlock ≠ some W.heap.size := fun e => row_not_box' hown HR4.out (by decide) e
      have HR7 : Hid (w7.heap[W.heap.size]? = some (.cells #[.int .i64 x, .int .i64 y, .int .i64 u, .int .i64 v] 28 (0, 0))) := hide (by
        rw [hgrow.block W.heap.size (by simp; omega) (fun e => hne7 e.symm), Below.heap_alloc _ _ _ (block_lt HR4.out), HR4.out])
      have hR8 : Hid (RowsO W.heap.size w7 v' (vs ++ [.slice (some ⟨V.heap.size, 0, none⟩) 2 2]) (((crs x y nu nv).take (k + 1 - 1)).map two)) := hide (by rw [hnx.out]; exact hR7.out)
      clear hown' hgrow hown hne7
      go_wp2_with fail
      go_roundw
      case rel => exact ⟨k + 1, _, by go_num, by omega, .inr (by omega), hR8, HB7, HR7⟩
      case measure => simp [intOf]; omega
    · have hfin : Hid ((crs x y nu nv).take (k - 1) = crs x y nu nv) := hide (List.take_of_length_le (by rw [crs_len, ← HK.out]; omega))
      have hlen : Hid (nP = ((crs x y nu nv).map two).length) := hide (by rw [hnP, hfin.out])
      have HRF2 : Hid (RowsO W.heap.size wr (.slice av ((crs x y nu nv).map two).length cv) vs ((crs x y nu nv).map two)) := hide (by
        have h := HRO.out
        rw [hfin.out] at h
        exact h)
      clear hnP
      go_wp2_with fail
      go_ret
      exact ⟨av, cv, vs, by rw [← hlen.out]; rfl, HRF2.out, HB.out⟩
end Go.Proofs.YtmoekjgnichgnaaDoor
