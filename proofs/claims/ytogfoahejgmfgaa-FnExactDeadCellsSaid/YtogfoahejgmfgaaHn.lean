/-
  Boards of hexagons: the neighbours of a cell, the model's text.
-/
import Derived.Test.YtogfoahejgmfgaaHa
import Derived.Test.YtogfoahejgmfgaaHr
namespace Go.Proofs.Ytogfoahejgmfgaa
open Go.RowKit
set_option linter.unusedVariables false

theorem cell_walk {n a : Int} (hn : 1 ≤ n) (hn8 : n ≤ 8) (h0 : 0 ≤ a) (h1 : a < n * n) : 0 ≤ a / n ∧ a / n < n ∧ 0 ≤ a % n ∧ a % n < n ∧ wrap64 (a.tdiv n) = a / n ∧ wrap64 (a.tmod n) = a % n ∧ a.tmod n = a % n ∧ a.tdiv n = a / n := by
  obtain ⟨k1, k2, k3, k4, _⟩ := cell_rc hn h0 h1
  have e1 : a.tdiv n = a / n := Int.tdiv_eq_ediv_of_nonneg h0
  have e2 : a.tmod n = a % n := Int.tmod_eq_emod_of_nonneg h0
  refine ⟨k1, k2, k3, k4, ?_, ?_, e2, e1⟩
  · rw [e1]; unfold wrap64; omega
  · rw [e2]; unfold wrap64; omega

theorem nearTo_n {n r c Y X : Int} {k : Nat} {s : Int × Int} (hs : stepH[k]? = some s) (hY : Y = r + s.1) (hX : X = c + s.2) (h : onH n Y X = false) : nearTo n r c (k + 1) = nearTo n r c k := nearTo_no hs (by rw [← hY, ← hX]; exact h)
theorem nearTo_y {n r c Y X : Int} {k : Nat} {s : Int × Int} (hs : stepH[k]? = some s) (hY : Y = r + s.1) (hX : X = c + s.2) (h : onH n Y X = true) : nearTo n r c (k + 1) = nearTo n r c k ++ [n * Y + X] := by
  rw [nearTo_yes hs (by rw [← hY, ← hX]; exact h), ← hY, ← hX]
theorem onH_ny {n Y X : Int} (h : inn Y 0 (n - 1) = false) : onH n Y X = false := by
  have := inn_no h
  cases ho : onH n Y X with
  | false => rfl
  | true => obtain ⟨h1, h2, h3, h4⟩ := onH_yes ho; omega
theorem onH_nx {n Y X : Int} (h : inn X 0 (n - 1) = false) : onH n Y X = false := by
  have := inn_no h
  cases ho : onH n Y X with
  | false => rfl
  | true => obtain ⟨h1, h2, h3, h4⟩ := onH_yes ho; omega
theorem onH_yy {n Y X : Int} (h : inn Y 0 (n - 1) = true) (h' : inn X 0 (n - 1) = true) : onH n Y X = true := by
  have := inn_yes h
  have := inn_yes h'
  exact onH_mk (by omega) (by omega) (by omega) (by omega)
theorem row_wraps {n Y X : Int} (hn : 1 ≤ n) (hn8 : n ≤ 8) (h : 0 ≤ Y ∧ Y ≤ n - 1) (h' : 0 ≤ X ∧ X ≤ n - 1) : wrap64 (n * Y) = n * Y ∧ wrap64 (n * Y + X) = n * Y + X ∧ 0 ≤ n * Y ∧ n * Y ≤ 64 := by
  have h1 := row_lt (n := n) (y := Y) (x := X) h.1 (by omega) h'.1 (by omega)
  have h2 := (sq_nums hn hn8).2.1
  have h3 : 0 ≤ n * Y := Int.mul_nonneg (by omega) h.1
  refine ⟨?_, ?_, h3, by omega⟩ <;> unfold wrap64 <;> omega

set_option maxRecDepth 100000 in
set_option maxHeartbeats 4000000 in
theorem specNear_any (n a : Int) (hn : 1 ≤ n) (hn8 : n ≤ 8) (h0 : 0 ≤ a) (h1 : a < n * n) (W : World) : Calls Try.prog 45 #[.int .i64 n, .int .i64 a] W (NewL (near n a) W) := by
  obtain ⟨i0, hi0, hz0, hz1, hz2⟩ := info_parts Try.info2
  obtain ⟨k1, k2, k3, k4, q1, q2, q3, q4⟩ := cell_walk hn hn8 h0 h1
  have q5 := (sq_nums hn hn8).2.1
  have hne : (n == 0) = false := by simp; omega
  have hne' : ¬ n = 0 := by omega
  obtain ⟨r, hr⟩ : ∃ r, r = a / n := ⟨_, rfl⟩
  obtain ⟨c, hc⟩ : ∃ c, c = a % n := ⟨_, rfl⟩
  have hN : Hid (near n a = nearTo n r c 6) := hide (by rw [hr, hc]; rfl)
  rw [hN.out]
  rw [← hr] at k1 k2 q1 q4
  rw [← hc] at k3 k4 q2 q3
  clear hr hc
  have ha : a ≤ 64 := by omega
  clear h1
  go_enter Try.func45, Try.ntmps45
  go_wp2_with fail
  go_region
  go_wp2_with fail
  obtain ⟨W1, hW1⟩ : ∃ W1, W1 = (W.alloc (.cells #[] 2)).drew := ⟨_, rfl⟩
  have hO : Hid (Owns W.heap.size W W1 (.slice (some ⟨W.heap.size, 0, none⟩) 0 0) (nearTo n r c 0)) := by
    rw [hW1]
    refine hide ⟨?_, Below.drew (below_alloc _ _), by simp⟩
    exact ownsRow_keep (ownsRow_empty (alloc_row _ _ _) (Nat.le_refl _)) (Below.drew (Below.refl _ _))
  rw [← hW1]
  clear q1 q2 q3 q4 hW1
  go_loopw [7, 8] (fun v i wr => ∃ (k : Nat) (v0 : Value), v0 = v ∧ k ≤ 6 ∧ i = .int .i64 k ∧ Owns W.heap.size W wr v (nearTo n r c k)) (fun _ i _ => 6 - (intOf i).toNat)
  case atStart => exact ⟨0, _, rfl, by omega, rfl, hO.out⟩
  case round =>
    clear hO
    obtain ⟨k, v, rfl, hk, rfl, hO⟩ := hrel
    by_cases hlt : k < 6
    · have HO := hide hO
      clear hO
      rcases (by omega : k = 0 ∨ k = 1 ∨ k = 2 ∨ k = 3 ∨ k = 4 ∨ k = 5) with rfl | rfl | rfl | rfl | rfl | rfl
      · -- step 0
        have hap : ∀ o o' : Obj, Below wr.heap.size wr ((wr.alloc o).alloc o') := fun o o' => ((Below.refl _ _).alloc (Nat.le_refl _) o).alloc (by simp) o'
        have HAP := hide hap
        clear hap
        cases hy : inn (r + -1) 0 (n - 1)
        · have HN := hide (nearTo_n (n := n) (r := r) (c := c) (k := 0) (Y := (r + -1)) (X := c) rfl (by simp; try omega) (by simp; try omega) (onH_ny hy))
          have HY := hide hy
          clear hy
          go_wp2_with fail
          refine (inn_is _ _ _ HY.out _).mono ?_
          rintro e w2 ⟨rfl, hb2⟩
          have HO2 := hide (HO.out.keep (Below.trans' (HAP.out _ _) hb2))
          clear hb2
          go_wp2_with fail
          go_roundw
          case rel => exact ⟨1, _, rfl, by omega, by go_num, by rw [HN.out]; exact HO2.out⟩
          case measure => simp [intOf]
        · have HY := hide hy
          cases hx : inn c 0 (n - 1)
          · have HN := hide (nearTo_n (n := n) (r := r) (c := c) (k := 0) (Y := (r + -1)) (X := c) rfl (by simp; try omega) (by simp; try omega) (onH_nx hx))
            have HX := hide hx
            clear hy hx
            go_wp2_with fail
            refine (inn_is _ _ _ HY.out _).mono ?_
            rintro e w2 ⟨rfl, hb2⟩
            have HO2 := hide (HO.out.keep (Below.trans' (HAP.out _ _) hb2))
            clear hb2
            go_wp2_with fail
            refine (inn_is _ _ _ HX.out _).mono ?_
            rintro e w3 ⟨rfl, hb3⟩
            have HO3 := hide (HO2.out.keep hb3)
            clear hb3
            go_wp2_with fail
            go_roundw
            case rel => exact ⟨1, _, rfl, by omega, by go_num, by rw [HN.out]; exact HO3.out⟩
            case measure => simp [intOf]
          · have HX := hide hx
            have HN := hide (nearTo_y (n := n) (r := r) (c := c) (k := 0) (Y := (r + -1)) (X := c) rfl (by simp; try omega) (by simp; try omega) (onH_yy hy hx))
            obtain ⟨w1, w2, w3, w4⟩ := row_wraps hn hn8 (inn_yes hy) (inn_yes hx)
            clear hy hx
            go_wp2_with fail
            refine (inn_is _ _ _ HY.out _).mono ?_
            rintro e w2 ⟨rfl, hb2⟩
            have HO2 := hide (HO.out.keep (Below.trans' (HAP.out _ _) hb2))
            clear hb2
            go_wp2_with fail
            refine (inn_is _ _ _ HX.out _).mono ?_
            rintro e w3 ⟨rfl, hb3⟩
            have hO3 := HO2.out.keep hb3
            have hown := hO3.own
            have hsz := hO3.size
            have HO3 := hide hO3
            have hlr := nearTo_len n r c 0
            clear hb3 hO3
            go_wp2_with (at_builtin; refine wpList_append_own _ rfl _ _ 22 rfl (W.heap.size) 2 i0 (.int .i64 0) 1 8 Try.underlying22 hi0 hz0 hz1 hz2 rfl (by decide) _ _ _ rfl (hown.alloc _) ⟨w3.heap.size, 0, none⟩ 1 1 [.int .i64 (n * (r + -1) + c)] rfl rfl (cell_one_new _ _ _) (by simp [Value.oneCell']) (by unfold maxLen; omega) (by omega) (by simp; omega) ?_)
            intro v' w5 hown' hgrow _
            have HO5 := hide (HO3.out.snoc (by simpa using hown') hgrow)
            clear hown' hgrow hown
            go_wp2_with fail
            go_roundw
            case rel => exact ⟨1, _, rfl, by omega, by go_num, by rw [HN.out]; exact HO5.out⟩
            case measure => simp [intOf]
      · -- step 1
        have hap : ∀ o o' : Obj, Below wr.heap.size wr ((wr.alloc o).alloc o') := fun o o' => ((Below.refl _ _).alloc (Nat.le_refl _) o).alloc (by simp) o'
        have HAP := hide hap
        clear hap
        cases hy : inn (r + -1) 0 (n - 1)
        · have HN := hide (nearTo_n (n := n) (r := r) (c := c) (k := 1) (Y := (r + -1)) (X := (c + 1)) rfl (by simp; try omega) (by simp; try omega) (onH_ny hy))
          have HY := hide hy
          clear hy
          go_wp2_with fail
          refine (inn_is _ _ _ HY.out _).mono ?_
          rintro e w2 ⟨rfl, hb2⟩
          have HO2 := hide (HO.out.keep (Below.trans' (HAP.out _ _) hb2))
          clear hb2
          go_wp2_with fail
          go_roundw
          case rel => exact ⟨2, _, rfl, by omega, by go_num, by rw [HN.out]; exact HO2.out⟩
          case measure => simp [intOf]
        · have HY := hide hy
          cases hx : inn (c + 1) 0 (n - 1)
          · have HN := hide (nearTo_n (n := n) (r := r) (c := c) (k := 1) (Y := (r + -1)) (X := (c + 1)) rfl (by simp; try omega) (by simp; try omega) (onH_nx hx))
            have HX := hide hx
            clear hy hx
            go_wp2_with fail
            refine (inn_is _ _ _ HY.out _).mono ?_
            rintro e w2 ⟨rfl, hb2⟩
            have HO2 := hide (HO.out.keep (Below.trans' (HAP.out _ _) hb2))
            clear hb2
            go_wp2_with fail
            refine (inn_is _ _ _ HX.out _).mono ?_
            rintro e w3 ⟨rfl, hb3⟩
            have HO3 := hide (HO2.out.keep hb3)
            clear hb3
            go_wp2_with fail
            go_roundw
            case rel => exact ⟨2, _, rfl, by omega, by go_num, by rw [HN.out]; exact HO3.out⟩
            case measure => simp [intOf]
          · have HX := hide hx
            have HN := hide (nearTo_y (n := n) (r := r) (c := c) (k := 1) (Y := (r + -1)) (X := (c + 1)) rfl (by simp; try omega) (by simp; try omega) (onH_yy hy hx))
            obtain ⟨w1, w2, w3, w4⟩ := row_wraps hn hn8 (inn_yes hy) (inn_yes hx)
            clear hy hx
            go_wp2_with fail
            refine (inn_is _ _ _ HY.out _).mono ?_
            rintro e w2 ⟨rfl, hb2⟩
            have HO2 := hide (HO.out.keep (Below.trans' (HAP.out _ _) hb2))
            clear hb2
            go_wp2_with fail
            refine (inn_is _ _ _ HX.out _).mono ?_
            rintro e w3 ⟨rfl, hb3⟩
            have hO3 := HO2.out.keep hb3
            have hown := hO3.own
            have hsz := hO3.size
            have HO3 := hide hO3
            have hlr := nearTo_len n r c 1
            clear hb3 hO3
            go_wp2_with (at_builtin; refine wpList_append_own _ rfl _ _ 22 rfl (W.heap.size) 2 i0 (.int .i64 0) 1 8 Try.underlying22 hi0 hz0 hz1 hz2 rfl (by decide) _ _ _ rfl (hown.alloc _) ⟨w3.heap.size, 0, none⟩ 1 1 [.int .i64 (n * (r + -1) + (c + 1))] rfl rfl (cell_one_new _ _ _) (by simp [Value.oneCell']) (by unfold maxLen; omega) (by omega) (by simp; omega) ?_)
            intro v' w5 hown' hgrow _
            have HO5 := hide (HO3.out.snoc (by simpa using hown') hgrow)
            clear hown' hgrow hown
            go_wp2_with fail
            go_roundw
            case rel => exact ⟨2, _, rfl, by omega, by go_num, by rw [HN.out]; exact HO5.out⟩
            case measure => simp [intOf]
      · -- step 2
        have hap : ∀ o o' : Obj, Below wr.heap.size wr ((wr.alloc o).alloc o') := fun o o' => ((Below.refl _ _).alloc (Nat.le_refl _) o).alloc (by simp) o'
        have HAP := hide hap
        clear hap
        cases hy : inn r 0 (n - 1)
        · have HN := hide (nearTo_n (n := n) (r := r) (c := c) (k := 2) (Y := r) (X := (c + -1)) rfl (by simp; try omega) (by simp; try omega) (onH_ny hy))
          have HY := hide hy
          clear hy
          go_wp2_with fail
          refine (inn_is _ _ _ HY.out _).mono ?_
          rintro e w2 ⟨rfl, hb2⟩
          have HO2 := hide (HO.out.keep (Below.trans' (HAP.out _ _) hb2))
          clear hb2
          go_wp2_with fail
          go_roundw
          case rel => exact ⟨3, _, rfl, by omega, by go_num, by rw [HN.out]; exact HO2.out⟩
          case measure => simp [intOf]
        · have HY := hide hy
          cases hx : inn (c + -1) 0 (n - 1)
          · have HN := hide (nearTo_n (n := n) (r := r) (c := c) (k := 2) (Y := r) (X := (c + -1)) rfl (by simp; try omega) (by simp; try omega) (onH_nx hx))
            have HX := hide hx
            clear hy hx
            go_wp2_with fail
            refine (inn_is _ _ _ HY.out _).mono ?_
            rintro e w2 ⟨rfl, hb2⟩
            have HO2 := hide (HO.out.keep (Below.trans' (HAP.out _ _) hb2))
            clear hb2
            go_wp2_with fail
            refine (inn_is _ _ _ HX.out _).mono ?_
            rintro e w3 ⟨rfl, hb3⟩
            have HO3 := hide (HO2.out.keep hb3)
            clear hb3
            go_wp2_with fail
            go_roundw
            case rel => exact ⟨3, _, rfl, by omega, by go_num, by rw [HN.out]; exact HO3.out⟩
            case measure => simp [intOf]
          · have HX := hide hx
            have HN := hide (nearTo_y (n := n) (r := r) (c := c) (k := 2) (Y := r) (X := (c + -1)) rfl (by simp; try omega) (by simp; try omega) (onH_yy hy hx))
            obtain ⟨w1, w2, w3, w4⟩ := row_wraps hn hn8 (inn_yes hy) (inn_yes hx)
            clear hy hx
            go_wp2_with fail
            refine (inn_is _ _ _ HY.out _).mono ?_
            rintro e w2 ⟨rfl, hb2⟩
            have HO2 := hide (HO.out.keep (Below.trans' (HAP.out _ _) hb2))
            clear hb2
            go_wp2_with fail
            refine (inn_is _ _ _ HX.out _).mono ?_
            rintro e w3 ⟨rfl, hb3⟩
            have hO3 := HO2.out.keep hb3
            have hown := hO3.own
            have hsz := hO3.size
            have HO3 := hide hO3
            have hlr := nearTo_len n r c 2
            clear hb3 hO3
            go_wp2_with (at_builtin; refine wpList_append_own _ rfl _ _ 22 rfl (W.heap.size) 2 i0 (.int .i64 0) 1 8 Try.underlying22 hi0 hz0 hz1 hz2 rfl (by decide) _ _ _ rfl (hown.alloc _) ⟨w3.heap.size, 0, none⟩ 1 1 [.int .i64 (n * r + (c + -1))] rfl rfl (cell_one_new _ _ _) (by simp [Value.oneCell']) (by unfold maxLen; omega) (by omega) (by simp; omega) ?_)
            intro v' w5 hown' hgrow _
            have HO5 := hide (HO3.out.snoc (by simpa using hown') hgrow)
            clear hown' hgrow hown
            go_wp2_with fail
            go_roundw
            case rel => exact ⟨3, _, rfl, by omega, by go_num, by rw [HN.out]; exact HO5.out⟩
            case measure => simp [intOf]
      · -- step 3
        have hap : ∀ o o' : Obj, Below wr.heap.size wr ((wr.alloc o).alloc o') := fun o o' => ((Below.refl _ _).alloc (Nat.le_refl _) o).alloc (by simp) o'
        have HAP := hide hap
        clear hap
        cases hy : inn r 0 (n - 1)
        · have HN := hide (nearTo_n (n := n) (r := r) (c := c) (k := 3) (Y := r) (X := (c + 1)) rfl (by simp; try omega) (by simp; try omega) (onH_ny hy))
          have HY := hide hy
          clear hy
          go_wp2_with fail
          refine (inn_is _ _ _ HY.out _).mono ?_
          rintro e w2 ⟨rfl, hb2⟩
          have HO2 := hide (HO.out.keep (Below.trans' (HAP.out _ _) hb2))
          clear hb2
          go_wp2_with fail
          go_roundw
          case rel => exact ⟨4, _, rfl, by omega, by go_num, by rw [HN.out]; exact HO2.out⟩
          case measure => simp [intOf]
        · have HY := hide hy
          cases hx : inn (c + 1) 0 (n - 1)
          · have HN := hide (nearTo_n (n := n) (r := r) (c := c) (k := 3) (Y := r) (X := (c + 1)) rfl (by simp; try omega) (by simp; try omega) (onH_nx hx))
            have HX := hide hx
            clear hy hx
            go_wp2_with fail
            refine (inn_is _ _ _ HY.out _).mono ?_
            rintro e w2 ⟨rfl, hb2⟩
            have HO2 := hide (HO.out.keep (Below.trans' (HAP.out _ _) hb2))
            clear hb2
            go_wp2_with fail
            refine (inn_is _ _ _ HX.out _).mono ?_
            rintro e w3 ⟨rfl, hb3⟩
            have HO3 := hide (HO2.out.keep hb3)
            clear hb3
            go_wp2_with fail
            go_roundw
            case rel => exact ⟨4, _, rfl, by omega, by go_num, by rw [HN.out]; exact HO3.out⟩
            case measure => simp [intOf]
          · have HX := hide hx
            have HN := hide (nearTo_y (n := n) (r := r) (c := c) (k := 3) (Y := r) (X := (c + 1)) rfl (by simp; try omega) (by simp; try omega) (onH_yy hy hx))
            obtain ⟨w1, w2, w3, w4⟩ := row_wraps hn hn8 (inn_yes hy) (inn_yes hx)
            clear hy hx
            go_wp2_with fail
            refine (inn_is _ _ _ HY.out _).mono ?_
            rintro e w2 ⟨rfl, hb2⟩
            have HO2 := hide (HO.out.keep (Below.trans' (HAP.out _ _) hb2))
            clear hb2
            go_wp2_with fail
            refine (inn_is _ _ _ HX.out _).mono ?_
            rintro e w3 ⟨rfl, hb3⟩
            have hO3 := HO2.out.keep hb3
            have hown := hO3.own
            have hsz := hO3.size
            have HO3 := hide hO3
            have hlr := nearTo_len n r c 3
            clear hb3 hO3
            go_wp2_with (at_builtin; refine wpList_append_own _ rfl _ _ 22 rfl (W.heap.size) 2 i0 (.int .i64 0) 1 8 Try.underlying22 hi0 hz0 hz1 hz2 rfl (by decide) _ _ _ rfl (hown.alloc _) ⟨w3.heap.size, 0, none⟩ 1 1 [.int .i64 (n * r + (c + 1))] rfl rfl (cell_one_new _ _ _) (by simp [Value.oneCell']) (by unfold maxLen; omega) (by omega) (by simp; omega) ?_)
            intro v' w5 hown' hgrow _
            have HO5 := hide (HO3.out.snoc (by simpa using hown') hgrow)
            clear hown' hgrow hown
            go_wp2_with fail
            go_roundw
            case rel => exact ⟨4, _, rfl, by omega, by go_num, by rw [HN.out]; exact HO5.out⟩
            case measure => simp [intOf]
      · -- step 4
        have hap : ∀ o o' : Obj, Below wr.heap.size wr ((wr.alloc o).alloc o') := fun o o' => ((Below.refl _ _).alloc (Nat.le_refl _) o).alloc (by simp) o'
        have HAP := hide hap
        clear hap
        cases hy : inn (r + 1) 0 (n - 1)
        · have HN := hide (nearTo_n (n := n) (r := r) (c := c) (k := 4) (Y := (r + 1)) (X := (c + -1)) rfl (by simp; try omega) (by simp; try omega) (onH_ny hy))
          have HY := hide hy
          clear hy
          go_wp2_with fail
          refine (inn_is _ _ _ HY.out _).mono ?_
          rintro e w2 ⟨rfl, hb2⟩
          have HO2 := hide (HO.out.keep (Below.trans' (HAP.out _ _) hb2))
          clear hb2
          go_wp2_with fail
          go_roundw
          case rel => exact ⟨5, _, rfl, by omega, by go_num, by rw [HN.out]; exact HO2.out⟩
          case measure => simp [intOf]
        · have HY := hide hy
          cases hx : inn (c + -1) 0 (n - 1)
          · have HN := hide (nearTo_n (n := n) (r := r) (c := c) (k := 4) (Y := (r + 1)) (X := (c + -1)) rfl (by simp; try omega) (by simp; try omega) (onH_nx hx))
            have HX := hide hx
            clear hy hx
            go_wp2_with fail
            refine (inn_is _ _ _ HY.out _).mono ?_
            rintro e w2 ⟨rfl, hb2⟩
            have HO2 := hide (HO.out.keep (Below.trans' (HAP.out _ _) hb2))
            clear hb2
            go_wp2_with fail
            refine (inn_is _ _ _ HX.out _).mono ?_
            rintro e w3 ⟨rfl, hb3⟩
            have HO3 := hide (HO2.out.keep hb3)
            clear hb3
            go_wp2_with fail
            go_roundw
            case rel => exact ⟨5, _, rfl, by omega, by go_num, by rw [HN.out]; exact HO3.out⟩
            case measure => simp [intOf]
          · have HX := hide hx
            have HN := hide (nearTo_y (n := n) (r := r) (c := c) (k := 4) (Y := (r + 1)) (X := (c + -1)) rfl (by simp; try omega) (by simp; try omega) (onH_yy hy hx))
            obtain ⟨w1, w2, w3, w4⟩ := row_wraps hn hn8 (inn_yes hy) (inn_yes hx)
            clear hy hx
            go_wp2_with fail
            refine (inn_is _ _ _ HY.out _).mono ?_
            rintro e w2 ⟨rfl, hb2⟩
            have HO2 := hide (HO.out.keep (Below.trans' (HAP.out _ _) hb2))
            clear hb2
            go_wp2_with fail
            refine (inn_is _ _ _ HX.out _).mono ?_
            rintro e w3 ⟨rfl, hb3⟩
            have hO3 := HO2.out.keep hb3
            have hown := hO3.own
            have hsz := hO3.size
            have HO3 := hide hO3
            have hlr := nearTo_len n r c 4
            clear hb3 hO3
            go_wp2_with (at_builtin; refine wpList_append_own _ rfl _ _ 22 rfl (W.heap.size) 2 i0 (.int .i64 0) 1 8 Try.underlying22 hi0 hz0 hz1 hz2 rfl (by decide) _ _ _ rfl (hown.alloc _) ⟨w3.heap.size, 0, none⟩ 1 1 [.int .i64 (n * (r + 1) + (c + -1))] rfl rfl (cell_one_new _ _ _) (by simp [Value.oneCell']) (by unfold maxLen; omega) (by omega) (by simp; omega) ?_)
            intro v' w5 hown' hgrow _
            have HO5 := hide (HO3.out.snoc (by simpa using hown') hgrow)
            clear hown' hgrow hown
            go_wp2_with fail
            go_roundw
            case rel => exact ⟨5, _, rfl, by omega, by go_num, by rw [HN.out]; exact HO5.out⟩
            case measure => simp [intOf]
      · -- step 5
        have hap : ∀ o o' : Obj, Below wr.heap.size wr ((wr.alloc o).alloc o') := fun o o' => ((Below.refl _ _).alloc (Nat.le_refl _) o).alloc (by simp) o'
        have HAP := hide hap
        clear hap
        cases hy : inn (r + 1) 0 (n - 1)
        · have HN := hide (nearTo_n (n := n) (r := r) (c := c) (k := 5) (Y := (r + 1)) (X := c) rfl (by simp; try omega) (by simp; try omega) (onH_ny hy))
          have HY := hide hy
          clear hy
          go_wp2_with fail
          refine (inn_is _ _ _ HY.out _).mono ?_
          rintro e w2 ⟨rfl, hb2⟩
          have HO2 := hide (HO.out.keep (Below.trans' (HAP.out _ _) hb2))
          clear hb2
          go_wp2_with fail
          go_roundw
          case rel => exact ⟨6, _, rfl, by omega, by go_num, by rw [HN.out]; exact HO2.out⟩
          case measure => simp [intOf]
        · have HY := hide hy
          cases hx : inn c 0 (n - 1)
          · have HN := hide (nearTo_n (n := n) (r := r) (c := c) (k := 5) (Y := (r + 1)) (X := c) rfl (by simp; try omega) (by simp; try omega) (onH_nx hx))
            have HX := hide hx
            clear hy hx
            go_wp2_with fail
            refine (inn_is _ _ _ HY.out _).mono ?_
            rintro e w2 ⟨rfl, hb2⟩
            have HO2 := hide (HO.out.keep (Below.trans' (HAP.out _ _) hb2))
            clear hb2
            go_wp2_with fail
            refine (inn_is _ _ _ HX.out _).mono ?_
            rintro e w3 ⟨rfl, hb3⟩
            have HO3 := hide (HO2.out.keep hb3)
            clear hb3
            go_wp2_with fail
            go_roundw
            case rel => exact ⟨6, _, rfl, by omega, by go_num, by rw [HN.out]; exact HO3.out⟩
            case measure => simp [intOf]
          · have HX := hide hx
            have HN := hide (nearTo_y (n := n) (r := r) (c := c) (k := 5) (Y := (r + 1)) (X := c) rfl (by simp; try omega) (by simp; try omega) (onH_yy hy hx))
            obtain ⟨w1, w2, w3, w4⟩ := row_wraps hn hn8 (inn_yes hy) (inn_yes hx)
            clear hy hx
            go_wp2_with fail
            refine (inn_is _ _ _ HY.out _).mono ?_
            rintro e w2 ⟨rfl, hb2⟩
            have HO2 := hide (HO.out.keep (Below.trans' (HAP.out _ _) hb2))
            clear hb2
            go_wp2_with fail
            refine (inn_is _ _ _ HX.out _).mono ?_
            rintro e w3 ⟨rfl, hb3⟩
            have hO3 := HO2.out.keep hb3
            have hown := hO3.own
            have hsz := hO3.size
            have HO3 := hide hO3
            have hlr := nearTo_len n r c 5
            clear hb3 hO3
            go_wp2_with (at_builtin; refine wpList_append_own _ rfl _ _ 22 rfl (W.heap.size) 2 i0 (.int .i64 0) 1 8 Try.underlying22 hi0 hz0 hz1 hz2 rfl (by decide) _ _ _ rfl (hown.alloc _) ⟨w3.heap.size, 0, none⟩ 1 1 [.int .i64 (n * (r + 1) + c)] rfl rfl (cell_one_new _ _ _) (by simp [Value.oneCell']) (by unfold maxLen; omega) (by omega) (by simp; omega) ?_)
            intro v' w5 hown' hgrow _
            have HO5 := hide (HO3.out.snoc (by simpa using hown') hgrow)
            clear hown' hgrow hown
            go_wp2_with fail
            go_roundw
            case rel => exact ⟨6, _, rfl, by omega, by go_num, by rw [HN.out]; exact HO5.out⟩
            case measure => simp [intOf]
    · obtain rfl : k = 6 := by omega
      have HLst := hide (hO.list (Below.refl _ _) (Nat.le_refl _))
      clear hO
      go_wp2_with fail
      go_ret
      exact HLst.out
end Go.Proofs.Ytogfoahejgmfgaa
