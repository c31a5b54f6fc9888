/-
  IsSea, both texts.
-/
import Derived.Test.YtkekanllfpdeaabPc
import Derived.Test.YtkekanllfpdeaabSj
namespace Go.Proofs.Ytkekanllfpdeaab
open Go.RowKit
set_option linter.unusedVariables false

/-- Lengths, none less than the next one. -/
def okFrom (l : Int) : List Int → Bool
  | [] => true
  | z :: zs => inn z 1 l && okFrom z zs
def seaB (wd hi : Int) (cs : List Int) : Bool := inn wd 1 5 && (inn hi 1 5 && (decide (1 ≤ cs.length) && (decide (cs.length ≤ 3) && okFrom 5 cs)))
theorem seaB_yes {wd hi : Int} {cs : List Int} (h : seaB wd hi cs = true) : 1 ≤ wd ∧ wd ≤ 5 ∧ 1 ≤ hi ∧ hi ≤ 5 ∧ 1 ≤ cs.length ∧ cs.length ≤ 3 ∧ okFrom 5 cs = true := by
  simp only [seaB, inn, Bool.and_eq_true, decide_eq_true_eq] at h
  exact ⟨h.1.1, h.1.2, h.2.1.1, h.2.1.2, h.2.2.1, h.2.2.2.1, h.2.2.2.2⟩
theorem okFrom_mem {l : Int} {cs : List Int} (h : okFrom l cs = true) : ∀ z ∈ cs, 1 ≤ z ∧ z ≤ l := by
  induction cs generalizing l with
  | nil => intro z hz; cases hz
  | cons x xs ih =>
    simp only [okFrom, Bool.and_eq_true] at h
    have hx := inn_yes h.1
    intro z hz
    rcases List.mem_cons.1 hz with rfl | hz
    · exact hx
    · have := ih h.2 z hz; omega


theorem isSide_any (n : Int) (W : World) : Calls Try.prog 60 #[.int .i64 n] W fun e w' => e = .returned (.bool (inn n 1 5)) ∧ W = w' := by
  by_cases h1 : 1 ≤ n
  · have d1 : decide (n ≥ 1) = true := by simp; omega
    have hfin : Hid (inn n 1 5 = decide (n ≤ 5)) := hide (by simp [inn, h1])
    go_enter Try.func60, Try.ntmps60
    go_wp2
    go_ret
    exact ⟨ret_bool hfin.out.symm, rfl⟩
  · have d1 : decide (n ≥ 1) = false := by simp; omega
    have hfin : Hid (inn n 1 5 = false) := hide (by simp [inn, h1])
    go_enter Try.func60, Try.ntmps60
    go_wp2
    go_ret
    exact ⟨ret_bool hfin.out.symm, rfl⟩
theorem isSide_is {b : Bool} {n : Int} (h : inn n 1 5 = b) (W : World) : Calls Try.prog 60 #[.int .i64 n] W fun e w' => e = .returned (.bool b) ∧ W = w' := by
  rw [← h]; exact isSide_any n W
theorem innS_any (n lo hi : Int) (W : World) : Calls Try.prog 52 #[.int .i64 n, .int .i64 lo, .int .i64 hi] W fun e w' => e = .returned (.bool (inn n lo hi)) ∧ W = w' := by
  by_cases h1 : lo ≤ n
  · have hfin : Hid (inn n lo hi = decide (n ≤ hi)) := hide (by simp [inn, h1])
    go_enter Try.func52, Try.ntmps52
    go_wp2
    go_ret
    exact ⟨ret_bool hfin.out.symm, rfl⟩
  · have hfin : Hid (inn n lo hi = false) := hide (by simp [inn, h1])
    go_enter Try.func52, Try.ntmps52
    go_wp2
    go_ret
    exact ⟨ret_bool hfin.out.symm, rfl⟩
theorem innS_is {b : Bool} {n lo hi : Int} (h : inn n lo hi = b) (W : World) : Calls Try.prog 52 #[.int .i64 n, .int .i64 lo, .int .i64 hi] W fun e w' => e = .returned (.bool b) ∧ W = w' := by
  rw [← h]; exact innS_any n lo hi W

def lst (cs : List Int) : Nat → Int | 0 => 5 | k + 1 => cs.getD k 0
theorem lst_succ {cs : List Int} {k : Nat} {z : Int} (h : cs[k]? = some z) : lst cs (k + 1) = z := by show cs.getD k 0 = z; rw [List.getD_eq_getElem?_getD, h]; rfl
theorem okFrom_no {l z : Int} {zs : List Int} (hl : l ≤ 5) (h : inn z 1 5 = false) : okFrom l (z :: zs) = false := by
  have := inn_no h
  have h2 : inn z 1 l = false := by simp [inn]; omega
  simp [okFrom, h2]
theorem okFrom_gt {l z : Int} {zs : List Int} (h : l < z) : okFrom l (z :: zs) = false := by
  have h2 : inn z 1 l = false := by simp [inn]; omega
  simp [okFrom, h2]
theorem okFrom_go {l z : Int} {zs : List Int} (h : inn z 1 5 = true) (hl : z ≤ l) : okFrom l (z :: zs) = okFrom z zs := by
  have := inn_yes h
  have h2 : inn z 1 l = true := inn_mk this.1 hl
  simp [okFrom, h2]

set_option maxRecDepth 100000 in
set_option maxHeartbeats 2000000 in
theorem implIsSea_any (wd hi : Int) (a : Option Addr) (c : Nat) (cs : List Int) (W : World) (ha : IntsAt W a cs) (hl : cs.length ≤ 1048576) :
    Calls Try.prog 38 #[.agg #[.int .i64 wd, .int .i64 hi, .slice a cs.length c]] W (RetB (.bool (seaB wd hi cs)) W) := by
  obtain ⟨W0, hW0⟩ : ∃ W0, W0 = W.alloc (.cells #[.int .i64 wd, .int .i64 hi, .slice a cs.length c] 29) := ⟨_, rfl⟩
  have hB0 : Hid (Below W.heap.size W W0) := by rw [hW0]; exact hide (below_alloc _ _)
  have hX0 : SeaIn W0 W.heap.size wd hi a cs.length c := by rw [hW0]; exact seaIn_new _ _ _ _ _ _ _
  have hA0 := ha.keep hB0.out
  obtain ⟨c0, c1, c2⟩ := hX0
  clear ha
  cases hw : inn wd 1 5
  · have hfin : Hid (seaB wd hi cs = false) := hide (by simp [seaB, hw])
    have HW := hide hw
    clear hw
    go_enter Try.func38, Try.ntmps38
    go_wp2_with fail
    rw [← hW0]
    clear hW0
    (try go_wp2_with fail)
    refine (isSide_is HW.out _).mono ?_
    rintro e w1 ⟨rfl, rfl⟩
    go_wp2
    go_ret
    exact ⟨ret_bool hfin.out.symm, hB0.out⟩
  cases hh : inn hi 1 5
  · have hfin : Hid (seaB wd hi cs = false) := hide (by simp [seaB, hh])
    have HW := hide hw
    have HH := hide hh
    clear hw hh
    go_enter Try.func38, Try.ntmps38
    go_wp2_with fail
    rw [← hW0]
    clear hW0
    (try go_wp2_with fail)
    refine (isSide_is HW.out _).mono ?_
    rintro e w1 ⟨rfl, rfl⟩
    go_wp2_with fail
    refine (isSide_is HH.out _).mono ?_
    rintro e w1 ⟨rfl, rfl⟩
    go_wp2
    go_ret
    exact ⟨ret_bool hfin.out.symm, hB0.out⟩
  by_cases hl1 : 1 ≤ cs.length
  · by_cases hl3 : cs.length ≤ 3
    · have hfin : Hid (seaB wd hi cs = okFrom 5 cs) := hide (by simp [seaB, hw, hh, hl1, hl3])
      have HW := hide hw
      have HH := hide hh
      clear hw hh
      go_enter Try.func38, Try.ntmps38
      go_wp2_with fail
      rw [← hW0]
      clear hW0
      (try go_wp2_with fail)
      refine (isSide_is HW.out _).mono ?_
      rintro e w1 ⟨rfl, rfl⟩
      go_wp2_with fail
      refine (isSide_is HH.out _).mono ?_
      rintro e w1 ⟨rfl, rfl⟩
      go_wp2
      go_loop [30] (fun i => ∃ (k : Nat), k ≤ cs.length ∧ i = .int .i64 k ∧ lst cs k ≤ 5 ∧ Hid (okFrom (lst cs k) (cs.drop k) = okFrom 5 cs)) (fun i => cs.length - (intOf i).toNat)
      case atStart => exact ⟨0, Nat.zero_le _, rfl, Int.le_refl _, hide rfl⟩
      case round =>
        obtain ⟨k, hk, rfl, hl5, hO⟩ := hrel
        by_cases hlt : k < cs.length
        · obtain ⟨b1, o1, z, rfl, h1, hz⟩ := hA0.one hlt
          have hO' : Hid (okFrom (lst cs k) (z :: cs.drop (k + 1)) = okFrom 5 cs) := by have := hO.out; rw [drop_of_get hz.out] at this; exact hide this
          clear hO
          cases hs : inn z 1 5
          · have hno : Hid (okFrom 5 cs = false) := hide (by rw [← hO'.out]; exact okFrom_no hl5 hs)
            have HS := hide hs
            clear hs hO' hA0
            go_wp2_with fail
            refine (isSide_is HS.out _).mono ?_
            rintro e w1 ⟨rfl, rfl⟩
            go_wp2
            go_ret
            exact ⟨ret_bool (by rw [hfin.out, hno.out]), hB0.out⟩
          · have hz5 := inn_yes hs
            have hls := lst_succ hz.out
            rcases Nat.eq_zero_or_pos k with h0 | h0
            · subst h0
              rw [Nat.add_zero] at h1
              have hnx : Hid (okFrom (lst cs 1) (cs.drop (0 + 1)) = okFrom 5 cs) := hide (by rw [hls, ← hO'.out, okFrom_go hs (by show z ≤ 5; omega)])
              have HS := hide hs
              have HLS := hide (show lst cs 1 ≤ 5 by rw [hls]; omega)
              clear hs hO' hA0 hls hz5
              go_wp2_with fail
              refine (isSide_is HS.out _).mono ?_
              rintro e w1 ⟨rfl, rfl⟩
              go_wp2
              go_round
              case rel => exact ⟨1, by omega, rfl, HLS.out, hnx⟩
              case measure => simp [intOf]; omega
            · obtain ⟨j, rfl⟩ : ∃ j, k = j + 1 := ⟨k - 1, by omega⟩
              obtain ⟨b2, o2, y, he2, h2, hy⟩ := hA0.one (k := j) (by omega)
              cases he2
              have hyl := lst_succ hy.out
              by_cases hgt : y < z
              · have hno : Hid (okFrom 5 cs = false) := hide (by rw [← hO'.out, hyl]; exact okFrom_gt hgt)
                have HS := hide hs
                clear hs hO' hA0 hls hz5 hyl hl5
                have hd0 : (0 : Int) < ((j + 1 : Nat) : Int) := by omega
                go_wp2_with fail
                refine (isSide_is HS.out _).mono ?_
                rintro e w1 ⟨rfl, rfl⟩
                go_wp2
                go_ret
                exact ⟨ret_bool (by rw [hfin.out, hno.out]), hB0.out⟩
              · have hnx : Hid (okFrom (lst cs (j + 1 + 1)) (cs.drop (j + 1 + 1)) = okFrom 5 cs) := hide (by rw [hls, ← hO'.out, okFrom_go hs (by rw [hyl]; omega)])
                have HS := hide hs
                have HLS := hide (show lst cs (j + 1 + 1) ≤ 5 by rw [hls]; omega)
                clear hs hO' hA0 hls hz5 hyl hl5
                have hd0 : (0 : Int) < ((j + 1 : Nat) : Int) := by omega
                go_wp2_with fail
                refine (isSide_is HS.out _).mono ?_
                rintro e w1 ⟨rfl, rfl⟩
                go_wp2
                go_round
                case rel => exact ⟨j + 1 + 1, by omega, by go_num, HLS.out, hnx⟩
                case measure => simp [intOf]; omega
        · obtain rfl : k = cs.length := by omega
          clear hA0
          go_wp2
          go_ret
          refine ⟨ret_bool ?_, hB0.out⟩
          rw [hfin.out, ← hO.out, List.drop_length]
          rfl
    · have hfin : Hid (seaB wd hi cs = false) := hide (by simp [seaB]; omega)
      have HW := hide hw
      have HH := hide hh
      clear hw hh
      go_enter Try.func38, Try.ntmps38
      go_wp2_with fail
      rw [← hW0]
      clear hW0
      (try go_wp2_with fail)
      refine (isSide_is HW.out _).mono ?_
      rintro e w1 ⟨rfl, rfl⟩
      go_wp2_with fail
      refine (isSide_is HH.out _).mono ?_
      rintro e w1 ⟨rfl, rfl⟩
      go_wp2
      go_ret
      exact ⟨ret_bool hfin.out.symm, hB0.out⟩
  · have hfin : Hid (seaB wd hi cs = false) := hide (by simp [seaB]; omega)
    have HW := hide hw
    have HH := hide hh
    clear hw hh
    go_enter Try.func38, Try.ntmps38
    go_wp2_with fail
    rw [← hW0]
    clear hW0
    (try go_wp2_with fail)
    refine (isSide_is HW.out _).mono ?_
    rintro e w1 ⟨rfl, rfl⟩
    go_wp2_with fail
    refine (isSide_is HH.out _).mono ?_
    rintro e w1 ⟨rfl, rfl⟩
    go_wp2
    go_ret
    exact ⟨ret_bool hfin.out.symm, hB0.out⟩
end Go.Proofs.Ytkekanllfpdeaab
