/-
  Different cells of a sea: areCells, l09Different.
-/
import Derived.Test.YtkekanllfpdeaabAn
namespace Go.Proofs.Ytkekanllfpdeaab
open Go.RowKit
set_option linter.unusedVariables false

/-- The numbers are cells of a sea of n cells, different and none of the set s. -/
def difF (n : Int) : List Int → Int → Bool
  | [], _ => true
  | x :: t, s => if 0 ≤ x ∧ x < n ∧ dg s x = 0 then difF n t (withE s x) else false
theorem difF_out {n x s : Int} {t : List Int} (h : ¬ (0 ≤ x ∧ x < n)) : difF n (x :: t) s = false := by
  unfold difF; rw [if_neg (fun k => h ⟨k.1, k.2.1⟩)]
theorem difF_twice {n x s : Int} {t : List Int} (h : dg s x = 1) : difF n (x :: t) s = false := by
  unfold difF; rw [if_neg (fun k => by have := k.2.2; omega)]
theorem difF_go {n x s : Int} {t : List Int} (h0 : 0 ≤ x) (h1 : x < n) (h : dg s x = 0) : difF n (x :: t) s = difF n t (withE s x) := by
  rw [difF, if_pos ⟨h0, h1, h⟩]
theorem sea_q {wd hi : Int} {cs : List Int} (hs : seaB wd hi cs = true) : 1 ≤ wd * hi ∧ wd * hi ≤ 25 := by
  obtain ⟨a0, a1, b0, b1, _⟩ := seaB_yes hs
  have : wd = 1 ∨ wd = 2 ∨ wd = 3 ∨ wd = 4 ∨ wd = 5 := by omega
  rcases this with h | h | h | h | h <;> subst h <;> omega

set_option maxRecDepth 100000 in
set_option maxHeartbeats 4000000 in
theorem areCells_any (wd hi : Int) (a : Option Addr) (l c : Nat) (ax : Option Addr) (cx : Nat) (xs : List Int) (W : World) (h1 : 1 ≤ wd * hi) (h25 : wd * hi ≤ 25) (hx : IntsAt W ax xs) (hl : xs.length ≤ 1048576) :
    Calls Try.prog 89 #[.agg #[.int .i64 wd, .int .i64 hi, .slice a l c], .slice ax xs.length cx] W (RetB (.bool (difF (wd * hi) xs 0)) W) := by
  obtain ⟨q, hq⟩ : ∃ q, q = wd * hi := ⟨_, rfl⟩
  have hqw : wrap64 (wd * hi) = q := by rw [hq]; unfold wrap64; omega
  obtain ⟨R, hR⟩ : ∃ R, R = difF (wd * hi) xs 0 := ⟨_, rfl⟩
  rw [← hR]
  rw [← hq] at hR h1 h25
  have HR := hide hR
  obtain ⟨W0, hW0⟩ : ∃ W0, W0 = W.alloc (.cells #[.int .i64 wd, .int .i64 hi, .slice a l c] 29) := ⟨_, rfl⟩
  have hB0 : Hid (Below W.heap.size W W0) := by rw [hW0]; exact hide (below_alloc _ _)
  have hX0 : Hid (SeaIn W0 W.heap.size wd hi a l c) := by rw [hW0]; exact hide (seaIn_new _ _ _ _ _ _ _)
  have HX := hide (hx.keep hB0.out)
  clear hq hR hx
  go_enter Try.func89, Try.ntmps89
  go_wp2_with fail
  rw [← hW0]
  clear hW0
  go_loopw [5, 10] (fun v5 v10 wr => ∃ (i : Nat) (s : Int), v5 = .int .i64 s ∧ v10 = .int .i64 i ∧ i ≤ xs.length ∧ (0 ≤ s ∧ s < 33554432) ∧ Hid (R = difF q (xs.drop i) s) ∧ Below W0.heap.size W0 wr) (fun _ v10 _ => xs.length - (intOf v10).toNat)
  case atStart => exact ⟨0, 0, rfl, rfl, Nat.zero_le _, by omega, hide (by rw [List.drop_zero]; exact HR.out), Below.refl _ _⟩
  case round =>
    obtain ⟨i, s, rfl, rfl, hi2, ⟨s0, s1⟩, hI, hB⟩ := hrel
    have HB := hide hB
    have HB2 := hide (Below.trans' hB0.out hB)
    obtain ⟨c0, c1, c2⟩ := hX0.out.keep hB
    clear c2
    by_cases hlt : i < xs.length
    · obtain ⟨b1, o1, x, rfl, ex, hg⟩ := (HX.out.keep hB).one hlt
      have hI2 : Hid (R = difF q (x :: xs.drop (i + 1)) s) := hide (by rw [hI.out, drop_of_get hg.out])
      clear hI hB hg
      by_cases hx0 : x < 0
      · have hfin : Hid (R = false) := hide (by rw [hI2.out, difF_out (by omega)])
        have hd : decide (x < 0) = true := decide_eq_true hx0
        clear hI2
        go_wp2_with fail
        go_ret
        exact ⟨ret_bool hfin.out.symm, HB2.out⟩
      · by_cases hxq : x < q
        · have hcn : ¬ (x < 0) := hx0
          have f13 : min x.toNat 64 = x.toNat := by omega
          have hdg := dg_walkL (E := s) (k := x) s0 (by omega)
          have hsh := shl_walkX (k := x) (by omega)
          have hor := or_walkX (E := s) (k := x) s0 (by omega) (by omega)
          have hge : decide (x ≥ q) = false := decide_eq_false (by omega)
          have hd : decide (x < 0) = false := decide_eq_false hx0
          have h01 := dg_01 s x
          have hlt2 : Hid (0 ≤ withE s x ∧ withE s x < 33554432) := hide ⟨withE_nonneg _ _, withE_lt (n := 25) s0 s1 (by omega)⟩
          have hgo : Hid (dg s x = 0 → R = difF q (xs.drop (i + 1)) (withE s x)) := hide (fun h => by rw [hI2.out, difF_go (by omega) hxq h])
          have hno : Hid (dg s x = 1 → R = false) := hide (fun h => by rw [hI2.out, difF_twice h])
          obtain ⟨D, hD⟩ : ∃ D, D = dg s x := ⟨_, rfl⟩
          obtain ⟨E, hE⟩ : ∃ E, E = withE s x := ⟨_, rfl⟩
          rw [← hD] at hdg hgo hno h01
          rw [← hE] at hor hlt2 hgo
          clear hI2 hD hE
          rcases h01 with h01 | h01
          · subst h01
            have hfin := hgo.out rfl
            have HFIN := hide hfin
            clear hfin
            go_wp2_with fail
            go_roundw
            case rel => exact ⟨i + 1, E, rfl, by go_num, by omega, hlt2.out, HFIN, HB.out⟩
            case measure => simp [intOf]; omega
          · subst h01
            have hfin := hno.out rfl
            have HFIN := hide hfin
            clear hfin
            go_wp2_with fail
            go_ret
            exact ⟨ret_bool HFIN.out.symm, HB2.out⟩
        · have hfin : Hid (R = false) := hide (by rw [hI2.out, difF_out (by omega)])
          have hge : decide (x ≥ q) = true := decide_eq_true (by omega)
          have hd : decide (x < 0) = false := decide_eq_false hx0
          clear hI2
          go_wp2_with fail
          go_ret
          exact ⟨ret_bool hfin.out.symm, HB2.out⟩
    · obtain rfl : i = xs.length := by omega
      have hfin : Hid (R = true) := hide (by rw [hI.out, List.drop_length]; rfl)
      clear hI hB
      go_wp2_with fail
      go_ret
      exact ⟨ret_bool hfin.out.symm, HB2.out⟩

end Go.Proofs.Ytkekanllfpdeaab
