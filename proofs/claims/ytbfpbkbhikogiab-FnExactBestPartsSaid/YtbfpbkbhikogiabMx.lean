/-
  slices.Max and slices.Index at rows of numbers.
-/
import Derived.Test.YtbfpbkbhikogiabMn
import Derived.Test.YtbfpbkbhikogiabOw
import Derived.Deep.LoopGhost
namespace Go.Proofs.Ytbfpbkbhikogiab
open Go.RowKit
set_option linter.unusedVariables false

def mx : List Int → Int
  | [] => 0
  | x :: r => r.foldl (fun a b => if a < b then b else a) x
theorem mx_take {l : List Int} {k : Nat} {y : Int} (h : l[k]? = some y) (hk : 0 < k) : mx (l.take (k + 1)) = if mx (l.take k) < y then y else mx (l.take k) := by
  cases l with
  | nil => simp at h
  | cons x r =>
    obtain ⟨j, rfl⟩ : ∃ j, k = j + 1 := ⟨k - 1, by omega⟩
    have h' : r[j]? = some y := by simpa using h
    simp only [List.take_succ_cons, mx]
    rw [List.take_add_one, h']
    rw [List.foldl_append]
    rfl

set_option maxRecDepth 100000 in
set_option maxHeartbeats 1000000 in
theorem max_any (a : Option Addr) (c : Nat) (zs : List Int) (W : World) (ha : IntsAt W a zs) (h0 : 0 < zs.length) (hl : zs.length ≤ 1048576) :
    Calls Try.prog 36 #[.slice a zs.length c] W (RetB (.int .i64 (mx zs)) W) := by
  obtain ⟨n, hn⟩ : ∃ n, n = zs.length := ⟨_, rfl⟩
  rw [← hn] at h0 hl ⊢
  have HN := hide hn
  obtain ⟨b, off, rfl, hcs⟩ := ha.get (k := 0) (by rw [← hn]; exact h0)
  obtain ⟨z, hz⟩ : ∃ z, zs[0]? = some z := ⟨_, List.getElem?_eq_getElem (by rw [← hn]; exact h0)⟩
  have c0 := hcs 0 (by rw [← hn]; exact h0)
  rw [hz] at c0
  simp only [Option.getD_some, Nat.add_zero] at c0
  have HCS := hide hcs
  have HZ := hide hz
  have hn1 : ¬ ((n : Int) < 1) := by omega
  clear hn hz ha hcs
  go_enter Try.func36, Try.ntmps36
  go_wp2
  go_loop [3, 4] (fun m i => ∃ k : Nat, 1 ≤ k ∧ k ≤ n ∧ i = .int .i64 k ∧ m = .int .i64 (mx (zs.take k))) (fun _ i => n - (intOf i).toNat)
  case atStart => exact ⟨1, Nat.le_refl _, by omega, rfl, by
    have hz1 : zs.take 1 = [z] := by rw [List.take_add_one, HZ.out]; simp
    rw [hz1]
    rfl⟩
  case round =>
    clear c0 hn1
    obtain ⟨k, hk1, hk, rfl, rfl⟩ := hrel
    obtain ⟨m, hm⟩ : ∃ m, m = mx (zs.take k) := ⟨_, rfl⟩
    rw [← hm]
    have HM := hide hm
    clear hm
    by_cases hlt : k < n
    · obtain ⟨y, hy⟩ : ∃ y, zs[k]? = some y := ⟨_, List.getElem?_eq_getElem (by rw [← HN.out]; exact hlt)⟩
      have cy := HCS.out k (by rw [← HN.out]; exact hlt)
      rw [hy] at cy
      simp only [Option.getD_some] at cy
      have hstep := mx_take hy (by omega)
      rw [← HM.out] at hstep
      have HS := hide hstep
      clear hy hstep
      by_cases hmy : m < y
      · have hn : Hid (mx (zs.take (k + 1)) = y) := hide (by rw [HS.out, if_pos hmy])
        go_wp2
        go_round
        case rel => exact ⟨k + 1, by omega, by omega, by go_num, by rw [hn.out]⟩
        case measure => simp [intOf]; omega
      · have hn : Hid (mx (zs.take (k + 1)) = m) := hide (by rw [HS.out, if_neg hmy])
        go_wp2
        go_round
        case rel => exact ⟨k + 1, by omega, by omega, by go_num, by rw [hn.out]⟩
        case measure => simp [intOf]; omega
    · obtain rfl : k = n := by omega
      have hf : Hid (m = mx zs) := hide (by rw [HM.out, HN.out, List.take_length])
      go_wp2
      go_ret
      exact ⟨by rw [hf.out]; rfl, Below.refl _ _⟩

/-- The first place of a number. -/
def ixI : List Int → Int → Nat → Int
  | [], _, _ => -1
  | y :: r, x, k => if x = y then k else ixI r x (k + 1)
theorem ixI_step {zs : List Int} {k : Nat} {x y : Int} (h : zs[k]? = some y) : ixI (zs.drop k) x k = if x = y then (k : Int) else ixI (zs.drop (k + 1)) x (k + 1) := by
  rw [drop_of_get h]
  rfl
set_option maxRecDepth 100000 in
set_option maxHeartbeats 1000000 in
theorem indexI_any (a : Option Addr) (c : Nat) (zs : List Int) (x : Int) (W : World) (ha : IntsAt W a zs) (hl : zs.length ≤ 1048576) :
    Calls Try.prog 37 #[.slice a zs.length c, .int .i64 x] W (RetB (.int .i64 (ixI zs x 0)) W) := by
  obtain ⟨n, hn⟩ : ∃ n, n = zs.length := ⟨_, rfl⟩
  obtain ⟨r, hr⟩ : ∃ r, r = ixI zs x 0 := ⟨_, rfl⟩
  rw [← hn] at hl ⊢
  rw [← hr]
  have HN := hide hn
  have HR := hide hr
  have HA := hide ha
  clear hn hr ha
  go_enter Try.func37, Try.ntmps37
  go_wp2
  go_loop [8] (fun i => ∃ k : Nat, k ≤ n ∧ i = .int .i64 k ∧ Hid (r = ixI (zs.drop k) x k)) (fun i => n - (intOf i).toNat)
  case atStart => exact ⟨0, Nat.zero_le _, rfl, hide (by rw [List.drop_zero]; exact HR.out)⟩
  case round =>
    obtain ⟨k, hk, rfl, hrk⟩ := hrel
    by_cases hlt : k < n
    · obtain ⟨b, off, y, rfl, cy, hy⟩ := HA.out.one (k := k) (by rw [← HN.out]; exact hlt)
      have hstep := hide (ixI_step (x := x) hy.out)
      by_cases hxy : x = y
      · have hf : Hid (r = (k : Int)) := hide (by rw [hrk.out, hstep.out, if_pos hxy])
        subst hxy
        go_wp2
        go_ret
        exact ⟨by rw [hf.out]; rfl, Below.refl _ _⟩
      · have hne : (x == y) = false := by simpa using hxy
        have hf : Hid (r = ixI (zs.drop (k + 1)) x (k + 1)) := hide (by rw [hrk.out, hstep.out, if_neg hxy])
        clear hxy
        go_wp2
        go_round
        case rel => exact ⟨k + 1, by omega, by go_num, hf⟩
        case measure => simp [intOf]; omega
    · obtain rfl : k = n := by omega
      have hf : Hid (r = -1) := hide (by rw [hrk.out, HN.out, List.drop_length]; rfl)
      go_wp2
      go_ret
      exact ⟨by rw [hf.out]; rfl, Below.refl _ _⟩
end Go.Proofs.Ytbfpbkbhikogiab
