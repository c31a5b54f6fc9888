/-
  slices.Min over numbers.
-/
import Derived.Test.YtogfoahejgmfgaaNp
import Derived.Test.YtogfoahejgmfgaaNums
namespace Go.Proofs.Ytogfoahejgmfgaa
open Go.RowKit
set_option linter.unusedVariables false

theorem mnL_take {l : List Int} {k : Nat} {y : Int} (h : l[k]? = some y) (hk : 0 < k) : mnL (l.take (k + 1)) = if y < mnL (l.take k) then y else mnL (l.take k) := by
  cases l with
  | nil => simp at h
  | cons x r =>
    obtain ⟨j, rfl⟩ : ∃ j, k = j + 1 := ⟨k - 1, by omega⟩
    have h' : r[j]? = some y := by simpa using h
    simp only [List.take_succ_cons, mnL]
    rw [List.take_add_one, h']
    rw [List.foldl_append]
    rfl
set_option maxRecDepth 100000 in
set_option maxHeartbeats 1000000 in
theorem min_any (a : Option Addr) (c : Nat) (zs : List Int) (W : World) (ha : IntsAt W a zs) (h0 : 0 < zs.length) (hl : zs.length ≤ 1048576) :
    Calls Try.prog 109 #[.slice a zs.length c] W (RetB (.int .i64 (mnL zs)) W) := by
  obtain ⟨n, hn⟩ : ∃ n, n = zs.length := ⟨_, rfl⟩
  rw [← hn] at h0 hl ⊢
  have HN := hide hn
  obtain ⟨b, off, rfl, hcs⟩ := ha.get (k := 0) (by rw [← hn]; exact h0)
  obtain ⟨z, hz⟩ : ∃ z, zs[0]? = some z := ⟨_, List.getElem?_eq_getElem (by rw [← hn]; exact h0)⟩
  have c0 := hcs 0 (by rw [← hn]; exact h0)
  rw [hz] at c0
  simp only [Option.getD_some, Nat.add_zero] at c0
  have HCS := hide hcs
  have HZ := hide hz
  have hn1 : ¬ ((n : Int) < 1) := by omega
  clear hn hz ha hcs
  go_enter Try.func109, Try.ntmps109
  go_wp2
  go_loop [3, 4] (fun m i => ∃ k : Nat, 1 ≤ k ∧ k ≤ n ∧ i = .int .i64 k ∧ m = .int .i64 (mnL (zs.take k))) (fun _ i => n - (intOf i).toNat)
  case atStart => exact ⟨1, Nat.le_refl _, by omega, rfl, by
    have hz1 : zs.take 1 = [z] := by rw [List.take_add_one, HZ.out]; simp
    rw [hz1]
    rfl⟩
  case round =>
    clear c0 hn1
    obtain ⟨k, hk1, hk, rfl, rfl⟩ := hrel
    obtain ⟨m, hm⟩ : ∃ m, m = mnL (zs.take k) := ⟨_, rfl⟩
    rw [← hm]
    have HM := hide hm
    clear hm
    by_cases hlt : k < n
    · obtain ⟨y, hy⟩ : ∃ y, zs[k]? = some y := ⟨_, List.getElem?_eq_getElem (by rw [← HN.out]; exact hlt)⟩
      have cy := HCS.out k (by rw [← HN.out]; exact hlt)
      rw [hy] at cy
      simp only [Option.getD_some] at cy
      have hstep := mnL_take hy (by omega)
      rw [← HM.out] at hstep
      have HS := hide hstep
      clear hy hstep
      by_cases hmy : y < m
      · have hn : Hid (mnL (zs.take (k + 1)) = y) := hide (by rw [HS.out, if_pos hmy])
        go_wp2
        go_round
        case rel => exact ⟨k + 1, by omega, by omega, by go_num, by rw [hn.out]⟩
        case measure => simp [intOf]; omega
      · have hn : Hid (mnL (zs.take (k + 1)) = m) := hide (by rw [HS.out, if_neg hmy])
        go_wp2
        go_round
        case rel => exact ⟨k + 1, by omega, by omega, by go_num, by rw [hn.out]⟩
        case measure => simp [intOf]; omega
    · obtain rfl : k = n := by omega
      have hf : Hid (m = mnL zs) := hide (by rw [HM.out, HN.out, List.take_length])
      go_wp2
      go_ret
      exact ⟨by rw [hf.out]; rfl, Below.refl _ _⟩

end Go.Proofs.Ytogfoahejgmfgaa
