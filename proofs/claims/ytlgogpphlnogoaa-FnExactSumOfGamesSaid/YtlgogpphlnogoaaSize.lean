/-
  szGame with whatever is left.
-/
import Derived.Test.YtlgogpphlnogoaaGrid
namespace Go.Proofs.Ytlgogpphlnogoaa
open Go.RowKit

theorem szAll_bd (xss : List (List Int)) (l : Int) : -1 ≤ szAll xss l ∧ szAll xss l ≤ max l (-1) := by
  unfold szAll
  split
  · omega
  · have := szRows_le xss (l - (xss.length : Int)) (by omega)
    omega
theorem szAll_small2 {xss : List (List Int)} {l : Int} (hl : l ≤ 1048576) (h : 0 ≤ szAll xss l) : Small xss := by
  unfold szAll at h
  split at h
  · omega
  · exact ⟨by omega, szRows_small xss _ (by omega) h⟩

set_option maxHeartbeats 400000 in
theorem szGame_gen (a : Option Addr) (c : Nat) (xss : List (List Int)) (l : Int) (w : World) (ha : RowsAt w a xss) (hl : 0 ≤ l) (hl2 : l ≤ 1048576) (hn : xss.length ≤ 9223372036854775807) (hf : Fits xss) :
    Calls Try.prog 10 #[.agg #[.slice a xss.length c], .int .i64 l] w fun e w' => e = .returned (.int .i64 (szAll xss l)) ∧ Below w.heap.size w w' := by
  have hlo := szAll_bd xss l
  obtain ⟨s, hs⟩ : ∃ s, s = szAll xss l := ⟨_, rfl⟩
  rw [← hs] at hlo ⊢
  have HS := hide hs
  clear hs
  go_enter Try.func10, Try.ntmps10
  go_wp2_with fail
  have hB : Below w.heap.size w (w.alloc (.cells #[.slice a xss.length c] 24)) := (Below.refl _ _).alloc (Nat.le_refl _) _
  refine (szInt64SS_any _ _ xss _ _ (ha.keep hB) hl hl2 hn hf).mono ?_
  rintro e w1 ⟨he, hB1⟩
  rw [← HS.out] at he
  subst he
  by_cases h : s < 0
  · obtain rfl : s = -1 := by omega
    go_wp2_with fail
    go_ret
    exact ⟨rfl, Below.trans' hB hB1⟩
  · go_wp2_with fail
    go_ret
    exact ⟨rfl, Below.trans' hB hB1⟩
end Go.Proofs.Ytlgogpphlnogoaa
