/-
  Ends of dots and boxes: the answers that are open, as function values.
-/
import Derived.Test.YtbfpbkbhikogiabStr
import Derived.Test.YtbfpbkbhikogiabEp
namespace Go.Proofs.Ytbfpbkbhikogiab
open Go.RowKit
set_option linter.unusedVariables false

set_option maxHeartbeats 400000 in
theorem greedy_any (k b rest : Int) (W : World) (h0 : 0 ≤ b) (h1 : b ≤ 30) (h2 : -400 ≤ rest) (h3 : rest ≤ 400) :
    Calls Try.prog 38 #[.agg #[.int .i64 k, .int .i64 b], .int .i64 rest] W (RetB (.int .i64 (b + rest)) W) := by
  go_enter Try.func38, Try.ntmps38
  go_wp2
  go_ret
  exact ⟨rfl, below_alloc _ _⟩

set_option maxHeartbeats 400000 in
theorem sparing_any (k b rest : Int) (W : World) (h0 : 0 ≤ b) (h1 : b ≤ 30) (h2 : -400 ≤ rest) (h3 : rest ≤ 400) :
    Calls Try.prog 39 #[.agg #[.int .i64 k, .int .i64 b], .int .i64 rest] W (RetB (.int .i64 (b - 2 * leftOf k - rest)) W) := by
  by_cases hk : k = 1
  · subst hk
    have hl : Hid (b - 2 * leftOf 1 - rest = b - 4 - 4 - rest) := hide (by unfold leftOf; rw [if_pos rfl]; omega)
    rw [hl.out]
    go_enter Try.func39, Try.ntmps39
    go_wp2
    go_ret
    exact ⟨rfl, below_alloc _ _⟩
  · have hl : Hid (b - 2 * leftOf k - rest = b - 2 - 2 - rest) := hide (by unfold leftOf; rw [if_neg hk]; omega)
    rw [hl.out]
    have hne : (k == 1) = false := by simpa using hk
    go_enter Try.func39, Try.ntmps39
    go_wp2
    go_ret
    exact ⟨rfl, below_alloc _ _⟩

def nAns (k b : Int) : Nat := if spOpen (k, b) = true then 2 else 1
def grV : Value := .func (.func 38) #[] #[]
def spV : Value := .func (.func 39) #[] #[]
/-- The row of answers in block g. -/
def AnsAt (W : World) (g : Nat) (k b : Int) : Prop := W.cell? ⟨g, 0, none⟩ = some (.func (.func 38) #[] #[]) ∧ (spOpen (k, b) = true → W.cell? ⟨g, 1, none⟩ = some (.func (.func 39) #[] #[]))
theorem AnsAt.keep {W W' : World} {g : Nat} {k b : Int} (h : AnsAt W g k b) (hb : Below W.heap.size W W') : AnsAt W' g k b := ⟨cell_keep hb h.1, fun ho => cell_keep hb (h.2 ho)⟩
def AnsPost (k b : Int) (W : World) (e : Ending) (W' : World) : Prop := ∃ g, e = .returned (.slice (some ⟨g, 0, none⟩) (nAns k b) (nAns k b)) ∧ AnsAt W' g k b ∧ Below W.heap.size W W'
theorem spOpen_01 {k b : Int} (hk : k = 0 ∨ k = 1) : spOpen (k, b) = false ↔ (k = 0 ∧ b < 3) := by
  unfold spOpen
  rcases hk with rfl | rfl <;> simp <;> omega

set_option maxHeartbeats 1000000 in
theorem answers_any (k b : Int) (W : World) (hk : k = 0 ∨ k = 1) :
    Calls Try.prog 35 #[.agg #[.int .i64 k, .int .i64 b]] W (AnsPost k b W) := by
  cases ho : spOpen (k, b)
  · obtain ⟨rfl, hb⟩ := (spOpen_01 hk).1 ho
    have HO := hide ho
    have hn : Hid (nAns 0 b = 1) := hide (by unfold nAns; rw [ho]; rfl)
    have hB := hide ((below_alloc W (.cells #[.int .i64 0, .int .i64 b] 55)).alloc (by simp) (.cells #[.func (.func 38) #[] #[]] 73))
    clear ho
    go_enter Try.func35, Try.ntmps35
    go_wp2
    go_ret
    refine ⟨W.heap.size + 1, by rw [hn.out]; rfl, ⟨by simp [go_sem], fun h => by rw [HO.out] at h; cases h⟩, hB.out⟩
  · have hn : Hid (nAns k b = 2) := hide (by unfold nAns; rw [ho]; rfl)
    have hB := hide ((below_alloc W (.cells #[.int .i64 k, .int .i64 b] 55)).alloc (by simp) (.cells #[.func (.func 38) #[] #[], .func (.func 39) #[] #[]] 73))
    have hnot : ¬ (k = 0 ∧ b < 3) := fun h => by rw [(spOpen_01 hk).2 h] at ho; cases ho
    clear ho
    rcases hk with rfl | rfl
    · have hb3 : ¬ b < 3 := fun h => hnot ⟨rfl, h⟩
      clear hnot
      go_enter Try.func35, Try.ntmps35
      go_wp2
      go_ret
      refine ⟨W.heap.size + 1, by rw [hn.out]; rfl, ⟨by simp [go_sem], fun h => by simp [go_sem]⟩, hB.out⟩
    · clear hnot
      go_enter Try.func35, Try.ntmps35
      go_wp2
      go_ret
      refine ⟨W.heap.size + 1, by rw [hn.out]; rfl, ⟨by simp [go_sem], fun h => by simp [go_sem]⟩, hB.out⟩
end Go.Proofs.Ytbfpbkbhikogiab
