/-
  AnswersOf, both texts.
-/
import Derived.Test.YtkekanllfpdeaabAd
namespace Go.Proofs.Ytkekanllfpdeaab
open Go.RowKit
set_option linter.unusedVariables false

/-- The answers to shots, when the shots before are at the set s. -/
def ansL (f : List Int) : List Int → Int → List Int
  | [], _ => []
  | x :: t, s => ansF x (withE s x) f :: ansL f t (withE s x)
theorem ansL_len (f : List Int) : ∀ (xs : List Int) (s : Int), (ansL f xs s).length = xs.length
  | [], _ => rfl
  | x :: t, s => by show (ansL f t _).length + 1 = t.length + 1; rw [ansL_len f t]
def ansR (wd hi : Int) (cs f xs : List Int) : List Int × Int := if codF wd hi cs f = 0 then (if difF (wd * hi) xs 0 = true then (ansL f xs 0, 0) else ([], 2)) else ([], codF wd hi cs f)
theorem ansR_le (wd hi : Int) (cs f xs : List Int) : (ansR wd hi cs f xs).1.length ≤ xs.length := by
  unfold ansR
  split
  · split
    · rw [ansL_len]; omega
    · simp
  · simp
theorem codF_zero {wd hi : Int} {cs f : List Int} (h : codF wd hi cs f = 0) : seaB wd hi cs = true ∧ fleetB wd hi cs f = true := by
  unfold codF at h
  split at h
  · split at h
    · exact ⟨by assumption, by assumption⟩
    · omega
  · omega
theorem fleet_facts {wd hi : Int} {cs f : List Int} (hs : seaB wd hi cs = true) (h : fleetB wd hi cs f = true) : f.length = cs.length ∧ ∀ z ∈ f, 0 ≤ z ∧ z < 33554432 := by
  simp only [fleetB, Bool.and_eq_true, decide_eq_true_eq, List.all_eq_true, List.mem_range] at h
  refine ⟨h.1, fun z hz => ?_⟩
  obtain ⟨i, hi, rfl⟩ := List.mem_iff_getElem.1 hz
  have h2 := h.2 i hi
  unfold stepB at h2
  rw [Bool.and_eq_true, List.getD_eq_getElem?_getD, List.getElem?_eq_getElem hi] at h2
  exact (plAt_facts hs (by omega)).1 _ (List.contains_iff_mem.1 h2.1)
theorem difF_mem {n : Int} : ∀ {xs : List Int} {s : Int}, difF n xs s = true → ∀ x ∈ xs, 0 ≤ x ∧ x < n
  | [], _, _, x, h => by cases h
  | y :: t, s, hd, x, h => by
    unfold difF at hd
    split at hd
    · rename_i k
      rcases List.mem_cons.1 h with rfl | h
      · exact ⟨k.1, k.2.1⟩
      · exact difF_mem hd x h
    · cases hd
theorem copiedN_set {w : World} {b : Nat} {t : TypeId} {n : Nat} {zs : List Int} {k : Nat} {z : Int} (h : w.rowIs b t n (copied zs k)) (hz : zs[k]? = some z) :
    (w.setCell ⟨b, k, none⟩ (.int .i64 z)).rowIs b t n (copied zs (k + 1)) := by
  refine (h.set k (.int .i64 z)).congr ?_
  intro i _
  unfold copied
  by_cases e : i = k
  · subst e; simp [hz]
  · simp only [e, if_false]
    by_cases h1 : i < k
    · rw [if_pos h1, if_pos (by omega)]
    · rw [if_neg h1, if_neg (by omega)]

end Go.Proofs.Ytkekanllfpdeaab
