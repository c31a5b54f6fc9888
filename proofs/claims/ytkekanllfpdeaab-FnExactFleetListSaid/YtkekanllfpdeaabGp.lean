/-
  FleetList: the model's l09Go.
-/
import Derived.Test.YtkekanllfpdeaabFp
import Derived.Test.YtkekanllfpdeaabHq
import Derived.Test.YtkekanllfpdeaabPv
namespace Go.Proofs.Ytkekanllfpdeaab
open Go.RowKit
set_option linter.unusedVariables false

/-- The fleets that go on with f behind the first k placements. -/
def goX (wd hi : Int) (cs f : List Int) (r k : Nat) : List (List Int) := (((plAt wd hi cs f.length).take k).filter (okNext cs f)).flatMap fun z => allF wd hi cs r (f ++ [z])
theorem goX_all {wd hi : Int} {cs f : List Int} {r : Nat} : goX wd hi cs f r (plAt wd hi cs f.length).length = allF wd hi cs (r + 1) f := by
  unfold goX
  rw [List.take_length]
  show _ = (extF wd hi cs f).flatMap (allF wd hi cs r)
  unfold extF
  rw [List.flatMap_map]
theorem goX_yes {wd hi : Int} {cs f : List Int} {r k : Nat} {z : Int} (hz : (plAt wd hi cs f.length)[k]? = some z) (h : okNext cs f z = true) : goX wd hi cs f r (k + 1) = goX wd hi cs f r k ++ allF wd hi cs r (f ++ [z]) := by
  unfold goX
  rw [List.take_add_one, hz, List.filter_append, List.flatMap_append]
  simp [h]
theorem goX_no {wd hi : Int} {cs f : List Int} {r k : Nat} {z : Int} (hz : (plAt wd hi cs f.length)[k]? = some z) (h : okNext cs f z = false) : goX wd hi cs f r (k + 1) = goX wd hi cs f r k := by
  unfold goX
  rw [List.take_add_one, hz, List.filter_append, List.flatMap_append]
  simp [h]
theorem goX_pre {wd hi : Int} {cs f : List Int} {r : Nat} : ∀ (d k : Nat), ∃ Y, goX wd hi cs f r (k + d) = goX wd hi cs f r k ++ Y
  | 0, k => ⟨[], by simp⟩
  | d + 1, k => by
    obtain ⟨Y, hY⟩ := goX_pre (wd := wd) (hi := hi) (cs := cs) (f := f) (r := r) d k
    cases hz : (plAt wd hi cs f.length)[k + d]? with
    | none =>
      refine ⟨Y, ?_⟩
      rw [← hY]
      unfold goX
      rw [show k + (d + 1) = k + d + 1 by omega, List.take_add_one, hz]
      simp
    | some z =>
      cases ho : okNext cs f z
      · exact ⟨Y, by rw [show k + (d + 1) = k + d + 1 by omega, goX_no hz ho, hY]⟩
      · exact ⟨Y ++ allF wd hi cs r (f ++ [z]), by rw [show k + (d + 1) = k + d + 1 by omega, goX_yes hz ho, hY, List.append_assoc]⟩
theorem goX_full {wd hi : Int} {cs f : List Int} {r k m : Nat} (h : m ≤ (goX wd hi cs f r k).length) : (allF wd hi cs (r + 1) f).take m = (goX wd hi cs f r k).take m := by
  rw [← goX_all]
  by_cases hk : k ≤ (plAt wd hi cs f.length).length
  · obtain ⟨Y, hY⟩ := goX_pre (wd := wd) (hi := hi) (cs := cs) (f := f) (r := r) ((plAt wd hi cs f.length).length - k) k
    rw [show (plAt wd hi cs f.length).length = k + ((plAt wd hi cs f.length).length - k) by omega, hY, List.take_append_of_le_length h]
  · congr 1
    unfold goX
    rw [List.take_length, List.take_of_length_le (by omega)]
theorem goX_step {wd hi : Int} {cs f : List Int} {r k m : Nat} {z : Int} (hz : (plAt wd hi cs f.length)[k]? = some z) (h : okNext cs f z = true) (hm : (goX wd hi cs f r k).length < m) :
    (goX wd hi cs f r (k + 1)).take m = (goX wd hi cs f r k).take m ++ (allF wd hi cs r (f ++ [z])).take (m - (goX wd hi cs f r k).length) := by
  rw [goX_yes hz h, List.take_append]
end Go.Proofs.Ytkekanllfpdeaab
