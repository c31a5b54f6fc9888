/-
  IsFleet, the program's text.
-/
import Derived.Test.YtkekanllfpdeaabIx
import Derived.Deep.RegionHeld3
import Derived.Deep.DeepCutAuto
namespace Go.Proofs.Ytkekanllfpdeaab
open Go.RowKit
set_option linter.unusedVariables false

theorem padContains {f : List Int} (h3 : f.length ≤ 3) : ∀ {L : List (List Int)}, (∀ g ∈ L, g.length = f.length) → (L.map padF).contains (padF f) = L.contains f
  | [], _ => rfl
  | g :: L, h => by
    have ih := padContains h3 (L := L) (fun x hx => h x (List.mem_cons_of_mem _ hx))
    have hg := h g (List.mem_cons_self ..)
    rw [List.map_cons, List.contains_cons, List.contains_cons, ih]
    congr 1
    by_cases e : f = g
    · subst e; rw [beq_self_eq_true, beq_self_eq_true]
    · have h1 : ¬ (padF f = padF g) := fun e2 => e (padF_inj hg.symm h3 e2)
      rw [beq_eq_false_iff_ne.2 e, beq_eq_false_iff_ne.2 h1]
def isfR (wd hi : Int) (cs f : List Int) : Bool × Int := if seaB wd hi cs = true then (fleetB wd hi cs f, 0) else (false, 1)
theorem levF_len {wd hi : Int} {cs : List Int} (hs : seaB wd hi cs = true) (z : Int) (hz : 0 ≤ z ∧ z < 33554432) : (levF wd hi cs (cs.length - 1) [[z]]).length ≤ 2500 := by
  obtain ⟨_, _, _, _, l1, l3, _⟩ := seaB_yes hs
  have k1 : okL 1 [[z]] := fun f hf => by rw [List.mem_singleton.1 hf]; exact ⟨rfl, fun y hy => by rw [List.mem_singleton.1 hy]; exact hz⟩
  have h : cs.length = 1 ∨ cs.length = 2 ∨ cs.length = 3 := by omega
  rcases h with h | h | h
  · rw [h]; show (1 : Nat) ≤ 2500; decide
  · rw [h]
    have p1 := plAt_facts (k := 1) hs (by omega)
    have := flat_len (L := [[z]]) k1 p1.2
    show ([[z]].flatMap (extF wd hi cs)).length ≤ _
    simp at this ⊢
    omega
  · rw [h]
    have p1 := plAt_facts (k := 1) hs (by omega)
    have p2 := plAt_facts (k := 2) hs (by omega)
    have a1 := flat_len (L := [[z]]) k1 p1.2
    have a2 := flat_len (okL_ext k1 p1.1) p2.2
    show (([[z]].flatMap (extF wd hi cs)).flatMap (extF wd hi cs)).length ≤ _
    rw [List.length_singleton] at a1
    exact Nat.le_trans a2 (by omega)

end Go.Proofs.Ytkekanllfpdeaab
