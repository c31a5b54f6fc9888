/-
  Rows of one's own, handed back, told by leaves.
-/
import Derived.Test.YtkekanllfpdeaabFo
import Derived.Test.YtkekanllfpdeaabGo
namespace Go.Proofs.Ytkekanllfpdeaab
open Go.RowKit
set_option linter.unusedVariables false

def adr : Value → Option Addr
  | .slice a _ _ => a
  | _ => none
def lfR (vs : List Value) (xss : List (List Int)) : List Lf := (vs.zip xss).map fun p => ⟨adr p.1, p.2.length⟩
theorem lfR_len {vs : List Value} {xss : List (List Int)} (h : vs.length = xss.length) : (lfR vs xss).length = xss.length := by simp [lfR, h]
theorem lfR_get {vs : List Value} {xss : List (List Int)} {i : Nat} {l : Lf} (h : (lfR vs xss)[i]? = some l) : ∃ v zs, vs[i]? = some v ∧ xss[i]? = some zs ∧ l = ⟨adr v, zs.length⟩ := by
  unfold lfR at h
  rw [List.getElem?_map] at h
  cases hz : (vs.zip xss)[i]? with
  | none => rw [hz] at h; simp at h
  | some p =>
    rw [hz] at h
    simp at h
    rw [List.getElem?_zip_eq_some] at hz
    exact ⟨p.1, p.2, hz.1, hz.2, h.symm⟩
theorem total_lfR {m : Nat} : ∀ (vs : List Value) (xss : List (List Int)), (∀ zs ∈ xss, zs.length ≤ m) → total (lfR vs xss) ≤ m * xss.length
  | [], xss, _ => by simp [lfR, total]
  | _ :: _, [], _ => by simp [lfR, total]
  | g :: gs, zs :: xss, h => by
    have ih := total_lfR gs xss (fun y hy => h y (by simp [hy]))
    have h1 := h zs (by simp)
    show zs.length + total (lfR gs xss) ≤ _
    rw [List.length_cons, Nat.mul_add, Nat.mul_one]
    omega
theorem adr_block {v : Value} {n c : Nat} {a : Option Addr} {g off : Nat} (h : v = .slice a n c) (he : adr v = some ⟨g, off, none⟩) : v.ownBlock = some g := by
  subst h
  unfold adr at he
  simp only at he
  subst he
  rfl
theorem RowsO.leaves {B m : Nat} {w : World} {a : Option Addr} {c : Nat} {vs : List Value} {xss : List (List Int)} (h : RowsO B w (.slice a xss.length c) vs xss) (hm : ∀ zs ∈ xss, zs.length ≤ m) (ht : m * xss.length ≤ 1048576) : GameLeaves w B a xss (lfR vs xss) := by
  refine ⟨lfR_len h.l.len, fun hne => ?_, fun b off ha => ?_, fun i l hi => ?_, ?_, Nat.le_trans (total_lfR vs xss hm) ht⟩
  · have hx : xss ≠ [] := by
      intro e
      exact hne (List.eq_nil_of_length_eq_zero (by rw [lfR_len h.l.len, e]; rfl))
    rcases h.l.own.2 with ⟨_, h0⟩ | ⟨g, cap, cur, hv, _⟩
    · exact absurd (List.eq_nil_of_length_eq_zero h0) hx
    · simp only [Value.slice.injEq, true_and] at hv
      refine ⟨g, 0, hv.1, fun i l hi => ?_⟩
      obtain ⟨x, zs, h1, h2, rfl⟩ := lfR_get hi
      have hlt := (List.getElem?_eq_some_iff.1 h2).1
      have hown := h.l.own
      rw [hv.1] at hown
      have h3 := hown.cellAt i (by omega)
      obtain ⟨a', c', rfl⟩ := own_form (h.l.rows i x zs h1 h2)
      refine ⟨c', ?_⟩
      rw [Nat.zero_add, h3, h1]
      rfl
  · rcases h.l.own.2 with ⟨hv, _⟩ | ⟨g, cap, cur, hv, hg, hh, _⟩
    · simp only [Value.slice.injEq] at hv; rw [hv.1] at ha; cases ha
    · simp only [Value.slice.injEq] at hv
      rw [hv.1] at ha
      simp at ha
      obtain ⟨rfl, rfl⟩ := ha
      exact ⟨hg, cur, hh⟩
  · obtain ⟨x, zs, h1, h2, rfl⟩ := lfR_get hi
    have h3 := h.l.rows i x zs h1 h2
    obtain ⟨a', c', rfl⟩ := own_form h3
    refine ⟨zs, h2, rfl, intsAt_of_ownsRow h3, owned_room h3, fun hp => ?_⟩
    rcases h3.2 with ⟨_, h0⟩ | ⟨g, cap, cur, hv, hg, _⟩
    · simp only [List.length_eq_zero_iff] at h0
      subst h0
      simp at hp
    · simp only [Value.slice.injEq] at hv
      exact ⟨g, 0, hv.1, hg⟩
  · have hp : (vs.zip xss).Pairwise fun p q => ∀ g, p.1.ownBlock = some g → q.1.ownBlock ≠ some g := by
      have : ((vs.zip xss).map (·.1)).Pairwise fun x y => ∀ g, x.ownBlock = some g → y.ownBlock ≠ some g := by
        rw [List.map_fst_zip (by rw [h.l.len]; exact Nat.le_refl _)]
        exact h.nod
      exact List.pairwise_map.1 this
    have hsl : ∀ p ∈ vs.zip xss, ∃ a' n c', p.1 = .slice a' n c' := fun p hp => by
      obtain ⟨i, hi⟩ := List.mem_iff_getElem?.1 hp
      rw [List.getElem?_zip_eq_some] at hi
      obtain ⟨a', c', e⟩ := own_form (h.l.rows i p.1 p.2 hi.1 hi.2)
      exact ⟨a', _, c', e⟩
    refine List.pairwise_map.2 (hp.imp_of_mem (fun {p q} hp hq hne => fun b o h1 h2 => ?_))
    obtain ⟨o1, e1, _⟩ := h1
    obtain ⟨o2, e2, _⟩ := h2
    obtain ⟨_, _, _, ep⟩ := hsl p hp
    obtain ⟨_, _, _, eq⟩ := hsl q hq
    exact hne b (adr_block ep e1) (adr_block eq e2)
end Go.Proofs.Ytkekanllfpdeaab
