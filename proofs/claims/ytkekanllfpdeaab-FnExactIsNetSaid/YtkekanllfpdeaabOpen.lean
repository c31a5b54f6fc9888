/-
  What comes in: the arguments of the laws opened; the frame of a law's proof.
-/
import Derived.Test.YtkekanllfpdeaabGrid
import Derived.OpenShut
import Derived.ChangeOld
import Derived.Deep.Fields
namespace Go.Proofs.Ytkekanllfpdeaab
open Go.ChangeShapes Go.WideShapes Go.ChangeAt Go.RowKit Go.Deep
variable {H : Type} {enc : TypeId × Value → H}

set_option maxRecDepth 100000 in
theorem open_list {W : World} {base : Nat} {v : Value} {d : DataW H} {p : List MemPlace} (hv : Value.okWide Try.prog W .any base 22 v)
    (h : DataW.Trod enc Try.prog W 0 (fun _ => true) true 22 v d p) : ∃ a c zs, v = .slice a zs.length c ∧ IntsAt W a zs ∧ zs.length ≤ 9223372036854775807 := by
  obtain ⟨a0, len0, cap0, rfl⟩ := okWide_slice Try.underlying22 hv
  obtain ⟨fuel, hf⟩ := h
  obtain ⟨zs, h1, h2, h3⟩ : ∃ zs : List Int, IntsAt W a0 zs ∧ zs.length = len0 ∧ len0 ≤ maxLen := by
    rcases open_ints Try.underlying22 Try.underlying2 (by kernel_rfl) hf with ⟨hcs, _⟩ | ⟨x, l, c, zs, hcs, _, hl, hm, hz, _, hcell, hwz⟩
    · simp [Value.cells] at hcs
      obtain ⟨rfl, rfl, rfl⟩ := hcs
      exact ⟨_, intsAt_of_row (.inl ⟨rfl, rfl, rfl, rfl⟩)⟩
    · simp [Value.cells] at hcs
      obtain ⟨rfl, rfl, rfl⟩ := hcs
      exact ⟨_, intsAt_of_row (.inr ⟨_, rfl, hl, hm, by simpa using hz, hcell, hwz⟩)⟩
  subst h2
  exact ⟨a0, cap0, zs, rfl, h1, h3⟩

set_option maxRecDepth 100000 in
theorem open_wlist {W : World} {base : Nat} {v : Value} {d : DataW H} {p : List MemPlace} (hv : Value.okWide Try.prog W .any base 22 v)
    (h : DataW.Trod enc Try.prog W 0 (fun _ => true) true 22 v d p) : ∃ a c zs, v = .slice a zs.length c ∧ IntsAt W a zs ∧ zs.length ≤ 9223372036854775807 ∧ ∀ z ∈ zs, (Lit.int .i64 z).wf = true := by
  obtain ⟨a0, len0, cap0, rfl⟩ := okWide_slice Try.underlying22 hv
  obtain ⟨fuel, hf⟩ := h
  obtain ⟨zs, h1, h2, h3, h4⟩ : ∃ zs : List Int, IntsAt W a0 zs ∧ zs.length = len0 ∧ len0 ≤ maxLen ∧ ∀ z ∈ zs, (Lit.int .i64 z).wf = true := by
    rcases open_ints Try.underlying22 Try.underlying2 (by kernel_rfl) hf with ⟨hcs, _⟩ | ⟨x, l, c, zs, hcs, _, hl, hm, hz, _, hcell, hwz⟩
    · simp [Value.cells] at hcs
      obtain ⟨rfl, rfl, rfl⟩ := hcs
      exact ⟨[], CellsAt.nil _ _, rfl, Nat.zero_le _, fun _ h => by cases h⟩
    · simp [Value.cells] at hcs
      obtain ⟨rfl, rfl, rfl⟩ := hcs
      have h := intsAt_of_row (.inr ⟨_, rfl, hl, hm, by simpa using hz, hcell, hwz⟩)
      exact ⟨_, h.1, h.2.1, h.2.2, fun z hz' => hwz z (List.mem_of_mem_take hz')⟩
  subst h2
  exact ⟨a0, cap0, zs, rfl, h1, h3, h4⟩

theorem addr_form {w : World} {x : Addr} {v : Value} (h : w.cell? (x.add 0) = some v) : x = ⟨x.block, x.off, none⟩ := by
  obtain ⟨b, off, spot⟩ := x
  have hspot : spot = none := by simpa [Addr.add] using World.cell?_spot h
  subst hspot
  rfl
theorem add_form (b off i : Nat) : (⟨b, off, none⟩ : Addr).add i = ⟨b, off + i, none⟩ := by
  simp only [Addr.add]
  split
  · rename_i e; subst e; simp
  · simp

set_option maxRecDepth 100000 in
theorem open_rows {W : World} {base fuel : Nat} {cs : List Value} {x : DataW H × List MemPlace}
    (h : DataW.trod enc Try.prog W base (fun _ => true) true fuel 26 cs = some x) : ∃ a c xss, cs = [.slice a xss.length c] ∧ RowsAt W a xss ∧ xss.length ≤ 9223372036854775807 ∧ Fits xss := by
  rcases open_int_rows Try.underlying26 Try.underlying22 Try.underlying2 (by kernel_rfl) (by kernel_rfl) h with ⟨rfl, _⟩ | ⟨a, len, cap, A, L, C, Z, rfl, _, hl, hm, _, hr⟩
  · exact ⟨none, 0, [], rfl, RowsAt.nil _ _, by simp, fun _ h => by cases h⟩
  · have hin : ∀ i, i < len → ((List.range len).map fun r => (Z r).take (L r))[i]? = some ((Z i).take (L i)) := by
      intro i hi
      simp [hi]
    refine ⟨some a, cap, (List.range len).map fun r => (Z r).take (L r), by simp, ?_, by simp; unfold maxLen at hm; omega, ?_⟩
    · intro hne
      have hlen : 0 < len := by
        rcases Nat.eq_zero_or_pos len with e | e
        · subst e; simp at hne
        · exact e
      have ha := addr_form (hr 0 (by omega)).1
      refine ⟨a.block, a.off, congrArg some ha, fun i zs hi => ?_⟩
      have hil : i < len := by
        have := (List.getElem?_eq_some_iff.1 hi).1
        simpa using this
      rw [hin i hil] at hi
      cases hi
      obtain ⟨hcell, h1, h2, h3, h4, h5, h6⟩ := hr i (by omega)
      have hlL : ((Z i).take (L i)).length = L i := by simp; omega
      refine ⟨A i, C i, ?_, ?_⟩
      · have hadd : a.add i = ⟨a.block, a.off + i, none⟩ := (congrArg (fun x : Addr => x.add i) ha).trans (add_form _ _ _)
        rw [hlL, ← hcell, hadd]
      · cases hA : A i with
        | none =>
          have := h5 hA
          have e0 : L i = 0 := by omega
          rw [e0, List.take_zero]
          exact CellsAt.nil _ _
        | some a' =>
          have := (intsAt_of_row (w := W) (a := some a') (len := L i) (cap := C i) (zs := Z i) (.inr ⟨a', rfl, h1, h2, h3, fun j hj => (h6 a' hA).2 j (by omega), h4⟩)).1
          exact this
    · intro zs hz
      obtain ⟨i, hi⟩ := List.mem_iff_getElem?.1 hz
      have hil : i < len := by
        have := (List.getElem?_eq_some_iff.1 hi).1
        simpa using this
      rw [hin i hil] at hi
      cases hi
      obtain ⟨_, h1, h2, h3, _⟩ := hr i (by omega)
      unfold maxLen at h2
      simp; omega
end Go.Proofs.Ytkekanllfpdeaab
