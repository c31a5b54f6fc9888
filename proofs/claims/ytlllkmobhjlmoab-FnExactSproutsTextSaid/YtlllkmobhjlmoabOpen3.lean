/-
  Sprouts positions that come in.
-/
import Derived.Test.YtlllkmobhjlmoabOpen
import Derived.Test.YtlllkmobhjlmoabCube
import Derived.Deep.Slices
namespace Go.Proofs.Ytlllkmobhjlmoab
open Go.ChangeShapes Go.WideShapes Go.ChangeAt Go.RowKit Go.Deep
variable {H : Type} {enc : TypeId × Value → H}

set_option maxRecDepth 100000 in
theorem open_cube {W : World} {base fuel : Nat} {cs : List Value} {x : DataW H × List MemPlace}
    (h : DataW.trod enc Try.prog W base (fun _ => true) true fuel 22 cs = some x) : ∃ a c X, cs = [.slice a X.length c] ∧ CubeAt W a X ∧ X.length ≤ 9223372036854775807 ∧ Fits3 X := by
  rcases open_slice1 Try.underlying22 (by kernel_rfl) h with ⟨rfl, _⟩ | ⟨a, len, cap, m, n, V, D, Pl, rfl, _, hl, hm, hmm, _, hx⟩
  · exact ⟨none, 0, [], rfl, CubeAt.nil _ _, by simp, fun _ h => by cases h⟩
  · simp only [if_true] at hmm
    have hall : ∀ i, i < len → ∃ y : List (List Int), ∃ ai ci, V i = .slice ai y.length ci ∧ RowsAt W ai y ∧ y.length ≤ 9223372036854775807 ∧ Fits y := by
      intro i hi
      obtain ⟨ai, ci, y, he, hr⟩ := open_rows (hx i (by omega)).2
      simp at he
      exact ⟨y, ai, ci, he, hr⟩
    obtain ⟨Y, hY⟩ := choose_lt hall
    have hin : ∀ i, i < len → ((List.range len).map Y)[i]? = some (Y i) := by
      intro i hi
      simp [hi]
    refine ⟨some a, cap, (List.range len).map Y, by simp, ?_, by simp; unfold maxLen at hm; omega, ?_⟩
    · intro hne
      have hlen : 0 < len := by
        rcases Nat.eq_zero_or_pos len with e | e
        · subst e; simp at hne
        · exact e
      have ha := addr_form (hx 0 (by omega)).1
      refine ⟨a.block, a.off, congrArg some ha, fun i zs hi => ?_⟩
      have hil : i < len := by
        have := (List.getElem?_eq_some_iff.1 hi).1
        simpa using this
      rw [hin i hil] at hi
      cases hi
      obtain ⟨ai, ci, he, hr, _⟩ := hY i hil
      have hadd : a.add i = ⟨a.block, a.off + i, none⟩ := (congrArg (fun x : Addr => x.add i) ha).trans (add_form _ _ _)
      exact ⟨ai, ci, by rw [← hadd, (hx i (by omega)).1, he], hr⟩
    · intro zs hz
      obtain ⟨i, hi⟩ := List.mem_iff_getElem?.1 hz
      have hil : i < len := by
        have := (List.getElem?_eq_some_iff.1 hi).1
        simpa using this
      rw [hin i hil] at hi
      cases hi
      obtain ⟨_, _, _, _, h1, h2⟩ := hY i hil
      exact ⟨h1, h2⟩

set_option maxRecDepth 100000 in
theorem open_sprouts {W : World} {base : Nat} {v : Value} {d : DataW H} {p : List MemPlace} (hv : Value.okWide Try.prog W .any base 24 v)
    (h : DataW.Trod enc Try.prog W 0 (fun _ => true) true 24 v d p) : ∃ s a c X, v = .agg #[.int .i64 s, .slice a X.length c] ∧ CubeAt W a X ∧ X.length ≤ 9223372036854775807 ∧ Fits3 X ∧ (Lit.int .i64 s).wf = true := by
  obtain ⟨cs, rfl, hsz⟩ := okWide_struct Try.underlying24 hv
  have hC : Try.prog.cellsOf 24 = 2 := by kernel_rfl
  have hC1 : Try.prog.cellsOf 2 = 1 := by kernel_rfl
  have hC2 : Try.prog.cellsOf 22 = 1 := by kernel_rfl
  rw [hC] at hsz
  obtain ⟨l⟩ := cs
  match l, hsz with
  | [c0, c1], _ =>
    obtain ⟨fuel, hf⟩ := h
    obtain ⟨y0, y1, n, _, _, h0, h1⟩ := trod_struct2 Try.underlying24 hf
    simp only [Value.cells, hC1, hC2, List.drop_zero, List.take_one, List.head?_cons, Option.toList, List.drop_succ_cons] at h0 h1
    obtain ⟨a, c, X, he, hr⟩ := open_cube h1
    simp at he
    subst he
    obtain ⟨s, hs0, _, hs⟩ := DataW.trod_int Try.underlying2 h0
    simp at hs0
    subst hs0
    exact ⟨s, a, c, X, rfl, hr.1, hr.2.1, hr.2.2, hs⟩
end Go.Proofs.Ytlllkmobhjlmoab
