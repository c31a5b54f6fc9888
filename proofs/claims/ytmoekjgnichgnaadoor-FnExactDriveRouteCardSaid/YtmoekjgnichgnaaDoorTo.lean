/-
  Cars that come in, as arrays of four numbers.
-/
import Derived.Test.YtmoekjgnichgnaaDoorTf
namespace Go.Proofs.YtmoekjgnichgnaaDoor
open Go.ChangeShapes Go.WideShapes Go.ChangeAt Go.RowKit Go.Deep Go.Joins
set_option linter.unusedVariables false
section
variable {H : Type} {enc : TypeId × Value → H}
set_option maxRecDepth 100000 in
theorem open_arr {W : World} {base : Nat} {v : Value} {d : DataW H} {p : List MemPlace} (hv : Value.okWide Tryd.prog W .any base 27 v)
    (h : DataW.Trod enc Tryd.prog W 0 (fun _ => true) true 27 v d p) : ∃ c : Cr, v = crV c := by
  simp only [Value.okWide, Tryd.underlying27] at hv
  obtain ⟨cs, rfl, hsz, _⟩ := hv
  have hC : (Tryd.prog).cellsOf 27 = 4 := by kernel_rfl
  have hC1 : (Tryd.prog).cellsOf 2 = 1 := by kernel_rfl
  rw [hC] at hsz
  obtain ⟨l⟩ := cs
  match l, hsz with
  | [c0, c1, c2, c3], _ =>
    obtain ⟨fuel, hf⟩ := h
    obtain ⟨xs, m, _, _, _, hl, hel⟩ := DataW.trod_array Tryd.underlying27 hf
    have e0 := hel 0 (by omega)
    have e1 := hel 1 (by omega)
    have e2 := hel 2 (by omega)
    have e3 := hel 3 (by omega)
    rw [hC1, List.getElem?_eq_getElem (by omega)] at e0 e1 e2 e3
    simp only [Value.cells, Nat.mul_one, List.drop_zero, List.take_one, List.head?_cons, Option.toList, List.drop_succ_cons] at e0 e1 e2 e3
    obtain ⟨z0, h0, _⟩ := DataW.trod_int Tryd.underlying2 e0
    obtain ⟨z1, h1, _⟩ := DataW.trod_int Tryd.underlying2 e1
    obtain ⟨z2, h2, _⟩ := DataW.trod_int Tryd.underlying2 e2
    obtain ⟨z3, h3, _⟩ := DataW.trod_int Tryd.underlying2 e3
    simp at h0 h1 h2 h3
    subst h0 h1 h2 h3
    exact ⟨⟨z0, z1, z2, z3⟩, rfl⟩
end
end Go.Proofs.YtmoekjgnichgnaaDoor
