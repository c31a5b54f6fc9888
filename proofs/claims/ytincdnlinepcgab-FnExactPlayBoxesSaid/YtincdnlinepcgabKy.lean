/-
  Dots and boxes: a map from positions to net scores: what it holds.
-/
import Derived.Test.YtincdnlinepcgabNt
import Derived.Test.YtincdnlinepcgabBut
import Derived.Maps.OwnSet
import Derived.DeepKeys4
namespace Go.Proofs.Ytincdnlinepcgab
open Go.RowKit Go.Maps
set_option linter.unusedVariables false

theorem key_row : (26 : TypeId) < Try.prog.types.size := of_decide_eq_true (by kernel_rfl)
theorem key_wide : (match Try.prog.underlying 26 with | some (.array _ _) | some (.struct _) => true | _ => false) = true := by rw [Try.underlying26]
set_option maxRecDepth 100000 in
theorem boxKeyed : Keyed Try.prog 26 := Keyed.of_law (deep_law_laid laidOut (m := 2) (by omega) key_row (by kernel_rfl) key_wide)

theorem key_type : Try.prog.keyType 26 = true := by kernel_rfl
theorem key_cells : Try.prog.cellsOf 26 = 3 := by kernel_rfl
theorem int_cells : Try.prog.cellsOf 2 = 1 := by kernel_rfl

theorem key_gen {P : Program} {k i : TypeId} {f0 f1 f2 : Field} (hk : P.underlying k = some (.struct #[f0, f1, f2])) (h0 : f0.type = i ∧ f0.offset = 0 ∧ (f0.name != "_") = true) (h1 : f1.type = i ∧ f1.offset = 1 ∧ (f1.name != "_") = true) (h2 : f2.type = i ∧ f2.offset = 2 ∧ (f2.name != "_") = true)
    (hi : P.underlying i = some (.int .i64)) (ht : P.keyType k = true) (hc : P.cellsOf k = 3) (hci : P.cellsOf i = 1) (hs : 1 ≤ P.types.size) (w h E : Int) (hw : (Lit.int .i64 w).wf = true) (hh : (Lit.int .i64 h).wf = true) (hE : (Lit.int .i64 E).wf = true) :
    ∃ kl, keyOf P k (.agg #[.int .i64 w, .int .i64 h, .int .i64 E]) = some kl := by
  obtain ⟨m, hm⟩ : ∃ m, P.types.size = m + 1 := ⟨P.types.size - 1, by omega⟩
  obtain ⟨a0, b0, d0⟩ := h0
  obtain ⟨a1, b1, d1⟩ := h1
  obtain ⟨a2, b2, d2⟩ := h2
  unfold keyOf
  rw [hk]
  simp only [ht, Value.formed, hk, hc, hm]
  simp [Program.keyLits, hk, hi, hc, hci, hw, hh, hE, Value.cells, a0, b0, d0, a1, b1, d1, a2, b2, d2]

theorem box_key (w h E : Int) (hw : (Lit.int .i64 w).wf = true) (hh : (Lit.int .i64 h).wf = true) (hE : (Lit.int .i64 E).wf = true) :
    ∃ kl, keyOf Try.prog 26 (.agg #[.int .i64 w, .int .i64 h, .int .i64 E]) = some kl :=
  key_gen (i := 2) Try.underlying26 ⟨rfl, rfl, by decide⟩ ⟨rfl, rfl, by decide⟩ ⟨rfl, rfl, by decide⟩ Try.underlying2 key_type key_cells int_cells (of_decide_eq_true (by kernel_rfl)) w h E hw hh hE

theorem zeroE (w : World) : (zeroValue 2).run Try.prog w = .ok (.int .i64 0) w := by kernel_rfl

/-- The map in block b holds net scores, for positions by themselves; N entries at most. -/
def Knows (w : World) (b N : Nat) : Prop :=
  ∃ D : DataW Unit, w.ownsMap Try.prog 26 (plainElem Try.prog 2) b N D ∧ ∀ (x y E : Int) (kl : Lit), okBox x y E = true → keyOf Try.prog 26 (.agg #[.int .i64 x, .int .i64 y, .int .i64 E]) = some kl → has D kl = true → ∀ z, D.atKey kl z = .lit (.int .i64 (net x y E))
theorem Knows.lt {w : World} {b N : Nat} (h : Knows w b N) : b < w.heap.size := by
  obtain ⟨D, h1, _⟩ := h
  exact h1.lt
theorem Knows.mono {w : World} {b N N' : Nat} (h : Knows w b N) (hn : N ≤ N') : Knows w b N' := by
  obtain ⟨D, h1, h2⟩ := h
  exact ⟨D, h1.mono hn, h2⟩
theorem Knows.block {w w' : World} {b N : Nat} (h : Knows w b N) (hb : w'.heap[b]? = w.heap[b]?) : Knows w' b N := by
  obtain ⟨D, ⟨es, clock, hm, hF, hs, hD⟩, h2⟩ := h
  exact ⟨D, ⟨es, clock, hb.trans hm, hF, hs, hD⟩, h2⟩
theorem Knows.keep {w w' : World} {b N : Nat} (h : Knows w b N) (hb : Below w.heap.size w w') : Knows w' b N := h.block (hb.block b h.lt)
theorem Knows.made (w : World) : Knows (w.alloc (.map #[] 0)) w.heap.size 0 :=
  ⟨.map [], World.ownsMap_made w _ _ _, fun x y E kl _ _ hh => by simp [has] at hh⟩
theorem Knows.put {w : World} {b N n : Nat} {D : DataW Unit} {x y E : Int} {kl : Lit} (hD : ∀ (x y E : Int) (kl : Lit), okBox x y E = true → keyOf Try.prog 26 (.agg #[.int .i64 x, .int .i64 y, .int .i64 E]) = some kl → has D kl = true → ∀ z, D.atKey kl z = .lit (.int .i64 (net x y E)))
    (hm : IsMap D) (hk : keyOf Try.prog 26 (.agg #[.int .i64 x, .int .i64 y, .int .i64 E]) = some kl) (hown : w.ownsMap Try.prog 26 (plainElem Try.prog 2) b n (D.put kl (.lit (.int .i64 (net x y E))))) (hn : n ≤ N) : Knows w b N := by
  refine ⟨_, hown.mono hn, fun x' y' E' kl' hb' hk' hh' z => ?_⟩
  have hkey := boxKeyed.key hk
  by_cases e : kl' = kl
  · subst e
    have ea := boxKeyed.inj hk hk'
    simp at ea
    obtain ⟨rfl, rfl, rfl⟩ := ea
    exact atKey_put_same hm hkey _ _
  · rw [atKey_put_other e]
    rw [has_put_other e] at hh'
    exact hD x' y' E' kl' hb' hk' hh' z
theorem okBox_wf {w h E : Int} (hb : okBox w h E = true) : (Lit.int .i64 w).wf = true ∧ (Lit.int .i64 h).wf = true ∧ (Lit.int .i64 E).wf = true := by
  obtain ⟨h1, h2, h3, h4, _, _⟩ := okBox_parts hb
  obtain ⟨e1, e2⟩ := okBox_E hb
  exact ⟨WalkArith.wf_i64 (by omega), WalkArith.wf_i64 (by omega), WalkArith.wf_i64 (by omega)⟩
/-- What netScore and gainOf do. -/
def NetPost (b N : Nat) (v : Int) (W : World) (e : Ending) (W' : World) : Prop := e = .returned (.int .i64 v) ∧ But b W W' ∧ Knows W' b N
end Go.Proofs.Ytincdnlinepcgab
