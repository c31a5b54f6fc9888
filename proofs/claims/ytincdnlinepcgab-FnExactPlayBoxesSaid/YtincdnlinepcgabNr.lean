/-
  Dots and boxes: net scores and what an edge brings, the model's text, by the number of free edges.
-/
import Derived.Test.YtincdnlinepcgabNs
namespace Go.Proofs.Ytincdnlinepcgab
open Go.RowKit
set_option linter.unusedVariables false

theorem specScore_any (w h E0 : Int) (af : Option Addr) (cf nf M bK : Nat) (b0 : okBox w h E0 = true) (hnf : nf = (freeE w h E0).length) (hl : nf ≤ 12) (hM : M = 2 ^ nf) (hfar : ∀ g off, af = some ⟨g, off, none⟩ → g ≠ bK) :
    ∀ (k : Nat) (E : Int) (W : World), okBox w h E = true → Ext E0 E → nfree w h E ≤ k → IntsAt W af (freeE w h E0) → Tab w h E0 W bK →
    Calls Try.prog 29 #[.agg #[.int .i64 w, .int .i64 h, .int .i64 E], .slice af nf cf, .slice (some ⟨bK, 0, none⟩) M M] W (ScPost w h E0 bK (net w h E) W) := by
  intro k
  induction k with
  | zero =>
    intro E W hb hx hk hfa hT
    refine score_walk w h E0 E af cf nf M bK W b0 hb hx hnf hl hM hfa hfar hT fun e W' he => ?_
    have : freeE w h E = [] := List.eq_nil_of_length_eq_zero (by unfold nfree at hk; omega)
    rw [this] at he
    cases he
  | succ k ih =>
    intro E W hb hx hk hfa hT
    refine score_walk w h E0 E af cf nf M bK W b0 hb hx hnf hl hM hfa hfar hT fun e W' he hfa' hT' => ?_
    refine behind_walk w h E0 E e af cf nf M bK W' hb he hfa' hT' fun W2 hfa2 hT2 => ?_
    exact ih (withE E e) W2 (ok_with hb he) (hx.with (okBox_E hb).1 (pre_mem he).1) (by have := nfree_with hb he; omega) hfa2 hT2
theorem specBehind_any (w h E0 : Int) (af : Option Addr) (cf nf M bK : Nat) (b0 : okBox w h E0 = true) (hnf : nf = (freeE w h E0).length) (hl : nf ≤ 12) (hM : M = 2 ^ nf) (hfar : ∀ g off, af = some ⟨g, off, none⟩ → g ≠ bK)
    (E e : Int) (W : World) (hb : okBox w h E = true) (hx : Ext E0 E) (he : e ∈ freeE w h E) (hfa : IntsAt W af (freeE w h E0)) (hT : Tab w h E0 W bK) :
    Calls Try.prog 55 #[.agg #[.int .i64 w, .int .i64 h, .int .i64 E], .int .i64 e, .slice af nf cf, .slice (some ⟨bK, 0, none⟩) M M] W (ScPost w h E0 bK (gainW (net w h) w h E e) W) :=
  behind_walk w h E0 E e af cf nf M bK W hb he hfa hT fun W2 hfa2 hT2 =>
    specScore_any w h E0 af cf nf M bK b0 hnf hl hM hfar _ (withE E e) W2 (ok_with hb he) (hx.with (okBox_E hb).1 (pre_mem he).1) (Nat.le_refl _) hfa2 hT2
end Go.Proofs.Ytincdnlinepcgab
