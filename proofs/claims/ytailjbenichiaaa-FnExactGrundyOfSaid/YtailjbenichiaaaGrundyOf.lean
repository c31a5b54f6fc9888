/-
  GrundyOf: the exported functions.
-/
import Derived.Test.YtailjbenichiaaaGrundy
import Derived.Test.YtailjbenichiaaaRuled
namespace Go.Proofs.Ytailjbenichiaaa
open Go.RowKit Go.Shelf

set_option maxRecDepth 100000 in
theorem implGrundy_any (a : Option Addr) (c : Nat) (xss : List (List Int)) (w : World) (ha : RowsAt w a xss) (hs : Small xss) :
    Calls Try.prog 64 #[.agg #[.slice a xss.length c]] w (NewList (chkR mexV xss) w) := by
  have hB0 : Below w.heap.size w (w.alloc (.cells #[.slice a xss.length c] 26)) := (Below.refl _ _).alloc (Nat.le_refl _) _
  have hfin : ∀ (e : Ending) (w' : World), NewList (chkR mexV xss) (w.alloc (.cells #[.slice a xss.length c] 26)) e w' → ∃ v1 v2, e = .returned (.tuple #[v1, .int .i64 v2]) ∧ NewList (chkR mexV xss) w (.returned (.tuple #[v1, .int .i64 v2])) w' := by
    rintro e w' ⟨a', c', rfl, ho, hB'⟩
    exact ⟨_, _, rfl, _, _, rfl, ownsRow_base ho (by simp), Below.trans' hB0 hB'⟩
  have HF := hide hfin
  clear hfin
  go_enter Try.func64, Try.ntmps64
  go_wp2_with fail
  refine (checkedValues_any 99 #[] mexV MexG a c xss _ (ha.keep hB0) hs (enters_of Try.func99 (by kernel_rfl) rfl) mexG_zero mexV_good (fun a c vs W _ hi hl hg => by rw [Array.append_empty]; exact implMex_any a c vs W hi (by omega) (mexG_i64s hg))).mono ?_
  intro e w2 hN
  obtain ⟨v1, v2, rfl, hfin⟩ := HF.out e w2 hN
  have HFIN := hide hfin
  clear hN hfin
  go_wp2_with fail
  go_ret2
  exact HFIN.out

set_option maxRecDepth 100000 in
theorem specGrundy_any (a : Option Addr) (c : Nat) (xss : List (List Int)) (w : World) (ha : RowsAt w a xss) (hs : Small xss) :
    Calls Try.prog 63 #[.agg #[.slice a xss.length c]] w (NewList (chkR mexV xss) w) := by
  have hB0 : Below w.heap.size w (w.alloc (.cells #[.slice a xss.length c] 26)) := (Below.refl _ _).alloc (Nat.le_refl _) _
  have hbox : (w.alloc (.cells #[.slice a xss.length c] 26)).cell? ⟨w.heap.size, 0, none⟩ = some (.slice a xss.length c) := by simp [go_sem]
  unfold chkR
  cases hg : isGameB xss
  · have hfin : ∀ w' : World, Below w.heap.size w w' → NewList (if false = true then (valsL 0 mexV xss, 0) else ([], 1)) w (.returned (.tuple #[.slice none 0 0, .int .i64 1])) w' := fun w' h => ⟨none, 0, rfl, World.ownsRow_nil _ _ _ _, h⟩
    have HF := hide hfin
    clear hfin
    go_enter Try.func63, Try.ntmps63
    go_wp2_with fail
    refine (l01Is_any _ _ xss _ (ha.keep hB0) hs).mono ?_
    rw [hg]
    rintro e w1 ⟨rfl, hB1⟩
    go_wp2_with fail
    go_ret2
    exact HF.out _ (Below.trans' hB0 hB1)
  · have HG := hide hg
    clear hg
    have hfin : ∀ (e : Ending) (w1 w' : World), w.heap.size ≤ w1.heap.size → Below w.heap.size w w1 → NewInts (valsL 0 mexV xss) w1 e w' → ∃ v, e = .returned v ∧ NewList (if true = true then (valsL 0 mexV xss, 0) else ([], 1)) w (.returned (.tuple #[v, .int .i64 0])) w' := by
      rintro e w1 w' hsz hB ⟨g, c', rfl, ho, hB'⟩
      exact ⟨_, rfl, _, _, rfl, ownsRow_base ho hsz, Below.trans' hB hB'⟩
    have HF := hide hfin
    clear hfin
    go_enter Try.func63, Try.ntmps63
    go_wp2_with fail
    refine (l01Is_any _ _ xss _ (ha.keep hB0) hs).mono ?_
    rw [HG.out]
    rintro e w1 ⟨rfl, hB1⟩
    have hb1 := cell_keep hB1 hbox
    have hBB := Below.trans' hB0 hB1
    clear hbox hB1
    go_wp2_with fail
    refine (l01Grundy_any a c xss _ (ha.keep hBB) hs HG.out).mono ?_
    intro e w2 hN
    obtain ⟨v, rfl, hfin⟩ := HF.out e w1 w2 hBB.size hBB hN
    have HFIN := hide hfin
    clear hN hfin
    go_wp2_with fail
    go_ret2
    exact HFIN.out
end Go.Proofs.Ytailjbenichiaaa
