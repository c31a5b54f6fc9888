/-
  WonInMisere: the exported functions.
-/
import Derived.Test.YtailjbenichiaaaWonT
namespace Go.Proofs.Ytailjbenichiaaa.B
open Go.RowKit Go.Shelf

set_option maxRecDepth 100000 in
theorem implWonInMisere_any (a : Option Addr) (c : Nat) (xss : List (List Int)) (w : World) (ha : RowsAt w a xss) (hs : Small xss) :
    Calls Try.prog 57 #[.agg #[.slice a xss.length c]] w (NewListB (chkR (wonV true) xss) w) := by
  have hB0 : Below w.heap.size w (w.alloc (.cells #[.slice a xss.length c] 26)) := (Below.refl _ _).alloc (Nat.le_refl _) _
  have hfin : ∀ (e : Ending) (w' : World), NewListB (chkR (wonV true) xss) (w.alloc (.cells #[.slice a xss.length c] 26)) e w' → ∃ v1 v2, e = .returned (.tuple #[v1, .int .i64 v2]) ∧ NewListB (chkR (wonV true) xss) w (.returned (.tuple #[v1, .int .i64 v2])) w' := by
    rintro e w' ⟨a', c', rfl, ho, hB'⟩
    exact ⟨_, _, rfl, _, _, rfl, ownsRow_base ho (by simp), Below.trans' hB0 hB'⟩
  have HF := hide hfin
  clear hfin
  go_enter Try.func57, Try.ntmps57
  go_wp2_with fail
  refine (checkedValues_any 105 #[] (wonV true) (fun _ => True) a c xss _ (ha.keep hB0) hs (enters_of Try.func105 (by kernel_rfl) rfl) trivial (fun _ _ _ => trivial) (fun a c vs W _ hi hl _ => by rw [Array.append_empty]; exact misereRule_any a c vs W hi hl)).mono ?_
  intro e w2 hN
  obtain ⟨v1, v2, rfl, hfin⟩ := HF.out e w2 hN
  have HFIN := hide hfin
  clear hN hfin
  go_wp2_with fail
  go_ret2
  exact HFIN.out

set_option maxRecDepth 100000 in
theorem specWonInMisere_any (a : Option Addr) (c : Nat) (xss : List (List Int)) (w : World) (ha : RowsAt w a xss) (hs : Small xss) :
    Calls Try.prog 56 #[.agg #[.slice a xss.length c]] w (NewListB (chkR (wonV true) xss) w) := by
  have hB0 : Below w.heap.size w (w.alloc (.cells #[.slice a xss.length c] 26)) := (Below.refl _ _).alloc (Nat.le_refl _) _
  have hbox : (w.alloc (.cells #[.slice a xss.length c] 26)).cell? ⟨w.heap.size, 0, none⟩ = some (.slice a xss.length c) := by simp [go_sem]
  unfold chkR
  cases hg : isGameB xss
  · have hfin : ∀ w' : World, Below w.heap.size w w' → NewListB (if false = true then (valsL false (wonV true) xss, 0) else ([], 1)) w (.returned (.tuple #[.slice none 0 0, .int .i64 1])) w' := fun w' h => ⟨none, 0, rfl, World.ownsRow_nil _ _ _ _, h⟩
    have HF := hide hfin
    clear hfin
    go_enter Try.func56, Try.ntmps56
    go_wp2_with fail
    refine (l01Is_any _ _ xss _ (ha.keep hB0) hs).mono ?_
    rw [hg]
    rintro e w1 ⟨rfl, hB1⟩
    go_wp2_with fail
    go_ret2
    exact HF.out _ (Below.trans' hB0 hB1)
  · have HG := hide hg
    clear hg
    have hfin : ∀ (e : Ending) (w1 w' : World), w.heap.size ≤ w1.heap.size → Below w.heap.size w w1 → NewBools (valsL false (wonV true) xss) w1 e w' → ∃ v, e = .returned v ∧ NewListB (if true = true then (valsL false (wonV true) xss, 0) else ([], 1)) w (.returned (.tuple #[v, .int .i64 0])) w' := by
      rintro e w1 w' hsz hB ⟨g, c', rfl, ho, hB'⟩
      exact ⟨_, rfl, _, _, rfl, ownsRow_base ho hsz, Below.trans' hB hB'⟩
    have HF := hide hfin
    clear hfin
    go_enter Try.func56, Try.ntmps56
    go_wp2_with fail
    refine (l01Is_any _ _ xss _ (ha.keep hB0) hs).mono ?_
    rw [HG.out]
    rintro e w1 ⟨rfl, hB1⟩
    have hb1 := cell_keep hB1 hbox
    have hBB := Below.trans' hB0 hB1
    clear hbox hB1
    go_wp2_with fail
    refine (l01Won_t a c xss _ (ha.keep hBB) hs HG.out).mono ?_
    intro e w2 hN
    obtain ⟨v, rfl, hfin⟩ := HF.out e w1 w2 hBB.size hBB hN
    have HFIN := hide hfin
    clear hN hfin
    go_wp2_with fail
    go_ret2
    exact HFIN.out
end Go.Proofs.Ytailjbenichiaaa.B
