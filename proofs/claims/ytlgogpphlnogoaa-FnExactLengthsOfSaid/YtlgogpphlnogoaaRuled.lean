/-
  checkedValues over int64: for every rule that has a contract.
-/
import Derived.Test.YtlgogpphlnogoaaVals
import Derived.Test.YtlgogpphlnogoaaEnds0
namespace Go.Proofs.Ytlgogpphlnogoaa
open Go.RowKit Go.Shelf

def chkR (R : List Int → Int) (xss : List (List Int)) : List Int × Int := if isGameB xss then (valsL 0 R xss, 0) else ([], 1)
theorem chkR_le (R : List Int → Int) (xss : List (List Int)) (hs : Small xss) : (chkR R xss).1.length ≤ 1048576 := by
  unfold chkR
  split
  · have := hs.1
    show (valsL 0 R xss).length ≤ 1048576
    simp [valsL]; omega
  · simp

set_option maxRecDepth 100000 in
set_option maxHeartbeats 1000000 in
theorem checkedValues_any (gf : Nat) (lb : Array Value) (R : List Int → Int) (G : Int → Prop) (a : Option Addr) (c : Nat) (xss : List (List Int)) (w : World) (ha : RowsAt w a xss) (hs : Small xss)
    (eg : ∀ args w, (callFunc gf args).run Try.prog w = .ok (.enter gf args) w) (hG0 : G 0) (hGR : ∀ vs, vs.length ≤ 40 → (∀ v ∈ vs, G v) → G (R vs))
    (hrule : ∀ (a : Option Addr) (c : Nat) (vs : List Int) (W : World), Below w.heap.size w W → IntsAt W a vs → vs.length ≤ 40 → (∀ v ∈ vs, G v) → Calls Try.prog gf (#[.slice a vs.length c] ++ lb) W fun e W' => e = .returned (.int .i64 (R vs)) ∧ Below W.heap.size W W') :
    Calls Try.prog 53 #[.agg #[.slice a xss.length c], .func (.func gf) #[] lb] w (NewList (chkR R xss) w) := by
  have hB0 : Below w.heap.size w (w.alloc (.cells #[.slice a xss.length c] 29)) := (Below.refl _ _).alloc (Nat.le_refl _) _
  have hbox : (w.alloc (.cells #[.slice a xss.length c] 29)).cell? ⟨w.heap.size, 0, none⟩ = some (.slice a xss.length c) := by simp [go_sem]
  have HR := hide hrule
  have HGR := hide hGR
  have HEG := hide eg
  unfold chkR
  clear hrule hGR eg
  cases hg : isGameB xss
  · have hfin : ∀ w' : World, Below w.heap.size w w' → NewList (if false = true then (valsL 0 R xss, 0) else ([], 1)) w (.returned (.tuple #[.slice none 0 0, .int .i64 1])) w' := fun w' h => ⟨none, 0, rfl, World.ownsRow_nil _ _ _ _, h⟩
    have HF := hide hfin
    clear hfin
    go_enter Try.func53, Try.ntmps53
    go_wp2_with fail
    refine (implIsGame_any _ _ xss _ (ha.keep hB0) hs).mono ?_
    rw [hg]
    rintro e w1 ⟨rfl, hB1⟩
    go_wp2_with fail
    go_ret2
    exact HF.out _ (Below.trans' hB0 hB1)
  · have HG := hide hg
    clear hg
    have hfin : ∀ (e : Ending) (w1 w' : World), w.heap.size ≤ w1.heap.size → Below w.heap.size w w1 → NewInts (valsL 0 R xss) w1 e w' → ∃ v, e = .returned v ∧ NewList (if true = true then (valsL 0 R xss, 0) else ([], 1)) w (.returned (.tuple #[v, .int .i64 0])) w' := by
      rintro e w1 w' hsz hB ⟨g, c', rfl, ho, hB'⟩
      exact ⟨_, rfl, _, _, rfl, ownsRow_base ho hsz, Below.trans' hB hB'⟩
    have HF := hide hfin
    clear hfin
    go_enter Try.func53, Try.ntmps53
    go_wp2_with fail
    refine (implIsGame_any _ _ xss _ (ha.keep hB0) hs).mono ?_
    rw [HG.out]
    rintro e w1 ⟨rfl, hB1⟩
    have hb1 := cell_keep hB1 hbox
    have hBB := Below.trans' hB0 hB1
    clear hbox hB1
    go_wp2_with fail
    refine (valuesBy_any gf lb R G a c xss _ (ha.keep hBB) hs HG.out HEG.out hG0 HGR.out (fun a c vs W hW => HR.out a c vs W (Below.trans' hBB hW))).mono ?_
    intro e w2 hN
    obtain ⟨v, rfl, hfin⟩ := HF.out e w1 w2 hBB.size hBB hN
    have HFIN := hide hfin
    clear hN hfin
    go_wp2_with fail
    go_ret2
    exact HFIN.out
end Go.Proofs.Ytlgogpphlnogoaa
