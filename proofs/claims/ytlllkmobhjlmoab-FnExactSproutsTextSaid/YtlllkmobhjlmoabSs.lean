/-
  Sprouts positions: IsSprouts and DegreesOf, the model's texts.
-/
import Derived.Test.YtlllkmobhjlmoabSq
namespace Go.Proofs.Ytlllkmobhjlmoab
open Go.RowKit
set_option linter.unusedVariables false

theorem isSprB_none {s : Int} {X : List (List (List Int))} (h : sprC s X = none) : isSprB s X = false := by unfold isSprB; rw [h]; rfl
theorem isSprB_some {s : Int} {X : List (List (List Int))} {st : Cts} (h : sprC s X = some st) : isSprB s X = true := by unfold isSprB; rw [h]; rfl

set_option maxRecDepth 100000 in
set_option maxHeartbeats 1000000 in
theorem l02Is_any (s : Int) (a : Option Addr) (c : Nat) (X : List (List (List Int))) (W : World) (ha : CubeAt W a X) (hs : Small3 X) :
    Calls Try.prog 26 #[.agg #[.int .i64 s, .slice a X.length c]] W (RetB (.bool (isSprB s X)) W) := by
  have hB0 := hide (below_alloc W (.cells #[.int .i64 s, .slice a X.length c] 29))
  have c0 : (W.alloc (.cells #[.int .i64 s, .slice a X.length c] 29)).cell? ⟨W.heap.size, 0, none⟩ = some (.int .i64 s) := by simp [go_sem]
  have c1 : (W.alloc (.cells #[.int .i64 s, .slice a X.length c] 29)).cell? ⟨W.heap.size, 1, none⟩ = some (.slice a X.length c) := by simp [go_sem]
  have HA0 := hide (ha.keep hB0.out)
  clear ha
  obtain ⟨rp, hrp⟩ : ∃ rp, rp = sprC s X := ⟨_, rfl⟩
  cases rp with
  | none =>
    rw [isSprB_none hrp.symm]
    have HRP := hide hrp
    clear hrp
    go_enter Try.func26, Try.ntmps26
    go_wp2_with fail
    refine (specDeg_any s a c X _ HA0.out hs).mono ?_
    rw [← HRP.out]
    rintro e w1 ⟨hb1, rfl⟩
    have hB1 := hide (Below.trans' hB0.out hb1)
    clear hb1 c0 c1
    go_wp2_with fail
    go_ret
    exact ⟨rfl, hB1.out⟩
  | some st =>
    rw [isSprB_some hrp.symm]
    have HRP := hide hrp
    clear hrp
    go_enter Try.func26, Try.ntmps26
    go_wp2_with fail
    refine (specDeg_any s a c X _ HA0.out hs).mono ?_
    rw [← HRP.out]
    rintro e w1 ⟨hb1, b, hbb, rfl, hr⟩
    have hB1 := hide (Below.trans' hB0.out hb1)
    clear hb1 c0 c1 hr
    go_wp2_with fail
    go_ret
    exact ⟨rfl, hB1.out⟩

/-- What DegreesOf hands back. -/
def DegR (r : Option Cts) (s : Nat) (W : World) (e : Ending) (w' : World) : Prop := Below W.heap.size W w' ∧ match r with
  | none => e = .returned (.tuple #[.slice none 0 0, .int .i64 1])
  | some st => ∃ b, W.heap.size ≤ b ∧ e = .returned (.tuple #[.slice (some ⟨b, 0, none⟩) s s, .int .i64 0]) ∧ w'.rowIs b 2 s (fun i => .int .i64 (degC st s i))
theorem DegR.no {s : Nat} {W w' : World} (hb : Below W.heap.size W w') : DegR none s W (.returned (.tuple #[.slice none 0 0, .int .i64 1])) w' := ⟨hb, rfl⟩
theorem DegR.yes {st : Cts} {s b : Nat} {W w' : World} (hb : Below W.heap.size W w') (hm : W.heap.size ≤ b) (hr : w'.rowIs b 2 s (fun i => .int .i64 (degC st s i))) : DegR (some st) s W (.returned (.tuple #[.slice (some ⟨b, 0, none⟩) s s, .int .i64 0])) w' := ⟨hb, b, hm, rfl, hr⟩
set_option maxRecDepth 100000 in
set_option maxHeartbeats 1000000 in
theorem specDegrees_any (s : Int) (a : Option Addr) (c : Nat) (X : List (List (List Int))) (W : World) (ha : CubeAt W a X) (hs : Small3 X) :
    Calls Try.prog 7 #[.agg #[.int .i64 s, .slice a X.length c]] W (DegR (sprC s X) s.toNat W) := by
  have hB0 := hide (below_alloc W (.cells #[.int .i64 s, .slice a X.length c] 29))
  have c0 : (W.alloc (.cells #[.int .i64 s, .slice a X.length c] 29)).cell? ⟨W.heap.size, 0, none⟩ = some (.int .i64 s) := by simp [go_sem]
  have c1 : (W.alloc (.cells #[.int .i64 s, .slice a X.length c] 29)).cell? ⟨W.heap.size, 1, none⟩ = some (.slice a X.length c) := by simp [go_sem]
  have HA0 := hide (ha.keep hB0.out)
  clear ha
  obtain ⟨sn, hsn⟩ : ∃ sn, sn = s.toNat := ⟨_, rfl⟩
  obtain ⟨rp, hrp⟩ : ∃ rp, rp = sprC s X := ⟨_, rfl⟩
  rw [← hrp, ← hsn]
  have HSN := hide hsn
  have HRP := hide hrp
  clear hsn hrp
  cases rp with
  | none =>
    go_enter Try.func7, Try.ntmps7
    go_wp2_with fail
    refine (specDeg_any s a c X _ HA0.out hs).mono ?_
    rw [← HRP.out]
    rintro e w1 ⟨hb1, rfl⟩
    have hB1 := hide (Below.trans' hB0.out hb1)
    clear hb1 c0 c1
    go_wp2_with fail
    go_ret2
    exact DegR.no hB1.out
  | some st =>
    go_enter Try.func7, Try.ntmps7
    go_wp2_with fail
    refine (specDeg_any s a c X _ HA0.out hs).mono ?_
    rw [← HRP.out, ← HSN.out]
    rintro e w1 ⟨hb1, b, hbb, rfl, hr⟩
    have hB1 := hide (Below.trans' hB0.out hb1)
    have HR := hide hr
    have HBB : Hid (W.heap.size ≤ b) := hide (by simp at hbb; omega)
    clear hb1 c0 c1 hr hbb
    go_wp2_with fail
    go_ret2
    exact DegR.yes hB1.out HBB.out HR.out
end Go.Proofs.Ytlllkmobhjlmoab
