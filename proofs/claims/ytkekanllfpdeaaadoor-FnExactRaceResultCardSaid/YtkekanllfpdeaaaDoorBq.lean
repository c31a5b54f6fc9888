/-
  checkState; FilledLine: both texts.
-/
import Derived.Test.YtkekanllfpdeaaaDoorBs
namespace Go.Proofs.YtkekanllfpdeaaaDoor
open Go.RowKit
set_option linter.unusedVariables false

def flL (cs : List Int) : Int → List Int → Int × Int × Int
  | _, [] => (0, 0, 4)
  | p, x :: r => match lin cs x with
    | some l => (p, l, 0)
    | none => flL cs (p + 1) r
theorem flL_yes {cs : List Int} {p x l : Int} {r : List Int} (h : lin cs x = some l) : flL cs p (x :: r) = (p, l, 0) := by simp [flL, h]
theorem flL_no {cs : List Int} {p x : Int} {r : List Int} (h : lin cs x = none) : flL cs p (x :: r) = flL cs (p + 1) r := by simp [flL, h]
def flR (n : Int) (cs : List Int) (F S : Int) : Int × Int × Int := if codeS n cs F S = 0 then flL cs 0 [F, S] else (0, 0, codeS n cs F S)
theorem ints_two (w : World) (x y : Int) : IntsAt (w.alloc (.cells #[.int .i64 x, .int .i64 y] 2)) (some ⟨w.heap.size, 0, none⟩) [x, y] := by
  intro _
  refine ⟨_, _, rfl, fun i hi => ?_⟩
  have hi2 : i < 2 := by simpa using hi
  rcases (by omega : i = 0 ∨ i = 1) with rfl | rfl <;> simp [go_sem, intV]

set_option maxRecDepth 100000 in
set_option maxHeartbeats 1000000 in
theorem checkState_any (n : Int) (a : Option Addr) (c : Nat) (cs : List Int) (F S : Int) (W : World) (ha : IntsAt W a cs) (hl : cs.length ≤ 1048576) :
    Calls Tryd.prog 126 #[.agg #[.int .i64 n, .slice a cs.length c], .int .i64 F, .int .i64 S] W (RetB (.int .i64 (codeS n cs F S)) W) := by
  obtain ⟨W0, hW0⟩ : ∃ W0, W0 = W.alloc (.cells #[.int .i64 n, .slice a cs.length c] 28) := ⟨_, rfl⟩
  have hB0 : Hid (Below W.heap.size W W0) := by rw [hW0]; exact hide (below_alloc _ _)
  have hX0 : Hid (HexIn W0 W.heap.size n a cs.length c) := by rw [hW0]; exact hide (hexIn_new _ _ _ _ _ _)
  have hA0 := hide (ha.keep hB0.out)
  obtain ⟨c0, c1⟩ := hX0.out
  obtain ⟨r, hr⟩ : ∃ r, r = codeS n cs F S := ⟨_, rfl⟩
  rw [← hr]
  by_cases h5 : r = 5
  · have hi : isR n cs F S = (false, 0) := by unfold isR; rw [← hr, if_pos h5]
    have HC : Hid (∀ V : World, Below W0.heap.size W0 V → Calls Tryd.prog 169 #[.agg #[.int .i64 n, .slice a cs.length c], .int .i64 F, .int .i64 S] V (RetB (.tuple #[.bool false, .int .i64 0]) V)) := hide (fun V hv => by have h := implIsS_any n a c cs F S V (hA0.out.keep hv) hl; rw [hi] at h; exact h)
    subst h5
    clear hr ha hi
    go_enter Tryd.func126, Tryd.ntmps126
    go_wp2_with fail
    rw [← hW0]
    clear hW0
    (try go_wp2_with fail)
    refine (HC.out _ (Below.refl _ _)).mono ?_
    rintro e w1 ⟨rfl, hb1⟩
    have hB1 := hide (Below.trans' hB0.out hb1)
    clear hb1
    go_wp2_with fail
    go_ret
    exact ⟨rfl, hB1.out⟩
  · by_cases h0 : r = 0
    · have hi : isR n cs F S = (true, 0) := by unfold isR; rw [← hr, if_neg h5, h0]; rfl
      have HC : Hid (∀ V : World, Below W0.heap.size W0 V → Calls Tryd.prog 169 #[.agg #[.int .i64 n, .slice a cs.length c], .int .i64 F, .int .i64 S] V (RetB (.tuple #[.bool true, .int .i64 0]) V)) := hide (fun V hv => by have h := implIsS_any n a c cs F S V (hA0.out.keep hv) hl; rw [hi] at h; exact h)
      subst h0
      clear hr ha hi h5
      go_enter Tryd.func126, Tryd.ntmps126
      go_wp2_with fail
      rw [← hW0]
      clear hW0
      (try go_wp2_with fail)
      refine (HC.out _ (Below.refl _ _)).mono ?_
      rintro e w1 ⟨rfl, hb1⟩
      have hB1 := hide (Below.trans' hB0.out hb1)
      clear hb1
      go_wp2_with fail
      go_ret
      exact ⟨rfl, hB1.out⟩
    · have hi : isR n cs F S = (false, r) := by unfold isR; rw [← hr, if_neg h5, decide_eq_false h0]
      have HC : Hid (∀ V : World, Below W0.heap.size W0 V → Calls Tryd.prog 169 #[.agg #[.int .i64 n, .slice a cs.length c], .int .i64 F, .int .i64 S] V (RetB (.tuple #[.bool false, .int .i64 r]) V)) := hide (fun V hv => by have h := implIsS_any n a c cs F S V (hA0.out.keep hv) hl; rw [hi] at h; exact h)
      have e0 : (r == 0) = false := by simp [h0]
      clear hr ha hi h5 h0
      go_enter Tryd.func126, Tryd.ntmps126
      go_wp2_with fail
      rw [← hW0]
      clear hW0
      (try go_wp2_with fail)
      refine (HC.out _ (Below.refl _ _)).mono ?_
      rintro e w1 ⟨rfl, hb1⟩
      have hB1 := hide (Below.trans' hB0.out hb1)
      clear hb1
      go_wp2_with fail
      go_ret
      exact ⟨rfl, hB1.out⟩

end Go.Proofs.YtkekanllfpdeaaaDoor
