/-
  Ends of dots and boxes: values of endings and best openings, the model's text.
-/
import Derived.Test.YtbfpbkbhikogiabVo
namespace Go.Proofs.Ytbfpbkbhikogiab
open Go.RowKit
set_option linter.unusedVariables false

set_option maxRecDepth 100000 in
set_option maxHeartbeats 1000000 in
theorem value_any : ∀ (n : Nat) (a : Option Addr) (c : Nat) (cs : List Int) (a' : Option Addr) (c' : Nat) (ls : List Int) (W : World), IntsAt W a cs → IntsAt W a' ls → okEn cs ls = true → cs.length + ls.length = n →
    Calls Try.prog 11 #[.agg #[.slice a cs.length c, .slice a' ls.length c']] W (RetB (.int .i64 (vT (cntL cs ls))) W)
  | 0, a, c, cs, a', c', ls, W, ha, ha', hok, hn => by
    have h1 : cs = [] := List.eq_nil_of_length_eq_zero (by omega)
    have h2 : ls = [] := List.eq_nil_of_length_eq_zero (by omega)
    subst h1 h2
    have hv : Hid (vT (cntL [] []) = 0) := hide (vT_over (by decide))
    rw [hv.out]
    have hB0 := hide (below_alloc W (.cells #[.slice a ([] : List Int).length c, .slice a' ([] : List Int).length c'] 33))
    clear ha ha' hok hn
    go_enter Try.func11, Try.ntmps11
    go_wp2
    go_ret
    exact ⟨rfl, hB0.out⟩
  | n + 1, a, c, cs, a', c', ls, W, ha, ha', hok, hn => by
    obtain ⟨W0, hW0⟩ : ∃ W0, W0 = W.alloc (.cells #[.slice a cs.length c, .slice a' ls.length c'] 33) := ⟨_, rfl⟩
    have hB0 : Hid (Below W.heap.size W W0) := by rw [hW0]; exact hide (below_alloc _ _)
    have hX0 : Hid (EndIn W0 W.heap.size a cs.length c a' ls.length c') := by rw [hW0]; exact hide (endIn_new _ _ _ _ _ _ _ _)
    have hA0 := hide (ha.keep hB0.out)
    have hA0' := hide (ha'.keep hB0.out)
    have hop := hide (opening_any n a c cs a' c' ls W0 hA0.out hA0'.out hok hn (value_any n))
    have hsum : (cntL cs ls).sum = n + 1 := by
      rw [cntL_sum cs ls (fun x hx => by have := (okEn_rng hok).1 x hx; omega) (fun x hx => by have := (okEn_rng hok).2 x hx; omega)]
      exact hn
    have hv : Hid (vT (cntL cs ls) = bV (cntL cs ls) (some (opT (cntL cs ls)))) := hide (vT_step (cntL_len _ _) (by omega))
    rw [hv.out]
    obtain ⟨B1, hB1⟩ : ∃ B1, B1 = bV (cntL cs ls) (some (opT (cntL cs ls))) := ⟨_, rfl⟩
    obtain ⟨B2, hB2⟩ : ∃ B2, B2 = lV (some (opT (cntL cs ls))) := ⟨_, rfl⟩
    obtain ⟨B3, hB3⟩ : ∃ B3, B3 = xV (some (opT (cntL cs ls))) := ⟨_, rfl⟩
    rw [← hB1, ← hB2, ← hB3] at hop
    rw [← hB1]
    obtain ⟨c0, c1⟩ := hX0.out
    have h8 := (okEn_parts hok).1
    have hnz : ((cs.length : Int) + (ls.length : Int) == 0) = false := by rw [beq_eq_false_iff_ne]; omega
    clear ha ha' hok hsum hv hB1 hB2 hB3
    go_enter Try.func11, Try.ntmps11
    go_wp2_with fail
    rw [← hW0]
    clear hW0
    (try go_wp2_with fail)
    refine hop.out.mono ?_
    rintro e w1 ⟨rfl, hb1⟩
    have hB1 := hide (Below.trans' hB0.out hb1)
    clear hb1 c0 c1
    go_wp2_with fail
    go_ret
    exact ⟨rfl, hB1.out⟩

def valR (cs ls : List Int) : Int × Int := if okEn cs ls = true then (vT (cntL cs ls), 0) else (0, 1)
/-- Whether the best opening is one of a loop, its boxes, and a code. -/
def openR (cs ls : List Int) : Bool × Int × Int := if okEn cs ls = true then (if cs.length + ls.length = 0 then (false, 0, 5) else (lV (some (opT (cntL cs ls))), xV (some (opT (cntL cs ls))), 0)) else (false, 0, 1)
def openV : Bool × Int × Int → Value | (l, x, c) => .tuple #[.bool l, .int .i64 x, .int .i64 c]
end Go.Proofs.Ytbfpbkbhikogiab
