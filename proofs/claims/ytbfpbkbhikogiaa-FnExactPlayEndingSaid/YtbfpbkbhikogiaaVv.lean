/-
  Ends of dots and boxes: values of endings and best openings, the model's text.
-/
import Derived.Test.YtbfpbkbhikogiaaVo
namespace Go.Proofs.Ytbfpbkbhikogiaa
open Go.RowKit
set_option linter.unusedVariables false

set_option maxRecDepth 100000 in
set_option maxHeartbeats 1000000 in
theorem value_any : ∀ (n : Nat) (a : Option Addr) (c : Nat) (cs : List Int) (a' : Option Addr) (c' : Nat) (ls : List Int) (W : World), IntsAt W a cs → IntsAt W a' ls → okEn cs ls = true → cs.length + ls.length = n →
    Calls Try.prog 59 #[.agg #[.slice a cs.length c, .slice a' ls.length c']] W (RetB (.int .i64 (vT (cntL cs ls))) W)
  | 0, a, c, cs, a', c', ls, W, ha, ha', hok, hn => by
    have h1 : cs = [] := List.eq_nil_of_length_eq_zero (by omega)
    have h2 : ls = [] := List.eq_nil_of_length_eq_zero (by omega)
    subst h1 h2
    have hv : Hid (vT (cntL [] []) = 0) := hide (vT_over (by decide))
    rw [hv.out]
    have hB0 := hide (below_alloc W (.cells #[.slice a ([] : List Int).length c, .slice a' ([] : List Int).length c'] 26))
    clear ha ha' hok hn
    go_enter Try.func59, Try.ntmps59
    go_wp2
    go_ret
    exact ⟨rfl, hB0.out⟩
  | n + 1, a, c, cs, a', c', ls, W, ha, ha', hok, hn => by
    obtain ⟨W0, hW0⟩ : ∃ W0, W0 = W.alloc (.cells #[.slice a cs.length c, .slice a' ls.length c'] 26) := ⟨_, rfl⟩
    have hB0 : Hid (Below W.heap.size W W0) := by rw [hW0]; exact hide (below_alloc _ _)
    have hX0 : Hid (EndIn W0 W.heap.size a cs.length c a' ls.length c') := by rw [hW0]; exact hide (endIn_new _ _ _ _ _ _ _ _)
    have hA0 := hide (ha.keep hB0.out)
    have hA0' := hide (ha'.keep hB0.out)
    have hop := hide (opening_any n a c cs a' c' ls W0 hA0.out hA0'.out hok hn (value_any n))
    have hsum : (cntL cs ls).sum = n + 1 := by
      rw [cntL_sum cs ls (fun x hx => by have := (okEn_rng hok).1 x hx; omega) (fun x hx => by have := (okEn_rng hok).2 x hx; omega)]
      exact hn
    have hv : Hid (vT (cntL cs ls) = bV (cntL cs ls) (some (opT (cntL cs ls)))) := hide (vT_step (cntL_len _ _) (by omega))
    rw [hv.out]
    obtain ⟨B1, hB1⟩ : ∃ B1, B1 = bV (cntL cs ls) (some (opT (cntL cs ls))) := ⟨_, rfl⟩
    obtain ⟨B2, hB2⟩ : ∃ B2, B2 = lV (some (opT (cntL cs ls))) := ⟨_, rfl⟩
    obtain ⟨B3, hB3⟩ : ∃ B3, B3 = xV (some (opT (cntL cs ls))) := ⟨_, rfl⟩
    rw [← hB1, ← hB2, ← hB3] at hop
    rw [← hB1]
    obtain ⟨c0, c1⟩ := hX0.out
    have h8 := (okEn_parts hok).1
    have hnz : ((cs.length : Int) + (ls.length : Int) == 0) = false := by rw [beq_eq_false_iff_ne]; omega
    clear ha ha' hok hsum hv hB1 hB2 hB3
    go_enter Try.func59, Try.ntmps59
    go_wp2_with fail
    rw [← hW0]
    clear hW0
    (try go_wp2_with fail)
    refine hop.out.mono ?_
    rintro e w1 ⟨rfl, hb1⟩
    have hB1 := hide (Below.trans' hB0.out hb1)
    clear hb1 c0 c1
    go_wp2_with fail
    go_ret
    exact ⟨rfl, hB1.out⟩

def valR (cs ls : List Int) : Int × Int := if okEn cs ls = true then (vT (cntL cs ls), 0) else (0, 1)
set_option maxRecDepth 100000 in
set_option maxHeartbeats 1000000 in
theorem specVal_any (a : Option Addr) (c : Nat) (cs : List Int) (a' : Option Addr) (c' : Nat) (ls : List Int) (W : World) (ha : IntsAt W a cs) (ha' : IntsAt W a' ls) (hl : cs.length ≤ 1048576) (hl' : ls.length ≤ 1048576) :
    Calls Try.prog 40 #[.agg #[.slice a cs.length c, .slice a' ls.length c']] W (RetB (numV (valR cs ls)) W) := by
  obtain ⟨W0, hW0⟩ : ∃ W0, W0 = W.alloc (.cells #[.slice a cs.length c, .slice a' ls.length c'] 26) := ⟨_, rfl⟩
  have hB0 : Hid (Below W.heap.size W W0) := by rw [hW0]; exact hide (below_alloc _ _)
  have hX0 : Hid (EndIn W0 W.heap.size a cs.length c a' ls.length c') := by rw [hW0]; exact hide (endIn_new _ _ _ _ _ _ _ _)
  have hA0 := hide (ha.keep hB0.out)
  have hA0' := hide (ha'.keep hB0.out)
  obtain ⟨r, hr⟩ : ∃ r, r = valR cs ls := ⟨_, rfl⟩
  rw [← hr]
  unfold valR at hr
  obtain ⟨c0, c1⟩ := hX0.out
  clear ha ha'
  cases hok : okEn cs ls
  · have HR : Hid (r = (0, 1)) := hide (by rw [hr, hok]; rfl)
    have HK := hide hok
    clear hr hok
    go_enter Try.func40, Try.ntmps40
    go_wp2_with fail
    rw [← hW0]
    clear hW0
    (try go_wp2_with fail)
    refine (specIs_any _ _ cs _ _ ls _ hA0.out hA0'.out hl hl').mono ?_
    rw [HK.out]
    rintro e w1 ⟨rfl, hb1⟩
    have hB1 := hide (Below.trans' hB0.out hb1)
    clear hb1 c0 c1
    go_wp2_with fail
    go_ret2
    exact ⟨by rw [HR.out]; rfl, hB1.out⟩
  · have HR : Hid (r = (vT (cntL cs ls), 0)) := hide (by rw [hr, hok]; rfl)
    have HK := hide hok
    clear hr hok
    go_enter Try.func40, Try.ntmps40
    go_wp2_with fail
    rw [← hW0]
    clear hW0
    (try go_wp2_with fail)
    refine (specIs_any _ _ cs _ _ ls _ hA0.out hA0'.out hl hl').mono ?_
    rw [HK.out]
    rintro e w1 ⟨rfl, hb1⟩
    have hB1 := hide (Below.trans' hB0.out hb1)
    have hA1 := hide (hA0.out.keep hb1)
    have hA1' := hide (hA0'.out.keep hb1)
    have hX1 := hX0.out.keep hb1
    clear hb1 c0 c1
    obtain ⟨c0, c1⟩ := hX1
    go_wp2_with fail
    refine (value_any _ _ _ cs _ _ ls _ hA1.out hA1'.out HK.out rfl).mono ?_
    rintro e w2 ⟨rfl, hb2⟩
    have hB2 := hide (Below.trans' hB1.out hb2)
    clear hb2 c0 c1
    go_wp2_with fail
    go_ret2
    exact ⟨by rw [HR.out]; rfl, hB2.out⟩

/-- Whether the best opening is one of a loop, its boxes, and a code. -/
def openR (cs ls : List Int) : Bool × Int × Int := if okEn cs ls = true then (if cs.length + ls.length = 0 then (false, 0, 5) else (lV (some (opT (cntL cs ls))), xV (some (opT (cntL cs ls))), 0)) else (false, 0, 1)
def openV : Bool × Int × Int → Value | (l, x, c) => .tuple #[.bool l, .int .i64 x, .int .i64 c]
set_option maxRecDepth 100000 in
set_option maxHeartbeats 1000000 in
theorem specOpen_any (a : Option Addr) (c : Nat) (cs : List Int) (a' : Option Addr) (c' : Nat) (ls : List Int) (W : World) (ha : IntsAt W a cs) (ha' : IntsAt W a' ls) (hl : cs.length ≤ 1048576) (hl' : ls.length ≤ 1048576) :
    Calls Try.prog 41 #[.agg #[.slice a cs.length c, .slice a' ls.length c']] W (RetB (openV (openR cs ls)) W) := by
  obtain ⟨W0, hW0⟩ : ∃ W0, W0 = W.alloc (.cells #[.slice a cs.length c, .slice a' ls.length c'] 26) := ⟨_, rfl⟩
  have hB0 : Hid (Below W.heap.size W W0) := by rw [hW0]; exact hide (below_alloc _ _)
  have hX0 : Hid (EndIn W0 W.heap.size a cs.length c a' ls.length c') := by rw [hW0]; exact hide (endIn_new _ _ _ _ _ _ _ _)
  have hA0 := hide (ha.keep hB0.out)
  have hA0' := hide (ha'.keep hB0.out)
  obtain ⟨r, hr⟩ : ∃ r, r = openR cs ls := ⟨_, rfl⟩
  rw [← hr]
  unfold openR at hr
  obtain ⟨c0, c1⟩ := hX0.out
  clear ha ha'
  cases hok : okEn cs ls
  · have HR : Hid (r = (false, 0, 1)) := hide (by rw [hr, hok]; rfl)
    have HK := hide hok
    clear hr hok
    go_enter Try.func41, Try.ntmps41
    go_wp2_with fail
    rw [← hW0]
    clear hW0
    (try go_wp2_with fail)
    refine (specIs_any _ _ cs _ _ ls _ hA0.out hA0'.out hl hl').mono ?_
    rw [HK.out]
    rintro e w1 ⟨rfl, hb1⟩
    have hB1 := hide (Below.trans' hB0.out hb1)
    clear hb1 c0 c1
    go_wp2_with fail
    refine bodyPost_ret (v := .tuple #[.bool false, .int .i64 0, .int .i64 1]) (by simp [results, Try.results41, go_sem]) rfl ⟨by rw [HR.out]; rfl, hB1.out⟩
  · have HK := hide hok
    rw [hok, if_pos rfl] at hr
    have h8 := (okEn_parts hok).1
    clear hok
    by_cases hz : cs.length + ls.length = 0
    · have HR : Hid (r = (false, 0, 5)) := hide (by rw [hr, if_pos hz])
      have h1 : cs = [] := List.eq_nil_of_length_eq_zero (by omega)
      have h2 : ls = [] := List.eq_nil_of_length_eq_zero (by omega)
      subst h1 h2
      clear hr hz h8
      go_enter Try.func41, Try.ntmps41
      go_wp2_with fail
      (try rw [← hW0])
      (try simp only [List.length_nil] at hW0 c0 c1)
      (try rw [← hW0])
      clear hW0
      (try go_wp2_with fail)
      refine (specIs_any _ _ [] _ _ [] _ hA0.out hA0'.out hl hl').mono ?_
      rw [HK.out]
      rintro e w1 ⟨rfl, hb1⟩
      have hB1 := hide (Below.trans' hB0.out hb1)
      have hX1 := hX0.out.keep hb1
      clear hb1 c0 c1
      obtain ⟨c0, c1⟩ := hX1
      (try simp only [List.length_nil] at c0 c1)
      go_wp2_with fail
      refine bodyPost_ret (v := .tuple #[.bool false, .int .i64 0, .int .i64 5]) (by simp [results, Try.results41, go_sem]) rfl ⟨by rw [HR.out]; rfl, hB1.out⟩
    · obtain ⟨n, hn⟩ : ∃ n, cs.length + ls.length = n + 1 := ⟨cs.length + ls.length - 1, by omega⟩
      have HR : Hid (r = (lV (some (opT (cntL cs ls))), xV (some (opT (cntL cs ls))), 0)) := hide (by rw [hr, if_neg hz])
      have hnz : ((cs.length : Int) + (ls.length : Int) == 0) = false := by rw [beq_eq_false_iff_ne]; omega
      have HN := hide hn
      clear hr hz hn
      go_enter Try.func41, Try.ntmps41
      go_wp2_with fail
      rw [← hW0]
      clear hW0
      (try go_wp2_with fail)
      refine (specIs_any _ _ cs _ _ ls _ hA0.out hA0'.out hl hl').mono ?_
      rw [HK.out]
      rintro e w1 ⟨rfl, hb1⟩
      have hB1 := hide (Below.trans' hB0.out hb1)
      have hA1 := hide (hA0.out.keep hb1)
      have hA1' := hide (hA0'.out.keep hb1)
      have hX1 := hX0.out.keep hb1
      clear hb1 c0 c1
      obtain ⟨c0, c1⟩ := hX1
      have hop := hide (opening_any n a c cs a' c' ls w1 hA1.out hA1'.out HK.out HN.out (value_any n))
      obtain ⟨D1, hD1⟩ : ∃ B1, B1 = bV (cntL cs ls) (some (opT (cntL cs ls))) := ⟨_, rfl⟩
      obtain ⟨D2, hD2⟩ : ∃ B2, B2 = lV (some (opT (cntL cs ls))) := ⟨_, rfl⟩
      obtain ⟨D3, hD3⟩ : ∃ B3, B3 = xV (some (opT (cntL cs ls))) := ⟨_, rfl⟩
      rw [← hD1, ← hD2, ← hD3] at hop
      rw [← hD2, ← hD3] at HR
      clear hD1 hD2 hD3
      go_wp2_with fail
      refine hop.out.mono ?_
      rintro e w2 ⟨rfl, hb2⟩
      have hB2 := hide (Below.trans' hB1.out hb2)
      clear hb2 c0 c1
      go_wp2_with fail
      refine bodyPost_ret (v := .tuple #[.bool D2, .int .i64 D3, .int .i64 0]) (by simp [results, Try.results41, go_sem]) rfl ⟨by rw [HR.out]; rfl, hB2.out⟩
end Go.Proofs.Ytbfpbkbhikogiaa
