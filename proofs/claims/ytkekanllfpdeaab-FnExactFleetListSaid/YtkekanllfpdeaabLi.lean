/-
  Lines of a grid: lineFrom, the program's text.
-/
import Derived.Test.YtkekanllfpdeaabSf
import Derived.BigQuiet
namespace Go.Proofs.Ytkekanllfpdeaab
open Go.RowKit
set_option linter.unusedVariables false

/-- What lineFrom hands back. -/
def lineV : Option Int → Value
  | some L => .tuple #[.int .i64 L, .bool true]
  | none => .tuple #[.int .i64 0, .bool false]
theorem lineGo_no {W H dx dy x y L : Int} {k : Nat} (h : x < 0 ∨ W ≤ x ∨ H ≤ y) : lineGo W H dx dy (k + 1) x y L = none := by
  unfold lineGo
  rw [if_pos h]
theorem lineGo_go {W H dx dy x y L : Int} {k : Nat} (h0 : 0 ≤ x) (h1 : x < W) (h2 : y < H) : lineGo W H dx dy (k + 1) x y L = lineGo W H dx dy k (x + dx) (y + dy) (withE L (y * W + x)) := by
  rw [lineGo.eq_def]
  dsimp only
  rw [if_neg (by omega)]

set_option maxRecDepth 100000 in
set_option maxHeartbeats 4000000 in
theorem lineFrom_any (W H dx dy : Int) (n s : Nat) (V : World) (w0 : 1 ≤ W) (w1 : W ≤ 5) (h0 : 1 ≤ H) (h1 : H ≤ 5) (dx0 : 0 ≤ dx) (dx1 : dx ≤ 1) (dy0 : 0 ≤ dy) (dy1 : dy ≤ 1) (hn : n ≤ 5) (hs : s < 25) :
    Calls Try.prog 74 #[.agg #[.int .i64 W, .int .i64 H], .int .i64 s, .agg #[.int .i64 dx, .int .i64 dy], .int .i64 n] V (RetB (lineV (lineAt W H n dx dy s)) V) := by
  obtain ⟨V0, hV0⟩ : ∃ V0, V0 = (V.alloc (.cells #[.int .i64 W, .int .i64 H] 78)).alloc (.cells #[.int .i64 dx, .int .i64 dy] 80) := ⟨_, rfl⟩
  have hB0 : Hid (Below V.heap.size V V0) := by rw [hV0]; exact hide ((below_alloc _ _).alloc (by simp) _)
  have c0 : V0.cell? ⟨V.heap.size, 0, none⟩ = some (.int .i64 W) := by rw [hV0]; simp [go_sem]
  have c1 : V0.cell? ⟨V.heap.size, 1, none⟩ = some (.int .i64 H) := by rw [hV0]; simp [go_sem]
  have d0 : V0.cell? ⟨V.heap.size + 1, 0, none⟩ = some (.int .i64 dx) := by rw [hV0]; simp [go_sem]
  have d1 : V0.cell? ⟨V.heap.size + 1, 1, none⟩ = some (.int .i64 dy) := by rw [hV0]; simp [go_sem]
  obtain ⟨r, hr⟩ : ∃ r, r = lineAt W H n dx dy s := ⟨_, rfl⟩
  rw [← hr]
  have HR := hide hr
  clear hr
  have HC : Hid (∀ V' : World, Below V0.heap.size V0 V' → V'.cell? ⟨V.heap.size, 0, none⟩ = some (.int .i64 W) ∧ V'.cell? ⟨V.heap.size, 1, none⟩ = some (.int .i64 H) ∧ V'.cell? ⟨V.heap.size + 1, 0, none⟩ = some (.int .i64 dx) ∧ V'.cell? ⟨V.heap.size + 1, 1, none⟩ = some (.int .i64 dy)) := hide (fun V' h => ⟨cell_keep h c0, cell_keep h c1, cell_keep h d0, cell_keep h d1⟩)
  have hW0 : ¬ (W = 0) := by omega
  have hst0 : (s : Int).tmod W = (s : Int) % W := by rw [Int.tmod_eq_emod_of_nonneg (by omega)]
  have hst1 : (s : Int).tdiv W = (s : Int) / W := by rw [Int.tdiv_eq_ediv_of_nonneg (by omega)]
  obtain ⟨x0, hx0⟩ : ∃ x0, x0 = (s : Int) % W := ⟨_, rfl⟩
  obtain ⟨y0, hy0⟩ : ∃ y0, y0 = (s : Int) / W := ⟨_, rfl⟩
  have hx0r : 0 ≤ x0 ∧ x0 ≤ 4 := by rw [hx0]; have := Int.emod_nonneg (s : Int) hW0; have := Int.emod_lt_of_pos (s : Int) (show 0 < W by omega); omega
  have hy0r : 0 ≤ y0 ∧ y0 ≤ 24 := by
    rw [hy0]
    exact ⟨Int.ediv_nonneg (by omega) (by omega), Int.le_trans (Int.ediv_le_self _ (by omega)) (by omega)⟩
  have hwy : wrap64 y0 = y0 := by unfold wrap64; omega
  have HR2 : Hid (r = lineGo W H dx dy n x0 y0 0) := hide (by rw [HR.out]; unfold lineAt; rw [← hx0, ← hy0])
  rw [← hx0] at hst0
  rw [← hy0] at hst1
  clear hx0 hy0 HR
  go_enter Try.func74, Try.ntmps74
  go_wp2_with fail
  rw [← hV0]
  clear hV0
  (try go_wp2_with fail)
  go_quiet (fail)
  have hBq : Below V0.heap.size V0 (V0.drewN nq) := quiet_below ⟨nq, rfl⟩
  have hb0 : Hid (Below V0.heap.size V0 (V0.drewN nq)) := hide hBq
  clear c0 c1 d0 d1 hst0 hst1 hBq
  go_wp2_with fail
  go_loopw [10, 11, 12, 22] (fun vx vy vl vk wr => ∃ (k : Nat) (x y L : Int), vx = .int .i64 x ∧ vy = .int .i64 y ∧ vl = .int .i64 L ∧ vk = .int .i64 k ∧ k ≤ n ∧ 0 ≤ x ∧ x ≤ 4 + k ∧ 0 ≤ y ∧ y ≤ 24 + k ∧ 0 ≤ L ∧ L < 33554432 ∧ Hid (r = lineGo W H dx dy (n - k) x y L) ∧ Below V0.heap.size V0 wr) (fun _ _ _ vk _ => n - (intOf vk).toNat)
  case atStart => exact ⟨0, x0, y0, 0, rfl, rfl, rfl, rfl, Nat.zero_le _, hx0r.1, by omega, hy0r.1, by omega, by decide, by decide, HR2, hb0.out⟩
  case round =>
    clear hx0r hy0r hwy HR2 hb0
    obtain ⟨k, x, y, L, rfl, rfl, rfl, rfl, hk, x1, x2, y1, y2, l1, l2, hR, hB⟩ := hrel
    obtain ⟨c0, c1, d0, d1⟩ := HC.out _ hB
    have HB := hide hB
    have hx00 : decide (x < 0) = false := decide_eq_false (by omega)
    clear hB
    by_cases hlt : k < n
    · obtain ⟨m, hm⟩ : ∃ m, n - k = m + 1 := ⟨n - k - 1, by omega⟩
      have hm' : n - (k + 1) = m := by omega
      rw [hm] at hR
      by_cases hxW : W ≤ x
      · have hno : Hid (r = none) := hide (by rw [hR.out]; exact lineGo_no (.inr (.inl hxW)))
        have hd : decide (x ≥ W) = true := decide_eq_true hxW
        clear hm hR hm'
        go_wp2_with fail
        go_ret2
        exact ⟨by rw [hno.out]; rfl, Below.trans' hB0.out HB.out⟩
      · by_cases hyH : H ≤ y
        · have hno : Hid (r = none) := hide (by rw [hR.out]; exact lineGo_no (.inr (.inr hyH)))
          have hd : decide (x ≥ W) = false := decide_eq_false hxW
          have hd2 : decide (y ≥ H) = true := decide_eq_true hyH
          clear hm hR hm'
          go_wp2_with fail
          go_ret2
          exact ⟨by rw [hno.out]; rfl, Below.trans' hB0.out HB.out⟩
        · have hgo : Hid (r = lineGo W H dx dy m (x + dx) (y + dy) (withE L (y * W + x))) := hide (by rw [hR.out]; exact lineGo_go x1 (by omega) (by omega))
          have hd : decide (x ≥ W) = false := decide_eq_false hxW
          have hd2 : decide (y ≥ H) = false := decide_eq_false hyH
          have hp : 0 ≤ y * W ∧ y * W ≤ 20 := by
            have : y = 0 ∨ y = 1 ∨ y = 2 ∨ y = 3 ∨ y = 4 := by omega
            rcases this with h | h | h | h | h <;> subst h <;> omega
          obtain ⟨c, hc⟩ : ∃ c, c = y * W + x := ⟨_, rfl⟩
          have hcw1 : wrap64 (y * W) = y * W := by unfold wrap64; omega
          have hcw2 : wrap64 (y * W + x) = c := by rw [hc]; unfold wrap64; omega
          have hc24 : 0 ≤ c ∧ c ≤ 24 := by rw [hc]; omega
          have hcn : ¬ (c < 0) := by omega
          have hsh := shl_walkX (k := c) (by omega)
          have hor := or_walkX (E := L) (k := c) l1 (by omega) (by omega)
          have hLr := hide (withE_lt (E := L) (k := c) (n := 25) l1 (by simpa using l2) (by omega))
          have hL0 := hide (withE_nonneg L c)
          rw [← hc] at hgo
          obtain ⟨L', hL'⟩ : ∃ L', L' = withE L c := ⟨_, rfl⟩
          rw [← hL'] at hor hLr hL0 hgo
          have hxw : wrap64 (x + dx) = x + dx := by unfold wrap64; omega
          have hyw : wrap64 (y + dy) = y + dy := by unfold wrap64; omega
          clear hm hR hc hL' hp hxW hyH l1 l2
          go_wp2_with fail
          go_quiet (fail)
          have hB2 := hide (Below.trans' HB.out (quiet_below (B := wr.heap.size) ⟨nq, rfl⟩ : Below wr.heap.size wr (wr.drewN nq)))
          clear c0 c1 d0 d1 hcw1 hcw2 hsh hor hd hd2 hxw hyw hx00
          go_wp2_with fail
          go_roundw
          case rel => exact ⟨k + 1, x + dx, y + dy, L', rfl, rfl, rfl, by go_num, by omega, by omega, by omega, by omega, by omega, hL0.out, by have := hLr.out; simpa using this, by rw [hm']; exact hgo, hB2.out⟩
          case measure => simp [intOf]; omega
    · have hkn : n - k = 0 := by omega
      have hyes : Hid (r = some L) := hide (by rw [hR.out, hkn]; rfl)
      clear hkn hR
      go_wp2_with fail
      go_ret2
      exact ⟨by rw [hyes.out]; rfl, Below.trans' hB0.out HB.out⟩
end Go.Proofs.Ytkekanllfpdeaab
