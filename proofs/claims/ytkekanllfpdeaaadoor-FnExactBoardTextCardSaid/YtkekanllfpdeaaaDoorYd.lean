/-
  Numbers in decimal, the model's text.
-/
import Derived.Test.YtkekanllfpdeaaaDoorYp
import Derived.Test.YtkekanllfpdeaaaDoorPast
import Derived.Laws.BytesString
import Derived.Deep.RegionWith
namespace Go.Proofs.YtkekanllfpdeaaaDoor
open Go.RowKit
set_option linter.unusedVariables false

theorem byte_text (d : Int) (hd : 0 ≤ d) (b : Nat) (w : World) (hc : w.cell? ⟨b, 0, none⟩ = some (.int .u8 (48 + d))) : (convert 115 9 (.slice (some ⟨b, 0, none⟩) 1 1)).run Tryd.prog w = .ok (.string ⟨#[dgt d]⟩) w := by
  have hdg : UInt8.ofNat (48 + d).toNat = dgt d := by
    unfold dgt
    rw [show (48 + d).toNat = 48 + d.toNat by omega]
  rw [run_convert_bytes_string _ _ _ _ _ _ _ Tryd.underlying115 Tryd.underlying5 Tryd.underlying9]
  rw [run_bytesToString _ _ _ _ [48 + d] (by simp [loadCells, go_sem, hc])]
  show Result.ok (Value.string (ByteArray.empty.push (UInt8.ofNat (48 + d).toNat))) _ = _
  rw [hdg]
  rfl

set_option maxRecDepth 100000 in
set_option maxHeartbeats 1000000 in
theorem dec1_any (n : Int) (h1 : 0 ≤ n) (h2 : n < 10) (W : World) : Calls Tryd.prog 111 #[.int .i64 n] W (RetB (.string ⟨#[dgt n]⟩) W) := by
  have hcv := byte_text n h1 W.heap.size (W.alloc (.cells #[.int .u8 (48 + n)] 5)) (by simp [go_sem])
  go_enter Tryd.func111, Tryd.ntmps111
  go_wp2_with fail
  go_ret
  exact ⟨rfl, below_alloc _ _⟩

theorem i64_small {k : Int} (h0 : 0 ≤ k) (h1 : k ≤ 200) : IntKind.i64.wrap k = k := by
  rw [IntKind.wrap_i64]
  omega
theorem u8_small {k : Int} (h0 : 0 ≤ k) (h1 : k ≤ 200) : IntKind.u8.wrap k = k := by
  rw [IntKind.wrap_u8]
  omega

set_option maxRecDepth 100000 in
set_option maxHeartbeats 2000000 in
theorem dec2_any (n q r : Int) (h1 : 10 ≤ n) (h2 : n < 100) (hq : n.tdiv 10 = q) (hr : n.tmod 10 = r) (q0 : 0 ≤ q) (q1 : q < 10) (r0 : 0 ≤ r) (r1 : r < 10) (W : World) : Calls Tryd.prog 111 #[.int .i64 n] W (RetB (.string ⟨#[dgt q, dgt r]⟩) W) := by
  have hcall : Hid (∀ V : World, Calls Tryd.prog 111 #[.int .i64 q] V (RetB (.string ⟨#[dgt q]⟩) V)) := hide (fun V => dec1_any q q0 q1 V)
  have hcv : ∀ V : World, (convert 115 9 (.slice (some ⟨V.heap.size, 0, none⟩) 1 1)).run Tryd.prog (V.alloc (.cells #[.int .u8 (48 + r)] 5)) = .ok (.string ⟨#[dgt r]⟩) (V.alloc (.cells #[.int .u8 (48 + r)] 5)) := fun V => byte_text r r0 V.heap.size _ (by simp [go_sem])
  have hcv0 : (convert 115 9 (.slice (some ⟨W.heap.size, 0, none⟩) 1 1)).run Tryd.prog (W.alloc (.cells #[.int .u8 (48 + r)] 5)).drew = .ok (.string ⟨#[dgt r]⟩) (W.alloc (.cells #[.int .u8 (48 + r)] 5)).drew := hcv W.drew
  have hcv2 : ∀ w' : World, Below (W.drew.alloc (.cells #[.int .u8 (48 + r)] 5)).heap.size (W.drew.alloc (.cells #[.int .u8 (48 + r)] 5)) w' → (convert 115 9 (.slice (some ⟨W.heap.size, 0, none⟩) 1 1)).run Tryd.prog w' = .ok (.string ⟨#[dgt r]⟩) w' := fun w' hb => byte_text r r0 W.heap.size _ (cell_keep hb (by show (W.drew.alloc (.cells #[.int .u8 (48 + r)] 5)).cell? ⟨W.drew.heap.size, 0, none⟩ = _; simp [go_sem]))
  have hadd : ∀ w' : World, (Op.stringOp .add ⟨#[dgt q]⟩ ⟨#[dgt r]⟩).run Tryd.prog w' = .ok (.string ⟨#[dgt q, dgt r]⟩) w' := fun w' => run_string_add_lists w' [dgt q] [dgt r] (by simp) (by simp)
  have w1 := i64_small q0 (by omega)
  have w2 := i64_small (k := 48 + r) (by omega) (by omega)
  have w3 := u8_small (k := 48 + r) (by omega) (by omega)
  go_enter Tryd.func111, Tryd.ntmps111
  go_wp2_with fail
  go_region_with (go_at_call 111; (with_reducible refine (hcall.out _).mono ?_); rintro e w5 ⟨rfl, hb5⟩; (try (have hcv3 := hcv2 _ hb5)))
  all_goals
    have hfin5 := hide hb5
    clear hb5
    go_wp2_with fail
    go_ret
    first | exact ⟨rfl, Below.trans' (Below.drew (Below.refl _ _)) (Below.trans' hfin5.out (below_alloc _ _))⟩ | exact ⟨rfl, Below.trans' (Below.drew (below_alloc _ _)) hfin5.out⟩

theorem dec_any (n : Int) (h1 : 0 ≤ n) (h2 : n < 100) (W : World) : Calls Tryd.prog 111 #[.int .i64 n] W (RetB (.string ⟨(decL n).toArray⟩) W) := by
  unfold decL
  by_cases h : n < 10
  · rw [if_pos h]
    exact dec1_any n h1 h W
  · rw [if_neg h]
    exact dec2_any n (n / 10) (n % 10) (by omega) h2 (Int.tdiv_eq_ediv_of_nonneg h1) (Int.tmod_eq_emod_of_nonneg h1) (by omega) (by omega) (by omega) (by omega) W
end Go.Proofs.YtkekanllfpdeaaaDoor
