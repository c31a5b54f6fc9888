/-
  slices.Repeat of a list of one number, and slices.Min.
-/
import Derived.Test.YtogfoahejgmfgaaMr
import Derived.Test.YtogfoahejgmfgaaPm
import Derived.Test.YtogfoahejgmfgaaSh
import Derived.Laws.CopyOwn
namespace Go.Proofs.Ytogfoahejgmfgaa
open Go.RowKit
set_option linter.unusedVariables false

def topI : Int := 9223372036854775807
def fillL (L k : Nat) : List Value := List.replicate k (.int .i64 9223372036854775807) ++ List.replicate (L - k) (.int .i64 0)
theorem fillL_len {L k : Nat} (h : k ≤ L) : (fillL L k).length = L := by simp [fillL]; omega
theorem splice_fill {L k m : Nat} (h : k + m ≤ L) : splice (fillL L k) k (List.replicate m (.int .i64 9223372036854775807)) = fillL L (k + m) := by
  unfold splice fillL
  rw [List.take_left' (by simp), List.length_replicate]
  have h2 : (List.replicate k (Value.int .i64 9223372036854775807) ++ List.replicate (L - k) (Value.int .i64 0)).drop (k + m) = List.replicate (L - (k + m)) (Value.int .i64 0) := by
    rw [List.drop_append]
    simp
    omega
  rw [h2, ← List.append_assoc, List.replicate_append_replicate]
theorem fillL_get {L k i : Nat} (h : i < k) : (fillL L k)[i]? = some (.int .i64 9223372036854775807) := by
  unfold fillL
  rw [List.getElem?_append_left (by simpa using h)]
  simp [h]

set_option maxRecDepth 100000 in
set_option maxHeartbeats 4000000 in
theorem repeat_any (bx L : Nat) (hL1 : 1 ≤ L) (hL64 : L ≤ 64) (W : World) (hx : W.cell? ⟨bx, 0, none⟩ = some (.int .i64 9223372036854775807)) :
    Calls Try.prog 107 #[.slice (some ⟨bx, 0, none⟩) 1 1, .int .i64 L] W (fun e W' => ∃ g, e = .returned (.slice (some ⟨g, 0, none⟩) L L) ∧ W.heap.size ≤ g ∧ W'.rowIs g 2 L (fun _ => .int .i64 9223372036854775807) ∧ Below W.heap.size W W') := by
  have hcv : IntKind.u64.wrap (L : Int) = (L : Int) := by rw [IntKind.wrap_u64]; omega
  have hcv2 : IntKind.i64.wrap (L : Int) = (L : Int) := by rw [IntKind.wrap_i64]; omega
  have hdL : decide ((L : Int) < 0) = false := by simp
  have hdT : decide ((9223372036854775807 : Int) < (L : Int)) = false := by simp; omega
  have HMU : Hid (∀ V : World, Calls Try.prog 127 #[.int .u64 1, .int .u64 L] V fun e w' => e = .returned (.tuple #[.int .u64 0, .int .u64 L]) ∧ w' = V) := hide (fun V => by
    have h := Try.bits_Mul 1 L (by omega) (by omega) V
    rw [Nat.one_mul, Nat.div_eq_of_lt (by omega), Nat.mod_eq_of_lt (by omega)] at h
    exact h)
  have HX := hide hx
  have hmk := run_make_row' (P := Try.prog) 22 2 (.int .i64 0) 8 Try.underlying22 Try.info2 rfl .i64 .i64 L (by omega) (by omega)
  have hg0 : Hid ((W.alloc (.cells (madeCells #[.int .i64 0] L) 2)).heap[W.heap.size]? = some (.cells (fillL L 0).toArray 2 (0, 0))) := hide (by
    obtain ⟨cc, hc, hs, hf⟩ := World.rowIs_made W (.int .i64 0) L 2
    rw [hc]
    have : cc = (fillL L 0).toArray := by
      apply Array.ext'
      apply List.ext_getElem?
      intro i
      by_cases hi : i < L
      · have := hf i hi
        rw [Array.getElem?_toList, this]
        simp [fillL, hi]
      · rw [List.getElem?_eq_none (by simp [hs]; omega), List.getElem?_eq_none (by rw [fillL_len (by omega)]; omega)]
    rw [this])
  have hB0 : Hid (Below W.heap.size W (W.alloc (.cells (madeCells #[.int .i64 0] L) 2))) := hide (below_alloc _ _)
  clear hx
  go_enter Try.func107, Try.ntmps107
  go_wp2_with fail
  refine (HMU.out _).mono ?_
  rintro e w1 ⟨rfl, rfl⟩
  have hx0 : (w1.alloc (.cells (madeCells #[.int .i64 0] L) 2)).cell? ⟨bx, 0, none⟩ = some (.int .i64 9223372036854775807) := cell_keep (below_alloc _ _) HX.out
  have hel : (Try.prog.info? 2).map (·.size) = some 1 := by kernel_rfl
  have hn1 : ([.int .i64 9223372036854775807] : List Value).length = Nat.min 1 L := by show 1 = min 1 L; omega
  have hfit0 : 0 + ([.int .i64 9223372036854775807] : List Value).length ≤ (fillL L 0).length := by rw [fillL_len (by omega)]; show 0 + 1 ≤ L; omega
  have hone : ∀ v ∈ ([.int .i64 9223372036854775807] : List Value), v.oneCell' = true := by simp [Value.oneCell']
  have hsrc : ∀ j v, ([.int .i64 9223372036854775807] : List Value)[j]? = some v → (w1.alloc (.cells (madeCells #[.int .i64 0] L) 2)).cell? ((⟨bx, 0, none⟩ : Addr).add j) = some v := fun j v hj => by
    cases j with
    | zero => simp at hj; subst hj; exact hx0
    | succ j => simp at hj
  have HN1 := hide hn1
  have HFIT := hide hfit0
  have HONE := hide hone
  have HSRC := hide hsrc
  clear hn1 hfit0 hone hsrc
  go_upto_region 7 with fail
  go_wp2_with ((refine wpList_copy_splice rfl (.tmp 31) (.tmp 32) 22 22 rfl 2 Try.underlying22 hel (some ⟨w1.heap.size, 0, none⟩) (some ⟨bx, 0, none⟩) L L 1 1 rfl rfl w1.heap.size 0 (fillL L 0) 2 hg0.out [.int .i64 9223372036854775807] HN1.out (fun _ => ⟨rfl, _, rfl, HSRC.out⟩) HFIT.out HONE.out w1.heap.size w1 hB0.out (Nat.le_refl _) ?_))
  intro w2 hw2 hb2
  have hg2 : Hid (w2.heap[w1.heap.size]? = some (.cells (fillL L 1).toArray 2 (0, 0))) := hide (by
    have h := splice_fill (L := L) (k := 0) (m := 1) (by omega)
    have h2 := hw2.out
    rw [show ([.int .i64 9223372036854775807] : List Value) = List.replicate 1 (.int .i64 9223372036854775807) from rfl, h] at h2
    exact h2)
  have HB2 := hide hb2
  clear hw2 hb2 hg0 hB0 HN1 HFIT HONE HSRC hx0
  go_wp2_with fail
  obtain ⟨g, hg⟩ : ∃ g, g = w1.heap.size := ⟨_, rfl⟩
  rw [← hg] at hg2 ⊢
  have HG := hide hg
  clear hg hdL hdT hcv hcv2
  go_loopw [8] (fun i wr => ∃ k : Nat, 1 ≤ k ∧ k ≤ L ∧ i = .int .i64 k ∧ Hid (wr.heap[g]? = some (.cells (fillL L k).toArray 2 (0, 0))) ∧ Below w1.heap.size w1 wr) (fun i _ => L - (intOf i).toNat)
  case atStart => exact ⟨1, by omega, hL1, rfl, hg2, HB2.out⟩
  case round =>
    clear hg2 HB2
    obtain ⟨k, hk1, hk, rfl, hrow, hB⟩ := hrel
    by_cases hlt : k < L
    · obtain ⟨m, hm⟩ : ∃ m, m = min k (L - k) := ⟨_, rfl⟩
      have hm1 : 1 ≤ m := by omega
      have hkm : k + m ≤ L := by omega
      have HM : Hid ((List.replicate m (Value.int .i64 9223372036854775807)).length = Nat.min k (L - k)) := hide (by rw [List.length_replicate]; exact hm)
      have hmk : m ≤ k := by omega
      have HB := hide hB
      clear hm hB
      go_wp2_with fail
      refine wp_region_past_float 7 (.tmp 8) rfl rfl (by kernel_rfl) (by kernel_rfl) (fun _ _ _ _ h => h) ?_
      simp only [Nat.reduceSub, List.take_succ_cons, List.take_zero, List.drop_succ_cons, List.drop_zero]
      repeat (first | fail | go_big_quiet_step (fail) | quiet_step (fail))
      refine wpQuiet_nil ?_
      rintro _ ⟨pq, rfl⟩
      have hrow2 := hide (box_keep hrow.out pq.old)
      have HB2 := hide (Below.trans' HB.out pq.old)
      have HSRC : Hid (∀ j v, (List.replicate m (Value.int .i64 9223372036854775807))[j]? = some v → pq.to.cell? ((⟨g, 0, none⟩ : Addr).add j) = some v) := hide (fun j v hj => by
        have hjm : j < m := by
          by_cases h : j < m
          · exact h
          · rw [List.getElem?_eq_none (by simp; omega)] at hj; cases hj
        have hv : v = .int .i64 9223372036854775807 := by simp [hjm] at hj; exact hj.symm
        have hc : pq.to.cell? ⟨g, j, none⟩ = some (.int .i64 9223372036854775807) := by
          rw [cell_of_row _ _ j _ _ (0, 0) hrow2.out]
          simp only [List.getElem?_toArray]
          exact fillL_get (by omega)
        rw [hv]
        unfold Addr.add
        split
        · rename_i e; subst e; exact hc
        · simpa using hc)
      have HFIT : Hid (k + (List.replicate m (Value.int .i64 9223372036854775807)).length ≤ (fillL L k).length) := hide (by rw [fillL_len (by omega), List.length_replicate]; exact hkm)
      have HONE : Hid (∀ v ∈ List.replicate m (Value.int .i64 9223372036854775807), v.oneCell' = true) := hide (fun v hv => by rw [List.eq_of_mem_replicate hv]; rfl)
      go_wp2_with ((refine wpList_copy_splice rfl (.tmp 41) (.tmp 44) 22 22 rfl 2 Try.underlying22 hel (some ⟨g, k, none⟩) (some ⟨g, 0, none⟩) (L - k) (L - k) k L rfl rfl g k (fillL L k) 2 hrow2.out (List.replicate m (.int .i64 9223372036854775807)) HM.out (fun _ => ⟨rfl, _, rfl, HSRC.out⟩) HFIT.out HONE.out w1.heap.size w1 HB2.out (by rw [HG.out]; exact Nat.le_refl _) ?_))
      intro w5 hw5 hb5
      have HR5 : Hid (w5.heap[g]? = some (.cells (fillL L (k + m)).toArray 2 (0, 0))) := hide (by
        have h2 := hw5.out
        rw [splice_fill hkm] at h2
        exact h2)
      have HB5 := hide hb5
      clear hw5 hb5 HSRC HFIT HONE hrow2 HB2 HB
      go_wp2_with fail
      go_roundw
      case rel => exact ⟨k + m, by omega, by omega, by go_num, HR5, HB5.out⟩
      case measure => simp [intOf]; omega
    · obtain rfl : k = L := by omega
      have HB := hide hB
      clear hB
      go_wp2_with fail
      go_ret
      refine ⟨g, rfl, by rw [HG.out]; exact Nat.le_refl _, ⟨_, hrow.out, by simp [fillL_len (Nat.le_refl k)], fun i hi => ?_⟩, HB.out⟩
      simp only [List.getElem?_toArray]
      exact fillL_get hi
end Go.Proofs.Ytogfoahejgmfgaa
