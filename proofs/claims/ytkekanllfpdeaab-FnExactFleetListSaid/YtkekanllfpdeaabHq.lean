/-
  Agrees, both texts.
-/
import Derived.Test.YtkekanllfpdeaabHp
namespace Go.Proofs.Ytkekanllfpdeaab
open Go.RowKit
set_option linter.unusedVariables false

/-- The fleet gives these answers, when the shots before are at the set s. -/
def agrF (f : List Int) : List (Int × Int) → Int → Bool
  | [], _ => true
  | p :: t, s => if ansF p.1 (withE s p.1) f = p.2 then agrF f t (withE s p.1) else false
def agrR (wd hi : Int) (cs f : List Int) (ps : List (Int × Int)) : Bool × Int := if codF wd hi cs f = 0 then (if codS wd hi cs ps = 0 then (agrF f ps 0, 0) else (false, codS wd hi cs ps)) else (false, codF wd hi cs f)
theorem codS_zero {wd hi : Int} {cs : List Int} {ps : List (Int × Int)} (h : codS wd hi cs ps = 0) : ∀ p ∈ ps, 0 ≤ p.1 ∧ p.1 < wd * hi := by
  unfold codS at h
  split at h
  · split at h
    · split at h
      · rename_i hd
        exact fun p hp => difF_mem hd p.1 (List.mem_map_of_mem hp)
      · omega
    · omega
  · omega

set_option maxRecDepth 100000 in
set_option maxHeartbeats 4000000 in
theorem l09Agrees_any (af : Option Addr) (cf : Nat) (f : List Int) (ax : Option Addr) (cx : Nat) (ps : List (Int × Int)) (W : World) (hf : IntsAt W af f) (hfl : f.length ≤ 1048576) (hz : ∀ z ∈ f, 0 ≤ z ∧ z < 33554432) (hx : ShotsAt W ax ps) (hxl : ps.length ≤ 1048576) (hp : ∀ p ∈ ps, 0 ≤ p.1 ∧ p.1 < 25) :
    Calls Try.prog 57 #[.slice af f.length cf, .slice ax ps.length cx] W (RetB (.bool (agrF f ps 0)) W) := by
  obtain ⟨R, hR⟩ : ∃ R, R = agrF f ps 0 := ⟨_, rfl⟩
  rw [← hR]
  have HR := hide hR
  have HF := hide hf
  have HX := hide hx
  have HZ := hide hz
  have HP := hide hp
  clear hf hx hz hp hR
  go_enter Try.func57, Try.ntmps57
  go_wp2_with fail
  go_loopw [5, 6] (fun v5 v6 wr => ∃ (i : Nat) (s : Int), v5 = .int .i64 s ∧ v6 = .int .i64 i ∧ i ≤ ps.length ∧ (0 ≤ s ∧ s < 33554432) ∧ Hid (R = agrF f (ps.drop i) s) ∧ Below W.heap.size W wr) (fun _ v6 _ => ps.length - (intOf v6).toNat)
  case atStart => exact ⟨0, 0, rfl, rfl, Nat.zero_le _, by omega, hide (by rw [List.drop_zero]; exact HR.out), Below.refl _ _⟩
  case round =>
    obtain ⟨i, s, rfl, rfl, hi2, ⟨s0, s1⟩, hI, hB⟩ := hrel
    have HB := hide hB
    have HX4 := hide (HX.out.keep hB)
    have HF4 := hide (HF.out.keep hB)
    clear hB
    by_cases hlt : i < ps.length
    · obtain ⟨b1, o1, x, y, rfl, ex, ey, hg⟩ := HX4.out.one hlt
      obtain ⟨x0, x1⟩ := HP.out _ (mem_of_get hg.out)
      dsimp only at x0 x1
      have hcn : ¬ (x < 0) := by omega
      have f7 := u64_small (k := x) x0 (by omega)
      have f13 : min x.toNat 64 = x.toNat := by omega
      have hsh := shl_walkX (k := x) (by omega)
      have hor := or_walkX (E := s) (k := x) s0 (by omega) (by omega)
      have HLT2 : Hid (0 ≤ withE s x ∧ withE s x < 33554432) := hide ⟨withE_nonneg _ _, withE_lt (n := 25) s0 s1 (by omega)⟩
      obtain ⟨E, hE⟩ : ∃ E, E = withE s x := ⟨_, rfl⟩
      obtain ⟨an, han⟩ : ∃ an, an = ansF x E f := ⟨_, rfl⟩
      have HI2 : Hid (R = if an = y then agrF f (ps.drop (i + 1)) E else false) := hide (by rw [hI.out, drop_of_get hg.out, han, hE]; rfl)
      rw [← hE] at hor HLT2
      have HCA : Hid (∀ p : Past wr, Calls Try.prog 71 #[.slice af f.length cf, .int .i64 x, .int .i64 E] p.to (RetB (.int .i64 an) p.to)) := hide (fun p => by rw [han]; exact l09Answer_any _ cf f x E p.to (HF4.out.keep p.old) hfl HZ.out x0 (by omega))
      have qx : ∀ p : Past wr, p.to.cell? ⟨b1, o1 + i * 2, none⟩ = some (.int .i64 x) := fun p => p.cell ex
      have qy : ∀ p : Past wr, p.to.cell? ⟨b1, o1 + i * 2 + 1, none⟩ = some (.int .i64 y) := fun p => p.cell ey
      clear hI hg hE han x0 x1 s0 s1
      by_cases hay : an = y
      · have hfin : Hid (R = agrF f (ps.drop (i + 1)) E) := hide (by rw [HI2.out, if_pos hay])
        subst hay
        have hne : (an != an) = false := by simp
        clear HI2
        go_wp2_with fail
        refine wp_region_past (by kernel_rfl) (by kernel_rfl) ?_
        repeat (first | go_big_quiet_step ((go_at_call 71; (with_reducible exact ret_past (HCA.out _)))) | quiet_step ((go_at_call 71; (with_reducible exact ret_past (HCA.out _)))))
        refine wpQuiet_nil ?_
        rintro _ ⟨pq, rfl⟩
        have hB3 := hide (Below.trans' HB.out pq.old)
        clear qx qy ex ey hne hsh hor f7 f13 hcn
        go_wp2_with fail
        go_roundw
        case rel => exact ⟨i + 1, E, rfl, by go_num, by omega, HLT2.out, hfin, hB3.out⟩
        case measure => simp [intOf]; omega
      · have hfin : Hid (R = false) := hide (by rw [HI2.out, if_neg hay])
        have hne : (an != y) = true := by simp [hay]
        clear HI2 hay
        go_wp2_with fail
        refine wp_region_past (by kernel_rfl) (by kernel_rfl) ?_
        repeat (first | go_big_quiet_step ((go_at_call 71; (with_reducible exact ret_past (HCA.out _)))) | quiet_step ((go_at_call 71; (with_reducible exact ret_past (HCA.out _)))))
        refine wpQuiet_nil ?_
        rintro _ ⟨pq, rfl⟩
        have hB3 := hide (Below.trans' HB.out pq.old)
        clear qx qy ex ey hsh hor f7 f13 hcn
        go_wp2_with fail
        go_ret
        exact ⟨ret_bool hfin.out.symm, hB3.out⟩
    · obtain rfl : i = ps.length := by omega
      have hfin : Hid (R = true) := hide (by rw [hI.out, List.drop_length]; rfl)
      clear hI
      go_wp2_with fail
      go_ret
      exact ⟨ret_bool hfin.out.symm, HB.out⟩

set_option maxRecDepth 100000 in
set_option maxHeartbeats 4000000 in
theorem agreesT_any (p1 p2 p3 : Int) (f : List Int) (ax : Option Addr) (cx : Nat) (ps : List (Int × Int)) (W : World) (HAS : Hid (∀ (x s : Int) (V : World), 0 ≤ x → x ≤ 27 → Calls Try.prog 117 #[.agg #[.int .i64 p1, .int .i64 p2, .int .i64 p3], .int .i64 x, .int .i64 s] V (RetB (.int .i64 (ansF x s f)) V)))
    (hx : ShotsAt W ax ps) (hxl : ps.length ≤ 1048576) (hp : ∀ p ∈ ps, 0 ≤ p.1 ∧ p.1 < 25) :
    Calls Try.prog 93 #[.agg #[.int .i64 p1, .int .i64 p2, .int .i64 p3], .slice ax ps.length cx] W (RetB (.bool (agrF f ps 0)) W) := by
  obtain ⟨W0, hW0⟩ : ∃ W0, W0 = W.alloc (.cells #[.int .i64 p1, .int .i64 p2, .int .i64 p3] 61) := ⟨_, rfl⟩
  have hB0 : Hid (Below W.heap.size W W0) := by rw [hW0]; exact hide (below_alloc _ _)
  have hr0 : Hid (W0.heap[W.heap.size]? = some (.cells (cellsT (p1, p2, p3)) 61 (0, 0))) := by rw [hW0]; exact hide (heap_alloc_new _ _)
  obtain ⟨R, hR⟩ : ∃ R, R = agrF f ps 0 := ⟨_, rfl⟩
  rw [← hR]
  have HR := hide hR
  have HX := hide (hx.keep hB0.out)
  have HP := hide hp
  clear hx hp hR
  go_enter Try.func93, Try.ntmps93
  go_wp2_with fail
  rw [← hW0]
  clear hW0
  go_loopw [5, 10] (fun v5 v10 wr => ∃ (i : Nat) (s : Int), v5 = .int .i64 s ∧ v10 = .int .i64 i ∧ i ≤ ps.length ∧ (0 ≤ s ∧ s < 33554432) ∧ Hid (R = agrF f (ps.drop i) s) ∧ Below W0.heap.size W0 wr) (fun _ v10 _ => ps.length - (intOf v10).toNat)
  case atStart => exact ⟨0, 0, rfl, rfl, Nat.zero_le _, by omega, hide (by rw [List.drop_zero]; exact HR.out), Below.refl _ _⟩
  case round =>
    obtain ⟨i, s, rfl, rfl, hi2, ⟨s0, s1⟩, hI, hB⟩ := hrel
    have HB := hide hB
    have HX4 := hide (HX.out.keep hB)
    have HR4 := hide (box_keep hr0.out hB)
    have hB4 := hide (Below.trans' hB0.out hB)
    clear hB
    by_cases hlt : i < ps.length
    · obtain ⟨b1, o1, x, y, rfl, ex, ey, hg⟩ := HX4.out.one hlt
      obtain ⟨x0, x1⟩ := HP.out _ (mem_of_get hg.out)
      dsimp only at x0 x1
      have hcn : ¬ (x < 0) := by omega
      have f13 : min x.toNat 64 = x.toNat := by omega
      have hsh := shl_walkX (k := x) (by omega)
      have hor := or_walkX (E := s) (k := x) s0 (by omega) (by omega)
      have HLT2 : Hid (0 ≤ withE s x ∧ withE s x < 33554432) := hide ⟨withE_nonneg _ _, withE_lt (n := 25) s0 s1 (by omega)⟩
      obtain ⟨E, hE⟩ : ∃ E, E = withE s x := ⟨_, rfl⟩
      obtain ⟨an, han⟩ : ∃ an, an = ansF x E f := ⟨_, rfl⟩
      have HI2 : Hid (R = if an = y then agrF f (ps.drop (i + 1)) E else false) := hide (by rw [hI.out, drop_of_get hg.out, han, hE]; rfl)
      rw [← hE] at hor HLT2
      obtain ⟨wb, hwb⟩ : ∃ wb, wb = wr.alloc (.cells #[.int .i64 x, .int .i64 y] 96) := ⟨_, rfl⟩
      have hbb : Hid (Below wr.heap.size wr wb) := by rw [hwb]; exact hide (below_alloc _ _)
      have hbx : Hid (wb.heap[wr.heap.size]? = some (.cells #[.int .i64 x, .int .i64 y] 96 (0, 0))) := by rw [hwb]; exact hide (heap_alloc_new _ _)
      have HBB : Hid (Below W0.heap.size W0 wb) := hide (Below.trans' HB.out hbb.out)
      have hB5 := hide (Below.trans' hB4.out hbb.out)
      obtain ⟨t0, t1⟩ := row2 hbx.out
      obtain ⟨u0, u1, u2, _⟩ := boxT (box_keep HR4.out hbb.out)
      dsimp only at u0 u1 u2
      have HCA : Hid (∀ p : Past wb, Calls Try.prog 117 #[.agg #[.int .i64 p1, .int .i64 p2, .int .i64 p3], .int .i64 x, .int .i64 E] p.to (RetB (.int .i64 an) p.to)) := hide (fun p => by rw [han]; exact HAS.out x E p.to x0 (by omega))
      have qx : ∀ p : Past wb, p.to.cell? ⟨wr.heap.size, 0, none⟩ = some (.int .i64 x) := fun p => p.cell t0
      have qy : ∀ p : Past wb, p.to.cell? ⟨wr.heap.size, 1, none⟩ = some (.int .i64 y) := fun p => p.cell t1
      have r0 : ∀ p : Past wb, p.to.cell? ⟨W.heap.size, 0, none⟩ = some (.int .i64 p1) := fun p => p.cell u0
      have r1 : ∀ p : Past wb, p.to.cell? ⟨W.heap.size, 1, none⟩ = some (.int .i64 p2) := fun p => p.cell u1
      have r2 : ∀ p : Past wb, p.to.cell? ⟨W.heap.size, 2, none⟩ = some (.int .i64 p3) := fun p => p.cell u2
      clear hI hg hE han x0 x1 s0 s1
      by_cases hay : an = y
      · have hfin : Hid (R = agrF f (ps.drop (i + 1)) E) := hide (by rw [HI2.out, if_pos hay])
        subst hay
        have hne : (an != an) = false := by simp
        clear HI2
        go_upto_region 5 with fail
        rw [← hwb]
        clear hwb ex ey
        go_wp2_with fail
        refine wp_region_past (by kernel_rfl) (by kernel_rfl) ?_
        repeat (first | go_big_quiet_step ((go_at_call 117; (with_reducible exact ret_past (HCA.out _)))) | quiet_step ((go_at_call 117; (with_reducible exact ret_past (HCA.out _)))))
        refine wpQuiet_nil ?_
        rintro _ ⟨pq, rfl⟩
        have hB3 := hide (Below.trans' HBB.out pq.old)
        clear qx qy r0 r1 r2 t0 t1 u0 u1 u2 hne hsh hor f13 hcn
        go_wp2_with fail
        go_roundw
        case rel => exact ⟨i + 1, E, rfl, by go_num, by omega, HLT2.out, hfin, hB3.out⟩
        case measure => simp [intOf]; omega
      · have hfin : Hid (R = false) := hide (by rw [HI2.out, if_neg hay])
        have hne : (an != y) = true := by simp [hay]
        clear HI2 hay
        go_upto_region 5 with fail
        rw [← hwb]
        clear hwb ex ey
        go_wp2_with fail
        refine wp_region_past (by kernel_rfl) (by kernel_rfl) ?_
        repeat (first | go_big_quiet_step ((go_at_call 117; (with_reducible exact ret_past (HCA.out _)))) | quiet_step ((go_at_call 117; (with_reducible exact ret_past (HCA.out _)))))
        refine wpQuiet_nil ?_
        rintro _ ⟨pq, rfl⟩
        have hB3 := hide (Below.trans' hB5.out pq.old)
        clear qx qy r0 r1 r2 t0 t1 u0 u1 u2 hsh hor f13 hcn
        go_wp2_with fail
        go_ret
        exact ⟨ret_bool hfin.out.symm, hB3.out⟩
    · obtain rfl : i = ps.length := by omega
      have hfin : Hid (R = true) := hide (by rw [hI.out, List.drop_length]; rfl)
      clear hI
      go_wp2_with fail
      go_ret
      exact ⟨ret_bool hfin.out.symm, hB4.out⟩

end Go.Proofs.Ytkekanllfpdeaab
