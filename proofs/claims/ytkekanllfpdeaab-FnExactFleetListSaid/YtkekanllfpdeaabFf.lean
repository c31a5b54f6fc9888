/-
  fleetsFrom; Index and Contains on lists of ships placed: the program's texts.
-/
import Derived.Test.YtkekanllfpdeaabPf
namespace Go.Proofs.Ytkekanllfpdeaab
open Go.RowKit
set_option linter.unusedVariables false

def capL : Nat → Nat | 1 => 1 | 2 => 50 | _ => 2500
theorem plAt_facts {wd hi : Int} {cs : List Int} {k : Nat} (hs : seaB wd hi cs = true) (hk : k < cs.length) : (∀ z ∈ plAt wd hi cs k, 0 ≤ z ∧ z < 33554432) ∧ (plAt wd hi cs k).length ≤ 50 := by
  obtain ⟨w0, w1, h0, h1, l1, l3, ho⟩ := seaB_yes hs
  have hm : cs.getD k 0 ∈ cs := by rw [List.getD_eq_getElem?_getD, List.getElem?_eq_getElem hk]; exact List.getElem_mem hk
  obtain ⟨n1, n2⟩ := okFrom_mem ho _ hm
  obtain ⟨_, a, b, _⟩ := pl_facts w0 w1 h0 h1 n1 n2
  exact ⟨a, b⟩
set_option maxRecDepth 100000 in
set_option maxHeartbeats 4000000 in
theorem fleetsFrom_any (wd hi z : Int) (a : Option Addr) (c : Nat) (cs : List Int) (W : World) (hs : seaB wd hi cs = true) (ha : IntsAt W a cs) (z0 : 0 ≤ z) (z1 : z < 33554432) :
    Calls Try.prog 40 #[.agg #[.int .i64 wd, .int .i64 hi, .slice a cs.length c], .int .i64 z] W (NewT ((levF wd hi cs (cs.length - 1) [[z]]).map padF) W) := by
  obtain ⟨w0, w1, h0, h1, l1, l3, ho⟩ := seaB_yes hs
  obtain ⟨W0, hW0⟩ : ∃ W0, W0 = W.alloc (.cells #[.int .i64 wd, .int .i64 hi, .slice a cs.length c] 29) := ⟨_, rfl⟩
  have hB0 : Hid (Below W.heap.size W W0) := by rw [hW0]; exact hide (below_alloc _ _)
  have hX0 : Hid (SeaIn W0 W.heap.size wd hi a cs.length c) := by rw [hW0]; exact hide (seaIn_new _ _ _ _ _ _ _)
  have hs0 : Hid (W0.heap.size = W.heap.size + 1) := by rw [hW0]; exact hide (by simp)
  obtain ⟨W1, hW1⟩ : ∃ W1, W1 = W0.alloc (.cells #[.int .i64 z, .int .i64 0, .int .i64 0] 61) := ⟨_, rfl⟩
  have hO1 : Hid (OwnsT W0.heap.size W0 W1 (.slice (some ⟨W0.heap.size, 0, none⟩) 1 1) ([[z]].map padF)) := by rw [hW1]; exact hide (OwnsT.one (z, 0, 0) (Below.refl _ _) (Nat.le_refl _))
  have hA0 := hide (ha.keep hB0.out)
  have hL1 : Hid (okL 1 [[z]]) := hide (by
    intro f hf
    rw [List.mem_singleton.1 hf]
    exact ⟨rfl, fun y hy => by rw [List.mem_singleton.1 hy]; exact ⟨z0, z1⟩⟩)
  have hW1' : W1 = (W.alloc (.cells #[.int .i64 wd, .int .i64 hi, .slice a cs.length c] 29)).alloc (.cells #[.int .i64 z, .int .i64 0, .int .i64 0] 61) := by rw [hW1, hW0]
  have HS := hide hs
  obtain ⟨R, hR⟩ : ∃ R, R = levF wd hi cs (cs.length - 1) [[z]] := ⟨_, rfl⟩
  have HR := hide hR
  rw [← hR]
  have hs0' := hs0.out
  clear ha hs hW0 hW1 hR
  go_enter Try.func40, Try.ntmps40
  go_wp2_with fail
  rw [← hW1', ← hs0']
  clear hW1' hs0'
  go_loopw [5, 6] (fun v5 v6 wr => ∃ (k : Nat) (v0 : Value) (L : List (List Int)), v0 = v5 ∧ v6 = .int .i64 k ∧ 1 ≤ k ∧ k ≤ cs.length ∧ Hid (okL k L) ∧ Hid (L.length ≤ capL k) ∧ Hid (levF wd hi cs (cs.length - k) L = R) ∧ OwnsT W0.heap.size W0 wr v5 (L.map padF)) (fun _ v6 _ => cs.length - (intOf v6).toNat)
  case atStart => exact ⟨1, _, [[z]], rfl, rfl, Nat.le_refl _, l1, hL1, hide (Nat.le_refl _), hide HR.out.symm, hO1.out⟩
  case round =>
    clear hL1 hO1
    obtain ⟨k, v5, L, rfl, rfl, hk1, hkl, hL, hLl, hlev, hO⟩ := hrel
    obtain ⟨c0, c1, c2⟩ := hX0.out.below hO.old (by have := hs0.out; omega)
    have HO := hide hO
    by_cases hlt : k < cs.length
    · have hd : decide ((k : Int) < (cs.length : Int)) = true := decide_eq_true (by omega)
      have hcap : Hid (L.length ≤ 2500 ∧ L.length * 50 ≤ capL (k + 1)) := hide (by
        have h2 : k = 1 ∨ k = 2 := by omega
        have h3 := hLl.out
        rcases h2 with h2 | h2 <;> subst h2 <;> simp [capL] at h3 ⊢ <;> omega)
      have HWS := hide (withShip_any wd hi a c k cs v5 L wr HS.out (hA0.out.keep (hO.old)) hk1 hlt hL.out hcap.out.1 hO.at)
      have hpf := plAt_facts HS.out hlt
      have hL2 : Hid (okL (k + 1) (L.flatMap (extF wd hi cs))) := hide (okL_ext hL.out hpf.1)
      have hl2 : Hid ((L.flatMap (extF wd hi cs)).length ≤ capL (k + 1)) := hide (Nat.le_trans (flat_len hL.out hpf.2) hcap.out.2)
      have hlev2 : Hid (levF wd hi cs (cs.length - (k + 1)) (L.flatMap (extF wd hi cs)) = R) := hide (by
        rw [← hlev.out, show cs.length - k = (cs.length - (k + 1)) + 1 by omega]
        rfl)
      clear hO hpf
      go_wp2_with fail
      refine HWS.out.mono ?_
      rintro e w2 ⟨v2, rfl, ho2⟩
      have hO2 : Hid (OwnsT W0.heap.size W0 w2 v2 ((L.flatMap (extF wd hi cs)).map padF)) := hide ⟨ownsRow_base ho2.own HO.out.size, HO.out.old.trans (ho2.old.mono HO.out.size), Nat.le_trans HO.out.size ho2.size⟩
      clear ho2 c0 c1 c2 hd
      go_wp2_with fail
      go_roundw
      case rel => exact ⟨k + 1, _, _, rfl, by go_num, by omega, by omega, hL2, hl2, hlev2, hO2.out⟩
      case measure => simp [intOf]; omega
    · obtain rfl : k = cs.length := by omega
      have hRL : Hid (R = L) := hide (by rw [← hlev.out, Nat.sub_self]; rfl)
      have hfin : Hid (NewT (R.map padF) W (.returned v5) wr) := hide ⟨v5, rfl, by
        rw [hRL.out]
        exact ⟨ownsRow_base hO.own hB0.out.size, hB0.out.trans (hO.old.mono hB0.out.size), Nat.le_trans hB0.out.size hO.size⟩⟩
      clear hO
      go_wp2_with fail
      go_ret
      exact hfin.out
end Go.Proofs.Ytkekanllfpdeaab
