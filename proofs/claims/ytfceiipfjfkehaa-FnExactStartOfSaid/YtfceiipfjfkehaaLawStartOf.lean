/-
  FnExactStartOf: for every argument the law returns true and leaves its argument as it was. No condition.
-/
import Derived.Test.YtfceiipfjfkehaaStartS
import Derived.Test.YtfceiipfjfkehaaOpen
namespace Go.Proofs.Ytfceiipfjfkehaa.LawStartOf
open Go.ChangeShapes Go.WideShapes Go.ChangeAt Go.RowKit
set_option linter.unusedVariables false

theorem startR_small (n : Int) : Small3 (startR n).2.1 := by
  unfold startR
  split
  · rename_i h
    obtain ⟨k, rfl⟩ := Int.eq_ofNat_of_zero_le (show 0 ≤ n by omega)
    have ht : ∀ m : Nat, tot (startRows m) = m := by
      intro m
      unfold startRows
      induction m with
      | zero => rfl
      | succ m ih =>
        have h2 : ∀ xs ys : List (List Int), tot (xs ++ ys) = tot xs + tot ys := by
          intro xs ys
          induction xs with
          | nil => simp [tot]
          | cons x r ih => simp [tot, ih]; omega
        rw [List.range_succ, List.map_append, h2, ih]
        simp [tot]
    refine ⟨by simp, ?_, fun xss hx => ?_⟩
    · simp only [tot3, ht, Int.toNat_natCast]
      omega
    · simp at hx
      subst hx
      refine ⟨by simp [startRows]; omega, fun zs hz => ?_⟩
      simp [startRows] at hz
      obtain ⟨i, _, rfl⟩ := hz
      simp
  · exact ⟨by simp, by simp [tot3], by simp⟩
theorem cube_lens {w : World} {lo : Nat} {a : Option Addr} {X : List (List (List Int))} {lss : List (List Lf)} (h : CubeLeaves w lo a X lss) (hs : Small3 X) : ∀ ls ∈ lss, ls.length ≤ 1048576 := by
  intro ls hl
  obtain ⟨i, hi⟩ := List.mem_iff_getElem?.1 hl
  have hlt : i < X.length := by rw [← h.len]; exact (List.getElem?_eq_some_iff.1 hi).1
  obtain ⟨b, off, _, hc⟩ := h.row (by intro e; subst e; simp at hlt)
  obtain ⟨ai, ci, ls', h1, _, h3⟩ := hc i X[i] (List.getElem?_eq_getElem hlt)
  rw [hi] at h1
  cases h1
  rw [h3.len]
  exact (hs.2.2 _ (List.getElem_mem hlt)).1

set_option maxRecDepth 100000 in
set_option maxHeartbeats 2000000 in
theorem walk (n : Int) (w : World) (hp : (Lit.int .i64 n).wf = true) :
    Calls Try.prog 3 #[.int .i64 n] w fun e w' => e = .returned (.bool true) ∧ Below w.heap.size w w' := by
  have hsm := startR_small n
  obtain ⟨r, hr⟩ : ∃ r, r = startR n := ⟨_, rfl⟩
  rw [← hr] at hsm
  obtain ⟨s, X, cd⟩ := r
  dsimp only at hsm
  have HR := hide hr
  have hXl := hsm.1
  have HSM := hide hsm
  have HX := hide (fun xss (hx : xss ∈ X) => (hsm.2.2 xss hx).1)
  clear hr hsm
  go_enter Try.func3, Try.ntmps3
  go_wp2_with fail
  -- the model
  refine (specStart_any n _).mono ?_
  rw [← HR.out]
  rintro e w1 ⟨aw, cw, lw, rfl, hgw, hB1⟩
  have hBa : Below w1.heap.size w1 (w1.alloc (.cells #[.int .i64 s, .slice aw X.length cw] 24)) := (Below.refl _ _).alloc (Nat.le_refl _) _
  have hw1 : (w1.alloc (.cells #[.int .i64 s, .slice aw X.length cw] 24)).heap[w1.heap.size]? = some (.cells #[.int .i64 s, .slice aw X.length cw] 24 (0, 0)) := heap_alloc_new w1 _
  have hrw := (hgw.keep hBa).reads
  have hB01 := Below.trans' hB1 hBa
  clear hgw hB1
  dsimp only
  go_wp2_with fail
  obtain ⟨W1, hW1⟩ : ∃ W1, W1 = w1.alloc (.cells #[.int .i64 s, .slice aw X.length cw] 24) := ⟨_, rfl⟩
  rw [← hW1] at hBa hw1 hrw hB01 ⊢
  have hs1 : w1.heap.size < W1.heap.size := block_lt hw1
  clear hW1 hBa
  -- the program
  refine (implStart_any n _).mono ?_
  rw [← HR.out]
  rintro e w2 ⟨ag, cg, ls, rfl, hgl, hB2⟩
  dsimp only
  have hBb : Below w2.heap.size w2 (w2.alloc (.cells #[.int .i64 s, .slice ag X.length cg] 24)) := (Below.refl _ _).alloc (Nat.le_refl _) _
  have hg2 : (w2.alloc (.cells #[.int .i64 s, .slice ag X.length cg] 24)).heap[w2.heap.size]? = some (.cells #[.int .i64 s, .slice ag X.length cg] 24 (0, 0)) := heap_alloc_new w2 _
  have hB12 := Below.trans' hB2 hBb
  have hgl2 := hgl.keep hBb
  have hrw2 := hrw.keep hB12
  have hw2 := (hB12.block w1.heap.size hs1).trans hw1
  have hc0 : (w2.alloc (.cells #[.int .i64 s, .slice ag X.length cg] 24)).cell? ⟨w1.heap.size, 0, none⟩ = some (.int .i64 s) := (cell_of_row _ w1.heap.size 0 _ _ (0, 0) hw2).trans rfl
  have hc1 : (w2.alloc (.cells #[.int .i64 s, .slice ag X.length cg] 24)).cell? ⟨w1.heap.size, 1, none⟩ = some (.slice aw X.length cw) := (cell_of_row _ w1.heap.size 1 _ _ (0, 0) hw2).trans rfl
  have hlo12 : W1.heap.size ≤ w2.heap.size := hB2.size
  have HG2 := hide hg2
  have HGL2 := hide hgl2
  have HB12 := hide hB12
  clear hgl hB2 hBb hw2 hg2 hgl2 hB12
  go_wp2_with fail
  refine (eqSprouts_same s _ _ _ _ X _ HGL2.out.reads hrw2 HSM.out).mono ?_
  rintro e w3 ⟨rfl, hB3⟩
  have hlen := HGL2.out.len
  have htot := HGL2.out.tot
  have HLS := hide (cube_lens HGL2.out HSM.out)
  have hgl3 := hide (HGL2.out.keep hB3)
  have hg3 := (hB3.block _ (block_lt HG2.out)).trans HG2.out
  have hV3 := hide (Below.trans' HB12.out hB3)
  have hd0 : w3.cell? ⟨w2.heap.size, 0, none⟩ = some (.int .i64 s) := (cell_of_row _ w2.heap.size 0 _ _ (0, 0) hg3).trans rfl
  have hd1 : w3.cell? ⟨w2.heap.size, 1, none⟩ = some (.slice ag X.length cg) := (cell_of_row _ w2.heap.size 1 _ _ (0, 0) hg3).trans rfl
  have hs3 : w2.heap.size < w3.heap.size := block_lt hg3
  have HG3 := hide hg3
  clear hc0 hc1 hrw2 HGL2 HG2 HB12 hB3 hg3
  go_wp2_with fail
  -- the answer marked
  refine (markSprouts_leaves s _ _ W1.heap.size X ls _ hgl3.out hXl HX.out (by omega)).mono ?_
  rintro e w4 ⟨rfl, hm4, hrow4, hB4, hK4⟩
  have hg4 := hK4 _ _ _ (by decide) HG3.out
  have hd0 : w4.cell? ⟨w2.heap.size, 0, none⟩ = some (.int .i64 s) := (cell_of_row _ w2.heap.size 0 _ _ (0, 0) hg4).trans rfl
  have hd1 : w4.cell? ⟨w2.heap.size, 1, none⟩ = some (.slice ag X.length cg) := (cell_of_row _ w2.heap.size 1 _ _ (0, 0) hg4).trans rfl
  have hV4 := hide (hV3.out.trans hB4)
  have HG4 := hide hg4
  clear hgl3 HG3 hV3 hB4 hK4 hg4
  go_wp2_with fail
  refine (heldSprouts_leaves s _ _ _ ls _ hlen hrow4 hm4 hXl HLS.out htot).mono ?_
  rintro e w5 ⟨rfl, hB5⟩
  have hrow5 := hrow4.keep hB5
  have hm5 := hm4.keep hB5
  have hg5 := hide ((hB5.block _ (block_lt HG4.out)).trans HG4.out)
  have hV5 := hide (Below.trans' hV4.out hB5)
  clear hrow4 hm4 HG4 hV4 hB5 hd0 hd1
  go_wp2_with fail
  -- called again
  refine (implStart_any n _).mono ?_
  rw [← HR.out]
  rintro e w6 ⟨ah, ch, lh, rfl, hgh, hB6⟩
  dsimp only
  have hBc : Below w6.heap.size w6 (w6.alloc (.cells #[.int .i64 s, .slice ah X.length ch] 24)) := (Below.refl _ _).alloc (Nat.le_refl _) _
  have hB56 := Below.trans' hB6 hBc
  have hgh6 := hgh.keep hBc
  have hrow6 := hrow5.keep hB56
  have hm6 := hm5.keep hB56
  have hg6 := (hB56.block _ (block_lt hg5.out)).trans hg5.out
  have hV6 := Below.trans' hV5.out hB56
  have hrw6 := hrw.keep hV6
  have hw6 := (hV6.block w1.heap.size hs1).trans hw1
  have hc0 : (w6.alloc (.cells #[.int .i64 s, .slice ah X.length ch] 24)).cell? ⟨w1.heap.size, 0, none⟩ = some (.int .i64 s) := (cell_of_row _ w1.heap.size 0 _ _ (0, 0) hw6).trans rfl
  have hc1 : (w6.alloc (.cells #[.int .i64 s, .slice ah X.length ch] 24)).cell? ⟨w1.heap.size, 1, none⟩ = some (.slice aw X.length cw) := (cell_of_row _ w1.heap.size 1 _ _ (0, 0) hw6).trans rfl
  have HG6 := hide hg6
  have HV6 := hide hV6
  have HGH := hide hgh6
  clear hgh hB6 hBc hB56 hgh6 hrow5 hm5 hg5 hV5 hg6 hV6 hw6
  go_wp2_with fail
  refine (eqSprouts_same s _ _ _ _ X _ HGH.out.reads hrw6 HSM.out).mono ?_
  rintro e w7 ⟨rfl, hB7⟩
  have hrow7 := hrow6.keep hB7
  have hm7 := hm6.keep hB7
  have hg7 := (hB7.block _ (block_lt HG6.out)).trans HG6.out
  have hd0 : w7.cell? ⟨w2.heap.size, 0, none⟩ = some (.int .i64 s) := (cell_of_row _ w2.heap.size 0 _ _ (0, 0) hg7).trans rfl
  have hd1 : w7.cell? ⟨w2.heap.size, 1, none⟩ = some (.slice ag X.length cg) := (cell_of_row _ w2.heap.size 1 _ _ (0, 0) hg7).trans rfl
  have hV7 := hide (Below.trans' HV6.out hB7)
  clear hc0 hc1 hrw6 hrow6 hm6 HG6 HV6 HGH hB7 hg7
  go_wp2_with fail
  refine (heldSprouts_leaves s _ _ _ ls _ hlen hrow7 hm7 hXl HLS.out htot).mono ?_
  rintro e w8 ⟨rfl, hB8⟩
  have hfin := hide (hB01.trans ((Below.trans' hV7.out hB8).mono hB01.size))
  clear hrow7 hm7 hV7 hB8 hd0 hd1
  go_wp2_with fail
  go_ret
  exact ⟨rfl, hfin.out⟩

set_option maxRecDepth 100000 in
theorem lifted (os : Os) (started : os.Started) (H : Type) (enc : TypeId × Value → H) :
    ReturnsInHanded {} Try.checked os 3 .any (Rows.fnExactStartOfSpec.pre6 enc Try.prog Try.f3 Rows.fnExactStartOfRow.domain false) (Rows.fnExactStartOfSpec.post enc Try.prog Try.f3 false true false false) := by
  refine returnsInHanded_of_change (C := Try.checked) own started (by kernel_rfl) Try.func3
    (ChangeSpec.witness6 (enc := enc) (C := Try.checked) false ⟨#[], #[.int .i64 0], []⟩ 8 (by kernel_rfl) (by kernel_rfl) (by kernel_rfl) (by kernel_rfl)) ?_
  intro W base args ds gs before hval0 hW hcnd _
  have hval : ∀ (j : Nat) t v, Try.f3.params[j]? = some t → args[j]? = some v → Value.okWide Try.prog W .any base t v := hval0
  have hW' := hW
  obtain ⟨p, q, hA0, hV, rfl, hfz, hnd⟩ := hW
  have hA : DataW.TrodAll enc Try.prog W 0 (fun _ => true) true Try.f3.params.toList args.toList ds p := hA0
  rw [Try.params3] at hA hval
  obtain ⟨v0, vs0, d0, ds0, p0, q0, hargs, rfl, rfl, h0, r0⟩ := trodAll_cons hA
  obtain ⟨rfl, rfl, rfl⟩ := trodAll_nil r0
  obtain rfl : args = #[v0] := by cases args; simp_all
  obtain ⟨rfl, rfl⟩ := trodVars_none hV
  obtain ⟨x0, rfl, rfl, rfl, w0⟩ := open_int Try.underlying2 (hval 0 2 v0 rfl rfl) h0
  clear hA0 hval0
  refine (walk x0 W w0).mono fun e W' ⟨he, bel⟩ => ?_
  subst he
  exact ⟨_, rfl, _, _, _, [], _, [], hW', trodAll_mk1 (shut_bool Try.underlying4 _), (trodAll_cons_mk (shut_int Try.underlying2 w0) trodAll_mk0), rfl, bel.frame _, fun h => by cases h⟩

theorem over : Rows.fnExactStartOfRow.holds Try.pinned (OpenSpec.ofChange Rows.fnExactStartOfSpec) :=
  OpenClaim.holds_of_wide 3 Try.f3 rfl rfl rfl rfl rfl rfl rfl ⟨rfl, rfl, rfl, rfl, rfl⟩ rfl rfl rfl rfl rfl (by kernel_rfl) Try.func3 (by kernel_rfl)
    (of_decide_eq_true (by kernel_rfl)) (by unfold Func.isWrapper; first | (rw [if_pos (by decide +kernel)]; kernel_rfl) | (rw [if_neg (by decide +kernel)]; exact ⟨rfl, rfl⟩))
    (fun os started H enc _ => lifted os started H enc)

theorem proved : Rows.FnExactStartOfSaid := over
end Go.Proofs.Ytfceiipfjfkehaa.LawStartOf
