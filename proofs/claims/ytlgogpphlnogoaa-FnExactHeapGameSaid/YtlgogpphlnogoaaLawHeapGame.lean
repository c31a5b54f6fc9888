/-
  FnExactHeapGame: for every argument the law returns true and leaves its arguments as they were. No condition.
-/
import Derived.Test.YtlgogpphlnogoaaHeapS
import Derived.Test.YtlgogpphlnogoaaOpen
namespace Go.Proofs.Ytlgogpphlnogoaa.LawHeapGame
open Go.ChangeShapes Go.WideShapes Go.ChangeAt Go.RowKit
set_option linter.unusedVariables false

theorem heapR_small (k : Int) (L : List Int) : Small (heapR k L).1 := by
  unfold heapR
  split
  · rename_i h
    unfold heapOk at h
    simp only [Bool.and_eq_true, decide_eq_true_eq] at h
    have hL := ascB_len h.2
    refine ⟨by simp [heapRows]; omega, fun zs hz => ?_⟩
    simp [heapRows] at hz
    obtain ⟨p, _, rfl⟩ := hz
    have := heapRow_le k L p
    omega
  · exact ⟨by simp, by simp⟩

set_option maxRecDepth 100000 in
set_option maxHeartbeats 2000000 in
theorem walk (p : Int) (a : Option Addr) (c : Nat) (L : List Int) (w : World) (hp : (Lit.int .i64 p).wf = true) (ha : IntsAt w a L) (hn : L.length ≤ 9223372036854775807) :
    Calls Try.prog 7 #[.int .i64 p, .slice a L.length c] w fun e w' => e = .returned (.bool true) ∧ Below w.heap.size w w' := by
  by_cases hbig : 1048576 < L.length
  · go_enter Try.func7, Try.ntmps7
    go_wp2_with fail
    go_ret
    exact ⟨rfl, Below.refl _ _⟩
  · have hl : L.length ≤ 1048576 := by omega
    have hsm := heapR_small p L
    obtain ⟨r, hr⟩ : ∃ r, r = heapR p L := ⟨_, rfl⟩
    have HR := hide hr
    rw [← hr] at hsm
    have hrl := hsm.1
    have HSM := hide hsm
    clear hr hsm
    go_enter Try.func7, Try.ntmps7
    go_wp2_with fail
    -- the model
    refine (toInt64S_any _ _ L _ ha hl).mono ?_
    rintro e w1 ⟨g1, c1, rfl, ho1, hB1⟩
    have ha1 := ha.keep hB1
    have hi1 := intsAt_of_ownsRow ho1
    clear ho1
    go_wp2_with fail
    refine (specHeap_any _ _ p L _ hi1 hl).mono ?_
    rw [← HR.out]
    rintro e w2 ⟨aw, cw, rfl, hrw, hB2⟩
    have hBa : Below w2.heap.size w2 (w2.alloc (.cells #[.slice aw r.1.length cw] 29)) := (Below.refl _ _).alloc (Nat.le_refl _) _
    have hw2 : (w2.alloc (.cells #[.slice aw r.1.length cw] 29)).heap[w2.heap.size]? = some (.cells #[.slice aw r.1.length cw] 29 (0, 0)) := heap_alloc_new w2 _
    have hs2 : (w2.alloc (.cells #[.slice aw r.1.length cw] 29)).heap.size = w2.heap.size + 1 := by simp
    have ha2 := (ha1.keep hB2).keep hBa
    have hrw2 := hrw.keep hBa
    have hB02 := Below.trans' (Below.trans' hB1 hB2) hBa
    clear ha1 hi1 hB1 hB2 hrw
    go_wp2_with fail
    obtain ⟨W2, hW2⟩ : ∃ W2, W2 = w2.alloc (.cells #[.slice aw r.1.length cw] 29) := ⟨_, rfl⟩
    rw [← hW2] at hBa hw2 hs2 ha2 hrw2 hB02 ⊢
    have hcw : W2.cell? ⟨w2.heap.size, 0, none⟩ = some (.slice aw r.1.length cw) := by rw [cell_of_row W2 w2.heap.size 0 _ _ (0, 0) hw2]; rfl
    clear hW2 hBa
    -- the program
    refine (toInt64S_any _ _ L _ ha2 hl).mono ?_
    rintro e w3 ⟨gx, cx, rfl, hox, hB3⟩
    have ha3 := ha2.keep hB3
    have hcw3 := cell_keep hB3 hcw
    have hrw3 := hrw2.keep hB3
    go_wp2_with fail
    refine (implHeap_any _ _ p L _ (intsAt_of_ownsRow hox) hl).mono ?_
    rw [← HR.out]
    rintro e w4 ⟨ag, cg, ls, rfl, hgl, hB4⟩
    have hBb : Below w4.heap.size w4 (w4.alloc (.cells #[.slice ag r.1.length cg] 29)) := (Below.refl _ _).alloc (Nat.le_refl _) _
    have hg4 : (w4.alloc (.cells #[.slice ag r.1.length cg] 29)).heap[w4.heap.size]? = some (.cells #[.slice ag r.1.length cg] 29 (0, 0)) := heap_alloc_new w4 _
    have hB4b := Below.trans' hB4 hBb
    have ha4 := ha3.keep hB4b
    have hcw4 := cell_keep hB4b hcw3
    have hrw4 := hrw3.keep hB4b
    have hgl4 := hgl.keep hBb
    have hox4 := ownsRow_keep hox hB4b
    have hlo34 : w3.heap.size ≤ w4.heap.size := hB4.size
    have hgx3 := (hox.lt gx rfl).2
    have hgx2 := (hox.lt gx rfl).1
    have hB24 := Below.trans' hB3 hB4b
    have hlo23 : W2.heap.size ≤ w3.heap.size := hB3.size
    clear ha2 ha3 hcw hcw3 hrw3 hgl hox hB4 hB3 hB4b
    go_wp2_with fail
    obtain ⟨W4, hW4⟩ : ∃ W4, W4 = w4.alloc (.cells #[.slice ag r.1.length cg] 29) := ⟨_, rfl⟩
    rw [← hW4] at hBb hg4 ha4 hcw4 hrw4 hgl4 hox4 hB24 ⊢
    have hcg : W4.cell? ⟨w4.heap.size, 0, none⟩ = some (.slice ag r.1.length cg) := by rw [cell_of_row W4 w4.heap.size 0 _ _ (0, 0) hg4]; rfl
    have hs4 : w4.heap.size < W4.heap.size := block_lt hg4
    clear hW4 hBb
    have hlen := hgl4.len
    have htot := hgl4.tot
    have hW4b := Below.trans' hB02 hB24
    go_wp2_with fail
    refine (eqGame_same _ _ _ _ r.1 _ hgl4.reads hrw4 HSM.out).mono ?_
    rintro e w5 ⟨rfl, hB5⟩
    have ha5 := ha4.keep hB5
    have hcw5 := cell_keep hB5 hcw4
    have hcg5 := cell_keep hB5 hcg
    have hg5 := (hB5.block _ hs4).trans hg4
    have hgl5 := hgl4.keep hB5
    have hox5 := ownsRow_keep hox4 hB5
    have hV5 := Below.trans' hB24 hB5
    clear ha4 hcw4 hcg hrw4 hgl4 hox4 hg4 hB24
    go_wp2_with fail
    -- the argument is as it was
    refine (toInt64S_any _ _ L _ ha5 hl).mono ?_
    rintro e w6 ⟨g6, c6, rfl, ho6, hB6⟩
    have hox6 := ownsRow_keep hox5 hB6
    go_wp2_with fail
    refine (eqInt64S_same _ _ _ _ L _ (intsAt_of_ownsRow hox6) (intsAt_of_ownsRow ho6) hl).mono ?_
    rintro e w7 ⟨rfl, hB7⟩
    have hB57 := Below.trans' hB6 hB7
    have hcw7 := cell_keep hB57 hcw5
    have hcg7 := cell_keep hB57 hcg5
    have hs5 : w4.heap.size < w5.heap.size := block_lt hg5
    have hg7 := (hB57.block _ hs5).trans hg5
    have hgl7 := hgl5.keep hB57
    have hox7 := ownsRow_keep hox6 hB7
    have hV7 := Below.trans' hV5 hB57
    clear ha5 hcw5 hcg5 hg5 hgl5 hox5 hox6 ho6 hB6 hB7 hB57 hV5 hB5
    go_wp2_with fail
    -- the argument's copy marked: the answer is as it was
    refine (markInt64S_any _ _ _ _ _ (owned_room hox7) hl (by omega) (by omega)).mono ?_
    rintro e w8 hp8
    obtain ⟨hox8, hM8⟩ := marked_owned hox7 hp8
    obtain ⟨rfl, _⟩ := hp8
    have hne8 : ∀ b, b ≠ gx → w8.heap[b]? = w7.heap[b]? := fun b hb => hM8.block b (by rintro ⟨_, off, e⟩; cases e; exact hb rfl)
    have hgl8 := hgl7.agree (fun b hb _ => hne8 b (by omega))
    have hg8 := (hne8 w4.heap.size (by omega)).trans hg7
    have hcg8 : w8.cell? ⟨w4.heap.size, 0, none⟩ = some (.slice ag r.1.length cg) := by rw [cell_of_row w8 w4.heap.size 0 _ _ (0, 0) hg8]; rfl
    have hV8 : Below W2.heap.size W2 w8 := hV7.trans (hM8.below (fun k hk => by have := hk.1; omega))
    have hcw8 : w8.cell? ⟨w2.heap.size, 0, none⟩ = some (.slice aw r.1.length cw) := by rw [cell_of_row w8 w2.heap.size 0 _ _ (0, 0) ((hV8.block w2.heap.size (by omega)).trans hw2)]; rfl
    have hrw8 := hrw2.keep hV8
    have hs8 : w7.heap.size = w8.heap.size := hM8.size.symm
    have hs7 : w4.heap.size < w7.heap.size := block_lt hg7
    clear hcw7 hcg7 hg7 hgl7 hox7 hox8 hM8 hne8 hV7
    go_wp2_with fail
    refine (eqGame_same _ _ _ _ r.1 _ hgl8.reads hrw8 HSM.out).mono ?_
    rintro e w9 ⟨rfl, hB9⟩
    have hs9 : w4.heap.size < w9.heap.size := Nat.lt_of_lt_of_le (by omega) hB9.size
    have hcg9 := cell_keep hB9 hcg8
    have hg9 := (hB9.block _ (by omega)).trans hg8
    have hgl9 := hgl8.keep hB9
    have hV9 := Below.trans' hV8 hB9
    clear hcw8 hcg8 hg8 hgl8 hrw8 hV8 hB9
    go_wp2_with fail
    -- the answer marked
    refine (markGame_leaves _ _ w3.heap.size r.1 ls _ hgl9 hrl (by omega)).mono ?_
    rintro e w10 ⟨rfl, hm10, hrow10, hB10, hK10⟩
    have hg10 := hK10 _ _ _ (by decide) hg9
    have hcg10 : w10.cell? ⟨w4.heap.size, 0, none⟩ = some (.slice ag r.1.length cg) := by rw [cell_of_row w10 w4.heap.size 0 _ _ (0, 0) hg10]; rfl
    have hV10 : Below W2.heap.size W2 w10 := hV9.trans (hB10.mono hlo23)
    clear hcg9 hg9 hgl9 hV9 hB10 hK10
    go_wp2_with fail
    refine (heldGame_leaves _ _ _ ls _ hlen hrow10 hm10 hrl htot).mono ?_
    rintro e w11 ⟨rfl, hB11⟩
    have hrow11 := hrow10.keep hB11
    have hm11 := hm10.keep hB11
    have hg11 := (hB11.block _ (block_lt hg10)).trans hg10
    have hV11 := Below.trans' hV10 hB11
    have ha11 : IntsAt w11 a L := ha.keep (hB02.trans (hV11.mono hB02.size))
    clear hrow10 hm10 hg10 hcg10 hV10 hB11
    go_wp2_with fail
    -- called again
    refine (toInt64S_any _ _ L _ ha11 hl).mono ?_
    rintro e w12 ⟨g12, c12, rfl, ho12, hB12⟩
    go_wp2_with fail
    refine (implHeap_any _ _ p L _ (intsAt_of_ownsRow ho12) hl).mono ?_
    rw [← HR.out]
    rintro e w13 ⟨ah, ch, lh, rfl, hgh, hB13⟩
    have hBc : Below w13.heap.size w13 (w13.alloc (.cells #[.slice ah r.1.length ch] 29)) := (Below.refl _ _).alloc (Nat.le_refl _) _
    have hch : (w13.alloc (.cells #[.slice ah r.1.length ch] 29)).cell? ⟨w13.heap.size, 0, none⟩ = some (.slice ah r.1.length ch) := by simp [go_sem]
    have hB1114 := Below.trans' (Below.trans' hB12 hB13) hBc
    have hgh14 := hgh.keep hBc
    have hrow14 := hrow11.keep hB1114
    have hm14 := hm11.keep hB1114
    have hg14 := (hB1114.block _ (block_lt hg11)).trans hg11
    have hV14 := Below.trans' hV11 hB1114
    clear hrow11 hm11 hg11 hV11 ha11 hB12 hB13 hBc hgh ho12 hB1114
    have hcw14 : (w13.alloc (.cells #[.slice ah r.1.length ch] 29)).cell? ⟨w2.heap.size, 0, none⟩ = some (.slice aw r.1.length cw) := by rw [cell_of_row _ w2.heap.size 0 _ _ (0, 0) ((hV14.block w2.heap.size (by omega)).trans hw2)]; rfl
    have hrw14 := hrw2.keep hV14
    go_wp2_with fail
    refine (eqGame_same _ _ _ _ r.1 _ hgh14.reads hrw14 HSM.out).mono ?_
    rintro e w15 ⟨rfl, hB15⟩
    have hrow15 := hrow14.keep hB15
    have hm15 := hm14.keep hB15
    have hg15 := (hB15.block _ (block_lt hg14)).trans hg14
    have hcg15 : w15.cell? ⟨w4.heap.size, 0, none⟩ = some (.slice ag r.1.length cg) := by rw [cell_of_row w15 w4.heap.size 0 _ _ (0, 0) hg15]; rfl
    have hV15 := Below.trans' hV14 hB15
    clear hch hgh14 hrow14 hm14 hg14 hV14 hcw14 hrw14 hB15
    go_wp2_with fail
    refine (heldGame_leaves _ _ _ ls _ hlen hrow15 hm15 hrl htot).mono ?_
    rintro e w16 ⟨rfl, hB16⟩
    have hfin : Below w.heap.size w w16 := hB02.trans ((Below.trans' hV15 hB16).mono hB02.size)
    clear hrow15 hm15 hg15 hcg15 hV15 hB16
    go_wp2_with fail
    go_ret
    exact ⟨rfl, hfin⟩

set_option maxRecDepth 100000 in
theorem lifted (os : Os) (started : os.Started) (H : Type) (enc : TypeId × Value → H) :
    ReturnsInHanded {} Try.checked os 7 .any (Rows.fnExactHeapGameSpec.pre6 enc Try.prog Try.f7 Rows.fnExactHeapGameRow.domain false) (Rows.fnExactHeapGameSpec.post enc Try.prog Try.f7 false true false false) := by
  refine returnsInHanded_of_change (C := Try.checked) own started (by kernel_rfl) Try.func7
    (ChangeSpec.witness6 (enc := enc) (C := Try.checked) false ⟨#[], #[.int .i64 0, .slice none 0 0], []⟩ 8 (by kernel_rfl) (by kernel_rfl) (by kernel_rfl) (by kernel_rfl)) ?_
  intro W base args ds gs before hval0 hW hcnd _
  have hval : ∀ (j : Nat) t v, Try.f7.params[j]? = some t → args[j]? = some v → Value.okWide Try.prog W .any base t v := hval0
  have hW' := hW
  obtain ⟨p, q, hA0, hV, rfl, hfz, hnd⟩ := hW
  have hA : DataW.TrodAll enc Try.prog W 0 (fun _ => true) true Try.f7.params.toList args.toList ds p := hA0
  rw [Try.params7] at hA hval
  obtain ⟨v0, vs0, d0, ds0, p0, q0, hargs, rfl, rfl, h0, r0⟩ := trodAll_cons hA
  obtain ⟨v1, vs1, d1, ds1, p1, q1, rfl, rfl, rfl, h1, r1⟩ := trodAll_cons r0
  obtain ⟨rfl, rfl, rfl⟩ := trodAll_nil r1
  obtain rfl : args = #[v0, v1] := by cases args; simp_all
  obtain ⟨rfl, rfl⟩ := trodVars_none hV
  obtain ⟨x0, rfl, rfl, rfl, w0⟩ := open_int Try.underlying2 (hval 0 2 v0 rfl rfl) h0
  have k1 := h1
  have lt1 : ∀ x ∈ p1, x.block < W.heap.size := by obtain ⟨m, hm⟩ := k1; exact DataW.trod_lt m _ _ _ hm
  obtain ⟨a1, c1, x1, rfl, e1, n1⟩ := open_list (hval 1 26 v1 rfl rfl) h1
  clear hA0 hval0
  refine (walk x0 a1 c1 x1 W w0 e1 n1).mono fun e W' ⟨he, bel⟩ => ?_
  subst he
  exact ⟨_, rfl, _, _, _, [], _, [], hW', trodAll_mk1 (shut_bool Try.underlying4 _), (trodAll_cons_mk (shut_int Try.underlying2 w0) (trodAll_cons_mk (Below.trod laidOut (by kernel_rfl) (of_decide_eq_true (by kernel_rfl)) k1 bel lt1) trodAll_mk0)), rfl, bel.frame _, fun h => by cases h⟩

theorem over : Rows.fnExactHeapGameRow.holds Try.pinned (OpenSpec.ofChange Rows.fnExactHeapGameSpec) :=
  OpenClaim.holds_of_wide 7 Try.f7 rfl rfl rfl rfl rfl rfl rfl ⟨rfl, rfl, rfl, rfl, rfl⟩ rfl rfl rfl rfl rfl (by kernel_rfl) Try.func7 (by kernel_rfl)
    (of_decide_eq_true (by kernel_rfl)) (by unfold Func.isWrapper; first | (rw [if_pos (by decide +kernel)]; kernel_rfl) | (rw [if_neg (by decide +kernel)]; exact ⟨rfl, rfl⟩))
    (fun os started H enc _ => lifted os started H enc)

theorem proved : Rows.FnExactHeapGameSaid := over
end Go.Proofs.Ytlgogpphlnogoaa.LawHeapGame
