/-
  Lines of a grid: the function value that linesAlong hands back, for every loop body that keeps what it reads: the walk.
-/
import Derived.Test.YtkekanllfpdeaabLm
namespace Go.Proofs.Ytkekanllfpdeaab
open Go.RowKit Go.Shelf
attribute [local go_sem] Oper.semAt_some
set_option linter.unusedVariables false

set_option maxRecDepth 100000 in
set_option maxHeartbeats 8000000 in
theorem lin_in (m : Nat) (hm : 1 ≤ m) (l n₀ Bs Bg Bk G n : Nat) (W H : Int) (w0 : 1 ≤ W) (w1 : W ≤ 5) (h0 : 1 ≤ H) (h1 : H ≤ 5) (hn : n ≤ 5)
    (J Jx : List Int → World → Prop) (hJ : ∀ s A C, J s A → Below A.heap.size A C → J s C)
    (hY : ∀ pre z V, J pre V → pre.length < 50 → YieldAt Fence.wide (m - 1) Try.prog l #[.int .i64 z] V fun e V' =>
      (e = .returned (.bool true) ∧ J (pre ++ [z]) V' ∧ KeepY n₀ V V') ∨ (e = .returned (.bool false) ∧ Jx (pre ++ [z]) V'))
    (V0 V : World) (hV0 : V0.heap.size ≤ n₀) (hVV : Below V0.heap.size V0 V) (hf : LinF V0 Bs Bg Bk G W H n) (hn₀ : n₀ ≤ V.heap.size) (hJ0 : J [] V) :
    CallsIn Fence.wide m Try.prog 73 #[.func (.yield l) #[] #[], .pointer (some ⟨Bs, 0, none⟩), .pointer (some ⟨Bg, 0, none⟩), .pointer (some ⟨Bk, 0, none⟩)] V fun e V' => (∃ v, e = .returned v) ∧
      ((∃ ys : List Int, ys = linesL W H n ∧ J ys V') ∨ (∃ pre, True ∧ Jx pre V')) := by
  have HY := hide hY
  have HJ := hide hJ
  have HF := hide hf
  have HVV := hide hVV
  have hWH : 0 ≤ W * H ∧ W * H ≤ 25 := by
    have h5 : H = 1 ∨ H = 2 ∨ H = 3 ∨ H = 4 ∨ H = 5 := by omega
    rcases h5 with e | e | e | e | e <;> subst e <;> omega
  obtain ⟨q, hq⟩ : ∃ q, q = W * H := ⟨_, rfl⟩
  have hqw : wrap64 (W * H) = q := by rw [hq]; unfold wrap64; omega
  rw [← hq] at hWH
  have HQ := hide hq
  obtain ⟨e0, e1, e2, e3, e4, e5, e6, e7⟩ := hf.keep hVV
  clear hY hJ hf hVV hq
  refine callsIn_of_wp Try.func73 rfl trivial ?_ rfl
  simp only [Try.ntmps73, List.size_toArray, List.length_cons, List.length_nil, Nat.reduceAdd, Nat.reduceSub, Array.replicate_succ, Array.replicate_zero, List.push_toArray, List.append_toArray, List.nil_append, List.cons_append]
  gi_wp2
  clear e0 e1 e2 e3 e4 e5 e6 e7
  gi_loopw [12] (fun v12 wr => ∃ (j : Nat) (ys : List Int), v12 = .int .i64 j ∧ j ≤ 2 ∧ Hid (ys = doneL W H n j) ∧ Hid (J ys wr) ∧ Hid (KeepY n₀ V wr)) (fun v12 _ => 2 - (intOf v12).toNat)
  case atStart => exact ⟨0, [], rfl, by omega, hide rfl, hide hJ0, hide (KeepY.refl _ _)⟩
  case round =>
    obtain ⟨j, ys, rfl, hj, hys, hJs, hK⟩ := hrel
    obtain ⟨wo, hwo⟩ : ∃ wo : World, wo = wr := ⟨_, rfl⟩
    subst hwo
    by_cases hlt : j < 2
    · obtain ⟨e0, e1, e2, e3, e4, e5, e6, e7⟩ := HF.out.keep (HVV.out.trans (hK.out.1.mono hV0))
      obtain ⟨dx, hdx⟩ : ∃ dx, dx = dxJ j := ⟨_, rfl⟩
      obtain ⟨dy, hdy⟩ : ∃ dy, dy = dyJ j := ⟨_, rfl⟩
      have hdx01 : 0 ≤ dx ∧ dx ≤ 1 := by rw [hdx]; unfold dxJ; split <;> omega
      have hdy01 : 0 ≤ dy ∧ dy ≤ 1 := by rw [hdy]; unfold dyJ; split <;> omega
      have g0 : wo.cell? ⟨G, j * 2, none⟩ = some (.int .i64 dx) := by
        have : j = 0 ∨ j = 1 := by omega
        rcases this with h | h <;> subst h <;> rw [hdx]
        · exact e4
        · exact e6
      have g1 : wo.cell? ⟨G, j * 2 + 1, none⟩ = some (.int .i64 dy) := by
        have : j = 0 ∨ j = 1 := by omega
        rcases this with h | h <;> subst h <;> rw [hdy]
        · exact e5
        · exact e7
      have hsum : Hid (doneL W H n (j + 1) = ys ++ toL W H n dx dy q.toNat) := hide (by rw [doneL_succ hlt, hys.out, hdx, hdy, HQ.out]; rfl)
      have hyl : Hid (ys.length ≤ 25) := hide (by rw [hys.out]; exact doneL_len w1 h1 w0 h0 hlt)
      have HD := hide (And.intro hdx hdy)
      clear hdx hdy e4 e5 e6 e7 hys e0
      obtain ⟨wb, hwb⟩ : ∃ wb, wb = wo.alloc (.cells #[.int .i64 dx, .int .i64 dy] 80) := ⟨_, rfl⟩
      have hbb : Hid (Below wo.heap.size wo wb) := by rw [hwb]; exact hide (below_alloc _ _)
      have hbx : Hid (wb.heap[wo.heap.size]? = some (.cells #[.int .i64 dx, .int .i64 dy] 80 (0, 0))) := by rw [hwb]; exact hide (heap_alloc_new _ _)
      have hwr : Hid (n₀ ≤ wo.heap.size) := hide (Nat.le_trans hn₀ hK.out.2.1)
      have hKb : Hid (KeepY n₀ V wb) := hide (hK.out.trans (KeepY.of_below hbb.out hwr.out))
      have hJb : Hid (J ys wb) := hide (HJ.out _ _ _ hJs.out hbb.out)
      have x1 := cell_keep hbb.out e1
      have x2 := cell_keep hbb.out e2
      have x3 := cell_keep hbb.out e3
      have z1 : (wo.alloc (.cells #[.int .i64 dx, .int .i64 dy] 80)).cell? ⟨Bg, 0, none⟩ = some (.int .i64 W) := by rw [← hwb]; exact x1
      have z2 : (wo.alloc (.cells #[.int .i64 dx, .int .i64 dy] 80)).cell? ⟨Bg, 1, none⟩ = some (.int .i64 H) := by rw [← hwb]; exact x2
      clear hJs hK x1 x2 x3 e1 e2 e3
      have hdj : decide ((j : Int) < 2) = true := decide_eq_true (by omega)
      gi_wp2
      rw [← hwb]
      (try rw [hqw])
      clear hwb z1 z2 g0 g1
      gi_loopw [21] (fun v21 wr => ∃ (s : Nat) (zs : List Int), v21 = .int .i64 s ∧ (s : Int) ≤ q ∧ Hid (zs = ys ++ toL W H n dx dy s) ∧ Hid (J zs wr) ∧ Hid (KeepY n₀ wb wr)) (fun v21 _ => (q - intOf v21).toNat)
      case atStart => exact ⟨0, ys, rfl, hWH.1, hide (by simp [toL]), hJb, hide (KeepY.refl _ _)⟩
      case round =>
        obtain ⟨s, zs, rfl, hs, hzs, hJz, hKz⟩ := hrel
        have hKq : Hid (KeepY n₀ V wr) := hide (hKb.out.trans hKz.out)
        have hn0q : Hid (n₀ ≤ wr.heap.size) := hide (Nat.le_trans hn₀ hKq.out.2.1)
        by_cases hlt2 : (s : Int) < q
        · obtain ⟨e0, e1, e2, e3, e4, e5, e6, e7⟩ := HF.out.keep (HVV.out.trans (hKq.out.1.mono hV0))
          have hbq := hKz.out.2.2 _ _ hbx.out
          have x0 : wr.cell? ⟨wo.heap.size, 0, none⟩ = some (.int .i64 dx) := (cell_of_row _ _ 0 _ _ (0, 0) hbq).trans rfl
          have x1 : wr.cell? ⟨wo.heap.size, 1, none⟩ = some (.int .i64 dy) := (cell_of_row _ _ 1 _ _ (0, 0) hbq).trans rfl
          have HLF := hide (fun V' => lineFrom_any W H dx dy n s V' w0 w1 h0 h1 hdx01.1 hdx01.2 hdy01.1 hdy01.2 hn (by omega))
          have hlen : zs.length < 50 := by
            have a1 := congrArg List.length hzs.out
            have a2 := toL_len W H n dx dy s
            have a3 := hyl.out
            rw [List.length_append] at a1
            omega
          clear e0 e4 e5 e6 e7 hbq
          cases hla : lineAt W H n dx dy s with
          | none =>
            have hnx : Hid (zs = ys ++ toL W H n dx dy (s + 1)) := hide (by rw [toL_none hla]; exact hzs.out)
            rw [hla] at HLF
            dsimp only [lineV] at HLF
            clear hla
            gi_wp2_with (first | (refine ⟨trivial, ?_⟩; gi_at_call 74; refine (callsIn_wide.2 (HLF.out _)).mono ?_; rintro e w5 ⟨rfl, hb5⟩; (have HB5 := hide hb5)) | (with_reducible refine noLead ?_))
            have hJ3 := hide (HJ.out _ _ _ hJz.out HB5.out)
            have hK3 := hide (hKz.out.trans (KeepY.of_below HB5.out hn0q.out))
            clear hb5
            gi_wp2_with (with_reducible refine noLead ?_)
            go_roundw
            case rel => exact ⟨s + 1, zs, by go_num, by omega, hnx, hJ3, hK3⟩
            case measure => simp [intOf]; omega
          | some z =>
            have hnx : Hid (zs ++ [z] = ys ++ toL W H n dx dy (s + 1)) := hide (by rw [toL_some hla, ← List.append_assoc, ← hzs.out])
            rw [hla] at HLF
            dsimp only [lineV] at HLF
            clear hla
            gi_wp2_with (first | (refine ⟨trivial, ?_⟩; gi_at_call 74; refine (callsIn_wide.2 (HLF.out _)).mono ?_; rintro e w5 ⟨rfl, hb5⟩; (have HB5 := hide hb5); (obtain ⟨fn, tmps, assign, body, hy, hR⟩ := HY.out zs z w5 (HJ.out _ _ _ hJz.out hb5) hlen)) | (with_reducible refine noLead ?_))
            all_goals
              refine hR.mono ?_
              rintro e W3 (⟨rfl, hJ3, hk3⟩ | ⟨rfl, hJx3⟩)
              · have hK3 := hide ((hKz.out.trans (KeepY.of_below HB5.out hn0q.out)).trans hk3)
                have HJ3 := hide hJ3
                clear hJ3 hk3 hy hb5
                gi_wp2
                go_roundw
                case rel => exact ⟨s + 1, zs ++ [z], by go_num, by omega, hnx, HJ3, hK3⟩
                case measure => simp [intOf]; omega
              · gi_wp2
                refine bodyPost_ret (results_none rfl _ _ _) rfl ?_
                exact ⟨⟨_, rfl⟩, .inr ⟨_, trivial, hJx3⟩⟩
        · have hsq : s = q.toNat := by omega
          have hzn : Hid (zs = doneL W H n (j + 1)) := hide (by rw [hsum.out, ← hsq]; exact hzs.out)
          have hlt3 : ¬ ((s : Int) < q) := hlt2
          clear hsq hzs
          gi_wp2
          go_roundw
          case rel => exact ⟨j + 1, zs, by go_num, by omega, hzn, hJz, hKq⟩
          case measure => simp [intOf]; omega
    · obtain rfl : j = 2 := by omega
      gi_wp2
      go_end0
      exact ⟨⟨_, rfl⟩, .inl ⟨ys, hys.out, hJs.out⟩⟩
end Go.Proofs.Ytkekanllfpdeaab
