/-
  Ends of dots and boxes: the openings of a tally, the program's text.
-/
import Derived.Test.YtbfpbkbhikogiabTo
namespace Go.Proofs.Ytbfpbkbhikogiab
open Go.RowKit Go.Maps
set_option linter.unusedVariables false

/-- The strand at a place. -/
def stP (p : Nat) : Int × Int := (knd p, bxs p)
theorem seen_step {l : List Nat} {bd : Nat} (hb : bd < 62) : seen l (bd + 1) = if 0 < tg l bd then seen l bd ++ [bd] else seen l bd := by
  by_cases h : 0 < tg l bd
  · rw [if_pos h]
    exact seen_next (Nat.le_refl _) hb h (fun p h1 h2 => by omega)
  · rw [if_neg h]
    exact seen_gap (by omega) (fun p h1 h2 => by
      obtain rfl : p = bd := by omega
      omega)
theorem seen_len (l : List Nat) (bd : Nat) : (seen l bd).length ≤ 62 := by
  unfold seen
  exact Nat.le_trans (List.length_filter_le _ _) (by simp)

/-! ### a row of a tally, and a number of it -/
theorem info_of {P : Program} {t : TypeId} {n : Nat} (h : (P.info? t).map (·.size) = some n) : ∃ i, P.info? t = some i ∧ P.cellsOf t = n := by
  cases hi : P.info? t with
  | none => rw [hi] at h; simp at h
  | some i => rw [hi] at h; simp at h; exact ⟨i, rfl, by simp [Program.cellsOf, hi, h]⟩
theorem rInfo : ((Try.prog).info? 39).map (·.size) = some 31 := by kernel_rfl
theorem bInfo : ((Try.prog).info? 5).map (·.size) = some 1 := by kernel_rfl
def rowT (l : List Nat) (k : Nat) : List Nat := (l.drop (31 * k)).take 31
theorem rowT_len {l : List Nat} (hl : l.length = 62) {k : Nat} (hk : k < 2) : (rowT l k).length = 31 := by simp [rowT, hl]; omega
theorem tg_rowT {l : List Nat} {k j : Nat} (hj : j < 31) : tg (rowT l k) j = tg l (31 * k + j) := by
  simp [tg, rowT, hj, List.getElem?_drop]
theorem run_index_row (l : List Nat) (hl : l.length = 62) (k : Nat) (hk : k < 2) (w : World) : (Instr.index 41 (.agg (tc l)) (.int .i64 (k : Int))).run Try.prog w = .ok (.agg (tc (rowT l k))) w := by
  obtain ⟨i, hi, hc⟩ := info_of rInfo
  have h0 : (0 : Int) ≤ (k : Int) ∧ (k : Int) < (2 : Nat) := by omega
  have hx : (tc l).extract (k * 31) (k * 31 + 31) = tc (rowT l k) := by
    simp [tc, rowT, List.extract_eq_take_drop, List.map_drop, List.map_take, Nat.mul_comm]
  simp only [Instr.index, asIntOf, Sem.run_bind, Sem.run_pure, Result.andThen_ok, run_underlying tUnder, h0, and_self, if_true, run_sizeOf w hi, hc, part, isAgg, run_underlying rUnder, Int.toNat_natCast, hx]
theorem run_index_num (r : List Nat) (hl : r.length = 31) (j : Nat) (hj : j < 31) (w : World) : (Instr.index 39 (.agg (tc r)) (.int .i64 (j : Int))).run Try.prog w = .ok (.int .u8 (tg r j : Nat)) w := by
  obtain ⟨i, hi, hc⟩ := info_of bInfo
  have h0 : (0 : Int) ≤ (j : Int) ∧ (j : Int) < (31 : Nat) := by omega
  have hx : (tc r)[j]? = some (.int .u8 (tg r j : Nat)) := tc_get (by omega)
  simp only [Instr.index, asIntOf, Sem.run_bind, Sem.run_pure, Result.andThen_ok, run_underlying rUnder, h0, and_self, if_true, run_sizeOf w hi, hc, part, isAgg, run_underlying bUnder, Int.toNat_natCast, Nat.mul_one]
  simp [hx]

set_option maxRecDepth 100000 in
set_option maxHeartbeats 4000000 in
theorem openings_any (l : List Nat) (h : okT l) (W : World) : Calls Try.prog 32 #[.agg (tc l)] W (NewStrs ((plc l).map stP) W) := by
  obtain ⟨i0, hi0, hz0, hz1, hz2⟩ := info_parts infoStrand
  obtain ⟨W0, hW0⟩ : ∃ W0, W0 = W.alloc (.cells (tc l) 41) := ⟨_, rfl⟩
  have hB0 : Hid (Below W.heap.size W W0) := by rw [hW0]; exact hide (below_alloc _ _)
  have hT0 : Hid (TallyIn W0 W.heap.size l) := by rw [hW0]; exact hide (TallyIn.new W l)
  have hT00 : Hid (TallyIn (W.alloc (.cells (tc l) 41)) W.heap.size l) := hide (TallyIn.new W l)
  have hsz : Hid (((Try.prog).info? 41).map (·.size) = some (tc l).size) := hide (by rw [tc_size, h.1]; exact tInfo)
  obtain ⟨B, hBe⟩ : ∃ B, B = W0.heap.size := ⟨_, rfl⟩
  have HBE := hide hBe
  have hO0 : Hid (OwnsS B W0 W0 (.slice none 0 0) []) := hide ⟨World.ownsRow_nil _ _ _ _, Below.refl _ _, by omega⟩
  have HOT := hide h
  clear hBe h
  go_enter Try.func32, Try.ntmps32
  go_wp2_with (refine wpList_load_row rfl 41 (.tmp 1) rfl W.heap.size rfl 41 (tc l) (0, 0) _ hT00.out tUnder rfl hsz.out ?_)
  rw [← hW0]
  clear hW0
  go_loopg [3, 9] 2 (fun g v i wr => ∃ (k : Nat) (ss : List (Int × Int)) (v0 : Value), v0 = v ∧ k + g = 2 ∧ i = .int .i64 k ∧ Hid (ss = (seen l (31 * k)).map stP) ∧ OwnsS B W0 wr v ss)
  case atStart => exact ⟨0, [], _, rfl, by omega, rfl, by rw [show 31 * 0 = 0 by omega, seen_zero]; rfl, hO0.out⟩
  case round =>
    clear hO0
    obtain ⟨k, ss, v, rfl, hk, rfl, hss, hO⟩ := hrel
    have HO := hide hO
    cases gk with
    | zero =>
      obtain rfl : k = 2 := by omega
      obtain rfl : ss = (plc l).map stP := by rw [hss.out, show 31 * 2 = 62 by omega, seen_all]
      obtain ⟨av, cv, rfl⟩ := hO.form
      have hbw := hO.old
      rw [HBE.out] at hbw
      have hfin : Hid (∀ v, v = Value.slice av (plc l).length cv → NewStrs ((plc l).map stP) W (.returned v) _) := hide (fun v e => ⟨av, cv, by rw [e, List.length_map], ownsRow_base hO.own (by rw [HBE.out]; exact hB0.out.size), Below.trans' hB0.out hbw⟩)
      clear hO HO hbw hss
      go_wp2_with fail
      go_ret
      exact hfin.out _ rfl
    | succ g =>
      have hk2 : k < 2 := by omega
      have hI : ∀ w : World, (Instr.index 41 (.agg (tc l)) (.int .i64 (k : Int))).run Try.prog w = .ok (.agg (tc (rowT l k))) w := fun w => run_index_row l HOT.out.1 k hk2 w
      obtain ⟨r, hr⟩ : ∃ r, r = rowT l k := ⟨_, rfl⟩
      rw [← hr] at hI
      have hrl : r.length = 31 := by rw [hr]; exact rowT_len HOT.out.1 hk2
      obtain ⟨Wa, hWa⟩ : ∃ Wa, Wa = wr.alloc (.cells #[.int .u8 0, .int .u8 0, .int .u8 0, .int .u8 0, .int .u8 0, .int .u8 0, .int .u8 0, .int .u8 0, .int .u8 0, .int .u8 0, .int .u8 0, .int .u8 0, .int .u8 0, .int .u8 0, .int .u8 0, .int .u8 0, .int .u8 0, .int .u8 0, .int .u8 0, .int .u8 0, .int .u8 0, .int .u8 0, .int .u8 0, .int .u8 0, .int .u8 0, .int .u8 0, .int .u8 0, .int .u8 0, .int .u8 0, .int .u8 0, .int .u8 0] 39) := ⟨_, rfl⟩
      have hz : Hid ((wr.alloc (.cells #[.int .u8 0, .int .u8 0, .int .u8 0, .int .u8 0, .int .u8 0, .int .u8 0, .int .u8 0, .int .u8 0, .int .u8 0, .int .u8 0, .int .u8 0, .int .u8 0, .int .u8 0, .int .u8 0, .int .u8 0, .int .u8 0, .int .u8 0, .int .u8 0, .int .u8 0, .int .u8 0, .int .u8 0, .int .u8 0, .int .u8 0, .int .u8 0, .int .u8 0, .int .u8 0, .int .u8 0, .int .u8 0, .int .u8 0, .int .u8 0, .int .u8 0] 39)).heap[wr.heap.size]? = some (.cells #[.int .u8 0, .int .u8 0, .int .u8 0, .int .u8 0, .int .u8 0, .int .u8 0, .int .u8 0, .int .u8 0, .int .u8 0, .int .u8 0, .int .u8 0, .int .u8 0, .int .u8 0, .int .u8 0, .int .u8 0, .int .u8 0, .int .u8 0, .int .u8 0, .int .u8 0, .int .u8 0, .int .u8 0, .int .u8 0, .int .u8 0, .int .u8 0, .int .u8 0, .int .u8 0, .int .u8 0, .int .u8 0, .int .u8 0, .int .u8 0, .int .u8 0] 39 (0, 0))) := hide (heap_alloc_new wr _)
      have hrz : Hid (((Try.prog).info? 39).map (·.size) = some (tc r).size) := hide (by rw [tc_size, hrl]; exact rInfo)
      have hzs : Hid (Array.size (α := Value) #[.int .u8 0, .int .u8 0, .int .u8 0, .int .u8 0, .int .u8 0, .int .u8 0, .int .u8 0, .int .u8 0, .int .u8 0, .int .u8 0, .int .u8 0, .int .u8 0, .int .u8 0, .int .u8 0, .int .u8 0, .int .u8 0, .int .u8 0, .int .u8 0, .int .u8 0, .int .u8 0, .int .u8 0, .int .u8 0, .int .u8 0, .int .u8 0, .int .u8 0, .int .u8 0, .int .u8 0, .int .u8 0, .int .u8 0, .int .u8 0, .int .u8 0] = (tc r).size) := hide (by rw [tc_size, hrl]; rfl)
      have hro : Hid ((tc r).all (·.oneCell') = true) := hide (tc_one r)
      have hld : Hid (((wr.alloc (.cells #[.int .u8 0, .int .u8 0, .int .u8 0, .int .u8 0, .int .u8 0, .int .u8 0, .int .u8 0, .int .u8 0, .int .u8 0, .int .u8 0, .int .u8 0, .int .u8 0, .int .u8 0, .int .u8 0, .int .u8 0, .int .u8 0, .int .u8 0, .int .u8 0, .int .u8 0, .int .u8 0, .int .u8 0, .int .u8 0, .int .u8 0, .int .u8 0, .int .u8 0, .int .u8 0, .int .u8 0, .int .u8 0, .int .u8 0, .int .u8 0, .int .u8 0] 39)).setRow wr.heap.size (tc r)).heap[wr.heap.size]? = some (.cells (tc r) 39 (0, 0))) := hide (setRow_heap _ _ _ _ _ _ hz.out)
      have HR := hide hr
      have HRL := hide hrl
      have HO2 : Hid (OwnsS B W0 ((wr.alloc (.cells #[.int .u8 0, .int .u8 0, .int .u8 0, .int .u8 0, .int .u8 0, .int .u8 0, .int .u8 0, .int .u8 0, .int .u8 0, .int .u8 0, .int .u8 0, .int .u8 0, .int .u8 0, .int .u8 0, .int .u8 0, .int .u8 0, .int .u8 0, .int .u8 0, .int .u8 0, .int .u8 0, .int .u8 0, .int .u8 0, .int .u8 0, .int .u8 0, .int .u8 0, .int .u8 0, .int .u8 0, .int .u8 0, .int .u8 0, .int .u8 0, .int .u8 0] 39)).setRow wr.heap.size (tc r)) v ss) := hide (hO.keep (below_setRow (below_alloc _ _) (Nat.le_refl _) _))
      clear hO hr hrl hWa
      go_wp2_with (first | (refine wpList_store_row rfl 39 (.tmp 5) (.tmp 12) rfl wr.heap.size (tc r) rfl rfl 39 #[.int .u8 0, .int .u8 0, .int .u8 0, .int .u8 0, .int .u8 0, .int .u8 0, .int .u8 0, .int .u8 0, .int .u8 0, .int .u8 0, .int .u8 0, .int .u8 0, .int .u8 0, .int .u8 0, .int .u8 0, .int .u8 0, .int .u8 0, .int .u8 0, .int .u8 0, .int .u8 0, .int .u8 0, .int .u8 0, .int .u8 0, .int .u8 0, .int .u8 0, .int .u8 0, .int .u8 0, .int .u8 0, .int .u8 0, .int .u8 0, .int .u8 0] hz.out hrz.out hzs.out hro.out ?_) | (refine wpList_load_row rfl 39 (.tmp 5) rfl wr.heap.size rfl 39 (tc r) (0, 0) _ hld.out rUnder rfl hrz.out ?_))
      obtain ⟨W1, hW1⟩ : ∃ W1, W1 = (wr.alloc (.cells #[.int .u8 0, .int .u8 0, .int .u8 0, .int .u8 0, .int .u8 0, .int .u8 0, .int .u8 0, .int .u8 0, .int .u8 0, .int .u8 0, .int .u8 0, .int .u8 0, .int .u8 0, .int .u8 0, .int .u8 0, .int .u8 0, .int .u8 0, .int .u8 0, .int .u8 0, .int .u8 0, .int .u8 0, .int .u8 0, .int .u8 0, .int .u8 0, .int .u8 0, .int .u8 0, .int .u8 0, .int .u8 0, .int .u8 0, .int .u8 0, .int .u8 0] 39)).setRow wr.heap.size (tc r) := ⟨_, rfl⟩
      rw [← hW1] at HO2 ⊢
      clear hW1 hld hz hI
      go_loopg [3, 14] 31 (fun g2 v i wi => ∃ (j : Nat) (ss : List (Int × Int)) (v0 : Value), v0 = v ∧ j + g2 = 31 ∧ i = .int .i64 j ∧ Hid (ss = (seen l (31 * k + j)).map stP) ∧ OwnsS B W0 wi v ss)
      case atStart => exact ⟨0, ss, _, rfl, by omega, rfl, hss.out, HO2.out⟩
      case round =>
        clear HO2 HO hss
        obtain ⟨j, ss, v, rfl, hj, rfl, hss, hO⟩ := hrel
        have HO := hide hO
        cases gk with
        | zero =>
          obtain rfl : j = 31 := by omega
          have hn : Hid (ss = (seen l (31 * (k + 1))).map stP) := hide (by rw [hss.out, show 31 * (k + 1) = 31 * k + 31 by omega])
          clear hO
          go_wp2_with fail
          go_roundg g
          case rel => exact ⟨k + 1, ss, _, rfl, by omega, by go_num, hn.out, HO.out⟩
          case measure => omega
        | succ g2 =>
          have hj31 : j < 31 := by omega
          have hI : ∀ w : World, (Instr.index 39 (.agg (tc r)) (.int .i64 (j : Int))).run Try.prog w = .ok (.int .u8 (tg r j : Nat)) w := fun w => run_index_num r HRL.out j hj31 w
          obtain ⟨t, ht⟩ : ∃ t, t = tg r j := ⟨_, rfl⟩
          rw [← ht] at hI
          have ht2 : Hid (t = tg l (31 * k + j)) := hide (by rw [ht, HR.out, tg_rowT hj31])
          have hsl : ss.length ≤ 62 := by rw [hss.out, List.length_map]; exact seen_len _ _
          clear ht
          by_cases h0 : 0 < t
          · have hn : Hid (ss ++ [((k : Int), (j : Int))] = (seen l (31 * k + (j + 1))).map stP) := hide (by
              rw [hss.out, show 31 * k + (j + 1) = 31 * k + j + 1 by omega, seen_step (by omega), if_pos (by rw [← ht2.out]; exact h0), List.map_append]
              have e : stP (31 * k + j) = ((k : Int), (j : Int)) := by unfold stP knd bxs; simp; omega
              simp [e])
            have hown := hO.own
            have hsz2 := hO.size
            clear hO
            go_wp2_with (at_builtin; refine wpList_append_own _ rfl _ _ 57 rfl B 55 i0 (.agg #[.int .i64 0, .int .i64 0]) 2 16 Try.underlying57 hi0 hz0 hz1 hz2 rfl (by decide) _ _ _ rfl (hown.alloc _) ⟨_, 0, none⟩ 1 1 [.int .i64 k, .int .i64 j] rfl rfl (World.news_of_block (heap_alloc_new _ (.cells #[.int .i64 k, .int .i64 j] 55 (0, 0)))) (by simp [Value.oneCell']) (by unfold maxLen; omega) (by omega) (by simp; omega) ?_)
            intro v' w7 hown' hgrow _
            have HO7 := hide (HO.out.snoc (by simpa using hown') hgrow)
            clear hown' hgrow hown hsz2
            go_wp2_with fail
            go_roundg g2
            case rel => exact ⟨j + 1, ss ++ [((k : Int), (j : Int))], _, rfl, by omega, by go_num, hn.out, HO7.out⟩
            case measure => omega
          · obtain rfl : t = 0 := by omega
            have hn : Hid (ss = (seen l (31 * k + (j + 1))).map stP) := hide (by
              rw [hss.out, show 31 * k + (j + 1) = 31 * k + j + 1 by omega, seen_step (by omega), if_neg (by rw [← ht2.out]; exact h0)])
            clear hO h0
            go_wp2_with fail
            go_roundg g2
            case rel => exact ⟨j + 1, ss, _, rfl, by omega, by go_num, hn.out, HO.out⟩
            case measure => omega
end Go.Proofs.Ytbfpbkbhikogiab
