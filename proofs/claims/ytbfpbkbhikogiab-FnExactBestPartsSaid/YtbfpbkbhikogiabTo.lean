/-
  Ends of dots and boxes: tallies, the program's small functions.
-/
import Derived.Test.YtbfpbkbhikogiabTa
import Derived.Laws.CopyOwn
namespace Go.Proofs.Ytbfpbkbhikogiab
open Go.RowKit Go.Maps
set_option linter.unusedVariables false

/-- A tally in a block. -/
def TallyIn (w : World) (b : Nat) (l : List Nat) : Prop := w.heap[b]? = some (.cells (tc l) 41 (0, 0))
theorem TallyIn.keep {w w' : World} {b : Nat} {l : List Nat} (h : TallyIn w b l) (hb : Below w.heap.size w w') : TallyIn w' b l := box_keep h hb
theorem TallyIn.new (w : World) (l : List Nat) : TallyIn (w.alloc (.cells (tc l) 41)) w.heap.size l := heap_alloc_new w _
theorem TallyIn.load {w : World} {b : Nat} {l : List Nat} (h : TallyIn w b l) (hl : l.length = 62) : (Instr.loadAt 41 (.pointer (some ⟨b, 0, none⟩))).run Try.prog w = .ok (.agg (tc l)) w := by
  simp only [Instr.loadAt, Instr.sureAddr, Sem.run_bind, Sem.run_pure, Result.andThen_ok]
  exact run_loadVar_row w b _ _ (tc l) (0, 0) _ h tUnder rfl (by rw [tc_size, hl]; exact tInfo)

/-- The cells of a block. -/
def rowAt (w : World) (b : Nat) : Array Value := match w.heap[b]? with | some (.cells cs _ _) => cs | _ => #[]
/-- Whether a block is a tally's. -/
def isT (w : World) (b : Nat) : Bool := match w.heap[b]? with | some (.cells cs t fr) => decide (t = 41) && decide (cs.size = 62) && decide (fr = (0, 0)) | _ => false
theorem TallyIn.row {w : World} {b : Nat} {l : List Nat} (h : TallyIn w b l) : rowAt w b = tc l := by unfold rowAt; rw [show w.heap[b]? = _ from h]
theorem TallyIn.is {w : World} {b : Nat} {l : List Nat} (h : TallyIn w b l) (hl : l.length = 62) : isT w b = true := by
  unfold isT
  rw [show w.heap[b]? = _ from h]
  simp [tc_size, hl]
theorem isT_row {w : World} {b : Nat} (h : isT w b = true) : w.heap[b]? = some (.cells (rowAt w b) 41 (0, 0)) ∧ (rowAt w b).size = 62 := by
  unfold isT at h
  unfold rowAt
  split at h
  · rename_i cs t fr he
    simp only [Bool.and_eq_true, decide_eq_true_eq] at h
    obtain ⟨⟨rfl, h2⟩, rfl⟩ := h
    rw [he]
    exact ⟨rfl, h2⟩
  · cases h
/-- A whole tally read. -/
theorem run_load_tally (w : World) (b : Nat) (h : isT w b = true) : (Instr.loadAt 41 (.pointer (some ⟨b, 0, none⟩))).run Try.prog w = .ok (.agg (rowAt w b)) w := by
  obtain ⟨h1, h2⟩ := isT_row h
  simp only [Instr.loadAt, Instr.sureAddr, Sem.run_bind, Sem.run_pure, Result.andThen_ok]
  exact run_loadVar_row w b _ _ _ (0, 0) _ h1 tUnder rfl (by rw [h2]; exact tInfo)
/-- A pointer's block. -/
def pB : Value → Nat | .pointer (some ⟨b, _, _⟩) => b | _ => 0
def pOk : Value → Bool | .pointer (some ⟨_, 0, none⟩) => true | _ => false
theorem pOk_is {v : Value} (h : pOk v = true) : v = .pointer (some ⟨pB v, 0, none⟩) := by
  unfold pOk at h
  split at h
  · rfl
  · cases h
/-- A whole tally read, as one operation. -/
theorem wp_load_tally (d : Option Tmp) (x : Operand) (ty : TypeId) (pos : String) (af : Array Edge) (a : Act) (w : World) (K : Act → World → Prop) (Q : Exit → Act → World → Prop) (h1 : pOk (a.eval x) = true) (h2 : isT w (pB (a.eval x)) = true) :
    Oper.wp Try.prog { dst := d, op := .load 41 x, type := ty, pos := pos, after := af, guard := none } a w K Q = K (a.put d (.agg (rowAt w (pB (a.eval x))))) w := by
  have hr := run_load_tally w (pB (a.eval x)) h2
  rw [← pOk_is h1] at hr
  unfold Oper.wp execOp
  simp only [Sem.run_bind, hr, Result.andThen_ok, Sem.run_pure]
  rfl
attribute [local go_sem ↓] wp_load_tally

set_option maxRecDepth 100000 in
set_option maxHeartbeats 400000 in
theorem isOver_any (l : List Nat) (h : okT l) (W : World) : Calls Try.prog 22 #[.agg (tc l)] W (RetB (.bool (decide (l.sum = 0))) W) := by
  have hT0 : (W.alloc (.cells (tc l) 41)).heap[W.heap.size]? = some (.cells (tc l) 41 (0, 0)) := TallyIn.new W l
  have hsz : ((Try.prog).info? 41).map (·.size) = some (tc l).size := by rw [tc_size, h.1]; exact tInfo
  have hT1 := (TallyIn.new W l).is h.1
  have hT2 := (TallyIn.new W l).row
  have hE : ∀ w : World, (Op.equalIn 10000 41 (.agg (tc l)) (.agg #[.int .u8 0, .int .u8 0, .int .u8 0, .int .u8 0, .int .u8 0, .int .u8 0, .int .u8 0, .int .u8 0, .int .u8 0, .int .u8 0, .int .u8 0, .int .u8 0, .int .u8 0, .int .u8 0, .int .u8 0, .int .u8 0, .int .u8 0, .int .u8 0, .int .u8 0, .int .u8 0, .int .u8 0, .int .u8 0, .int .u8 0, .int .u8 0, .int .u8 0, .int .u8 0, .int .u8 0, .int .u8 0, .int .u8 0, .int .u8 0, .int .u8 0, .int .u8 0, .int .u8 0, .int .u8 0, .int .u8 0, .int .u8 0, .int .u8 0, .int .u8 0, .int .u8 0, .int .u8 0, .int .u8 0, .int .u8 0, .int .u8 0, .int .u8 0, .int .u8 0, .int .u8 0, .int .u8 0, .int .u8 0, .int .u8 0, .int .u8 0, .int .u8 0, .int .u8 0, .int .u8 0, .int .u8 0, .int .u8 0, .int .u8 0, .int .u8 0, .int .u8 0, .int .u8 0, .int .u8 0, .int .u8 0, .int .u8 0])).run Try.prog w = .ok (decide (l.sum = 0)) w := fun w => by
    have := equal_any l zeroT h ⟨zeroT_len, by decide⟩ w
    rw [show decide (l = zeroT) = decide (l.sum = 0) from decide_eq_decide.2 (sum_zero_iff h.1)] at this
    exact this
  have hf : Hid (Below W.heap.size W (W.alloc (.cells (tc l) 41))) := hide (below_alloc _ _)
  go_enter Try.func22, Try.ntmps22
  go_wp2_with (refine wpList_load_row rfl 41 (.tmp 1) rfl W.heap.size rfl 41 (tc l) (0, 0) _ hT0 tUnder rfl hsz ?_)
  go_ret
  exact ⟨rfl, hf.out⟩

theorem TallyIn.cell {w : World} {b : Nat} {l : List Nat} (h : TallyIn w b l) {i : Nat} (hi : i < l.length) : w.cell? ⟨b, i, none⟩ = some (.int .u8 (tg l i : Nat)) := by
  rw [cell_of_row w b i _ _ (0, 0) h]
  exact tc_get hi
theorem TallyIn.set {w : World} {b : Nat} {l : List Nat} (h : TallyIn w b l) (i v : Nat) : TallyIn (w.setCell ⟨b, i, none⟩ (.int .u8 (v : Int))) b (l.set i v) := by
  have := heap_setCell_same w b i _ _ (.int .u8 (v : Int)) h
  rw [tc_set] at this
  exact this
theorem TallyIn.whole {w : World} {b : Nat} {l m : List Nat} (h : TallyIn w b l) : TallyIn (w.setRow b (tc m)) b m := setRow_heap w b _ _ _ _ h

set_option maxRecDepth 100000 in
set_option maxHeartbeats 1000000 in
theorem takeOne_any (l : List Nat) (h : okT l) (k b : Nat) (hk : k < 2) (hb : b < 31) (h0 : 0 < tg l (k * 31 + b)) (W : World) :
    Calls Try.prog 30 #[.agg (tc l), .agg #[.int .i64 k, .int .i64 b]] W (RetB (.agg (tc (decT l (k * 31 + b)))) W) := by
  obtain ⟨v, hv⟩ : ∃ v, v = tg l (k * 31 + b) := ⟨_, rfl⟩
  have hv8 : v ≤ 8 := by rw [hv]; have := tg_le l (k * 31 + b); have := h.2; omega
  rw [← hv] at h0
  have HV := hide hv
  obtain ⟨W0, hW0⟩ : ∃ W0, W0 = ((W.alloc (.cells (tc l) 41)).alloc (.cells #[.int .i64 k, .int .i64 b] 55)).alloc (.cells #[.int .u8 0, .int .u8 0, .int .u8 0, .int .u8 0, .int .u8 0, .int .u8 0, .int .u8 0, .int .u8 0, .int .u8 0, .int .u8 0, .int .u8 0, .int .u8 0, .int .u8 0, .int .u8 0, .int .u8 0, .int .u8 0, .int .u8 0, .int .u8 0, .int .u8 0, .int .u8 0, .int .u8 0, .int .u8 0, .int .u8 0, .int .u8 0, .int .u8 0, .int .u8 0, .int .u8 0, .int .u8 0, .int .u8 0, .int .u8 0, .int .u8 0, .int .u8 0, .int .u8 0, .int .u8 0, .int .u8 0, .int .u8 0, .int .u8 0, .int .u8 0, .int .u8 0, .int .u8 0, .int .u8 0, .int .u8 0, .int .u8 0, .int .u8 0, .int .u8 0, .int .u8 0, .int .u8 0, .int .u8 0, .int .u8 0, .int .u8 0, .int .u8 0, .int .u8 0, .int .u8 0, .int .u8 0, .int .u8 0, .int .u8 0, .int .u8 0, .int .u8 0, .int .u8 0, .int .u8 0, .int .u8 0, .int .u8 0] 41) := ⟨_, rfl⟩
  have hB0 : Hid (Below W.heap.size W W0) := by rw [hW0]; exact hide (((below_alloc _ _).alloc (by simp) _).alloc (by simp; omega) _)
  have hT0 : TallyIn W0 W.heap.size l := by
    rw [hW0]
    exact ((TallyIn.new W l).keep (below_alloc _ _)).keep (below_alloc _ _)
  have hS0 : W0.heap[W.heap.size + 1]? = some (.cells #[.int .i64 k, .int .i64 b] 55 (0, 0)) := by
    have := heap_alloc_new (W.alloc (.cells (tc l) 41)) (.cells #[.int .i64 k, .int .i64 b] 55 (0, 0))
    rw [hW0, Below.heap_alloc _ _ _ (by simp)]
    simpa using this
  have hZ0 : TallyIn W0 (W.heap.size + 1 + 1) zeroT := by
    have h1 := TallyIn.new ((W.alloc (.cells (tc l) 41)).alloc (.cells #[.int .i64 k, .int .i64 b] 55)) zeroT
    simp only [World.size_alloc] at h1
    rw [hW0]
    exact h1
  obtain ⟨d0, d1, _⟩ := row2' hS0
  have hcell : W0.cell? ⟨W.heap.size, k * 31 + b, none⟩ = some (.int .u8 (v : Nat)) := by rw [hv]; exact hT0.cell (by rw [h.1]; omega)
  have hfr : W0.frozen? ⟨W.heap.size, k * 31 + b, none⟩ = false := frozen_of_row _ _ _ _ _ hT0
  have hvm : Value.int .u8 ((v : Int) - 1) = .int .u8 ((v - 1 : Nat) : Int) := by congr 1; omega
  obtain ⟨W1, hW1⟩ : ∃ W1, W1 = (W0.setCell ⟨W.heap.size, k * 31 + b, none⟩ (.int .u8 ((v - 1 : Nat) : Int))).drew := ⟨_, rfl⟩
  have HT1 : Hid (TallyIn W1 W.heap.size (l.set (k * 31 + b) (v - 1))) := hide (by rw [hW1]; exact (hT0.set (k * 31 + b) (v - 1)).keep (Below.drew (Below.refl _ _)))
  have hz1 : Hid (TallyIn W1 (W.heap.size + 1 + 1) zeroT) := hide (by
    have h1 : TallyIn (W0.setCell ⟨W.heap.size, k * 31 + b, none⟩ (.int .u8 ((v - 1 : Nat) : Int))) (W.heap.size + 1 + 1) zeroT := (Below.heap_setCell _ _ _ _ (by simp; omega)).trans hZ0
    rw [hW1]
    exact h1.keep (Below.drew (Below.refl _ _)))
  have HB1 : Hid (Below W.heap.size W W1) := hide (by rw [hW1]; exact (hB0.out.setCell (p := ⟨W.heap.size, k * 31 + b, none⟩) (Nat.le_refl _) (.int .u8 ((v - 1 : Nat) : Int))).drew)
  have hsz : Hid (((Try.prog).info? 41).map (·.size) = some (tc (l.set (k * 31 + b) (v - 1))).size) := hide (by rw [tc_size, List.length_set, h.1]; exact tInfo)
  have hzz : Hid ((tc zeroT).size = (tc (l.set (k * 31 + b) (v - 1))).size) := hide (by rw [tc_size, tc_size, List.length_set, h.1]; rfl)
  clear hv
  go_enter Try.func30, Try.ntmps30
  go_wp2_with fail
  rw [← hW0]
  clear hW0 hT0 hZ0 hS0
  go_region
  rw [← hW1]
  clear hW1 d0 d1 hcell hfr
  go_wp2_with (first | (refine wpList_load_row rfl 41 (.tmp 2) rfl W.heap.size rfl 41 (tc (l.set (k * 31 + b) (v - 1))) (0, 0) _ HT1.out tUnder rfl hsz.out ?_) | (refine wpList_store_row rfl 41 (.tmp 4) (.tmp 15) rfl (W.heap.size + 1 + 1) (tc (l.set (k * 31 + b) (v - 1))) rfl rfl 41 (tc zeroT) hz1.out hsz.out hzz.out (tc_one _) ?_))
  refine bodyPost_ret ?_ rfl ⟨rfl, below_setRow HB1.out (by omega) _⟩
  rw [show decT l (k * 31 + b) = l.set (k * 31 + b) (v - 1) by unfold decT; rw [HV.out]]
  exact results_cell_row (fn := Try.f30) Try.results30 _ _ (W.heap.size + 1 + 1) 41 _ (0, 0) _ rfl hz1.out.whole tUnder rfl hsz.out
end Go.Proofs.Ytbfpbkbhikogiab
