/-
  Col and snort: colours and rules, the program's text.
-/
import Derived.Test.YtdimmlpnfghndabFl
import Derived.Test.YtdimmlpnfghndabQr
namespace Go.Proofs.Ytdimmlpnfghndab
open Go.RowKit Go.Shelf
attribute [local go_sem] Oper.semAt_some
set_option linter.unusedVariables false

/-- The sign of a colour. -/
def sgn (c : Int) : Int := if c = 1 then 114 else if c = 2 then 98 else 46
theorem sgn_46 {R B i : Int} : sgn (cl R B i) = 46 ↔ cl R B i = 0 := by
  rcases cl_range R B i with h | h | h <;> rw [h] <;> simp [sgn]
theorem sgn_eq {R B i j : Int} : sgn (cl R B i) = sgn (cl R B j) ↔ cl R B i = cl R B j := by
  rcases cl_range R B i with h | h | h <;> rcases cl_range R B j with h2 | h2 | h2 <;> rw [h, h2] <;> simp [sgn]
theorem cl_red {R B i : Int} (h : drawn R i = true) : cl R B i = 1 := by simp [cl, h]
theorem cl_blue {R B i : Int} (h : drawn R i = false) (h2 : drawn B i = true) : cl R B i = 2 := by simp [cl, h, h2]
theorem cl_none {R B i : Int} (h : drawn R i = false) (h2 : drawn B i = false) : cl R B i = 0 := by simp [cl, h, h2]

set_option maxHeartbeats 1000000 in
theorem colourOf_any (n L R B i : Int) (hr0 : 0 ≤ R) (hr1 : R < 256) (hb0 : 0 ≤ B) (hb1 : B < 256) (hi : 0 ≤ i) (hi8 : i < 8) (W : World) :
    Calls Try.prog 11 #[.agg #[.int .i64 n, .int .i64 L, .int .i64 R, .int .i64 B], .int .i64 i] W (RetB (.int .u8 (sgn (cl R B i))) W) := by
  have hR := dg_walkL (E := R) (k := i) hr0 (by omega)
  have hBl := dg_walkL (E := B) (k := i) hb0 (by omega)
  cases h : drawn R i
  · have e1 := dg_of_free h
    rw [e1] at hR
    cases h2 : drawn B i
    · have e2 := dg_of_free h2
      rw [e2] at hBl
      have HF : Hid (sgn (cl R B i) = 46) := hide (by rw [cl_none h h2]; rfl)
      clear h h2 e1 e2
      go_enter Try.func11, Try.ntmps11
      go_wp2
      go_ret
      exact ⟨ret_int HF.out.symm, below_alloc _ _⟩
    · have e2 := dg_of_drawn h2
      rw [e2] at hBl
      have HF : Hid (sgn (cl R B i) = 98) := hide (by rw [cl_blue h h2]; rfl)
      clear h h2 e1 e2
      go_enter Try.func11, Try.ntmps11
      go_wp2
      go_ret
      exact ⟨ret_int HF.out.symm, below_alloc _ _⟩
  · have e1 := dg_of_drawn h
    rw [e1] at hR
    have HF : Hid (sgn (cl R B i) = 114) := hide (by rw [cl_red h]; rfl)
    clear h e1 hBl
    go_enter Try.func11, Try.ntmps11
    go_wp2
    go_ret
    exact ⟨ret_int HF.out.symm, below_alloc _ _⟩

/-! ### isFair -/
/-- All lines handed on so far are fair. -/
def okL (game R B : Int) {n L : Int} (pre : List (Ln n L)) : Bool := pre.all fun x => !bad game (cl R B x.1.1) (cl R B x.1.2)
theorem okL_snoc (game R B : Int) {n L : Int} (pre : List (Ln n L)) (x : Ln n L) : okL game R B (pre ++ [x]) = (okL game R B pre && !bad game (cl R B x.1.1) (cl R B x.1.2)) := by simp [okL]
theorem okL_append (game R B : Int) {n L : Int} (a b : List (Ln n L)) : okL game R B (a ++ b) = (okL game R B a && okL game R B b) := by simp [okL]
theorem okL_lnI (game R B : Int) {n L : Int} (j : Nat) (hj : (j : Int) < n) : ∀ (i : Nat) (h : i ≤ j), okL game R B (lnI n L j hj i h) = fairI L R B game j i
  | 0, _ => rfl
  | i + 1, h => by
    have ih := okL_lnI game R B (L := L) j hj i (by omega)
    rw [lnI, fairI_succ]
    split
    · rename_i hd
      rw [okL_snoc, ih]
      simp [hd]
    · rename_i hd
      rw [ih]
      simp only [Bool.not_eq_true] at hd
      simp [hd]
theorem okL_lnJ (game R B : Int) {n L : Int} : ∀ (j : Nat) (h : (j : Int) ≤ n), okL game R B (lnJ n L j h) = fairJ L R B game j
  | 0, _ => rfl
  | j + 1, h => by
    rw [lnJ, okL_append, okL_lnJ game R B j (by omega), okL_lnI, fairJ_succ]
theorem okL_lns (game R B : Int) {n L : Int} (h : 0 ≤ n) : okL game R B (lns n L h) = fair n L R B game := okL_lnJ game R B _ _
/-- A line that is not fair. -/
theorem fair_false {n L R B game : Int} (h : 0 ≤ n) (x : Ln n L) (hb : bad game (cl R B x.1.1) (cl R B x.1.2) = true) : fair n L R B game = false := by
  obtain ⟨⟨i, j⟩, h1, h2, h3⟩ := x
  exact fairJ_false (k := j) (by simp only at h2; omega) (fairI_false (k := i) (j := (j : Int)) h1 h3 hb)

/-- The loop has been left in the middle: the result has been stored. -/
def MidX (B0 : Nat) (W0 W : World) : Prop := B0 + 4 ≤ W.heap.size ∧ W.heap[B0 + 1 + 1]? = some (.cells #[.bool false] 4 (0, 0)) ∧ Below B0 W0 W
theorem MidX.below {B0 : Nat} {W0 W W' : World} (h : MidX B0 W0 W) (hb : Below (B0 + 4) W W') : MidX B0 W0 W' :=
  ⟨Nat.le_trans h.1 hb.size, (hb.block _ (by omega)).trans h.2.1, h.2.2.trans (hb.mono (by omega))⟩
theorem box_set1 {w : World} {b : Nat} {x : Value} (y : Value) {t : TypeId} (h : w.heap[b]? = some (.cells #[x] t (0, 0))) : (w.setCell ⟨b, 0, none⟩ y).heap[b]? = some (.cells #[y] t (0, 0)) := heap_setCell_same _ b 0 _ t y h

end Go.Proofs.Ytdimmlpnfghndab
