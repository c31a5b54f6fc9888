/-
  Sprouts positions: what one is, plain. Both texts walk over the spots of the boundaries in the same order and keep the same two rows.
-/
import Derived.Test.YtlllkmobhjlmoabCube
import Derived.Test.YtlllkmobhjlmoabCo
namespace Go.Proofs.Ytlllkmobhjlmoab
open Go.RowKit
set_option linter.unusedVariables false

/-- The rows: how often a spot stands on boundaries; whether it is one alone. -/
structure Cts where
  P : List Int
  A : List Bool
def Cts.put (st : Cts) (z : Int) (f : Bool) : Cts := ⟨st.P.set z.toNat (wrap64 (st.P.getD z.toNat 0 + 1)), st.A.set z.toNat (st.A.getD z.toNat false || f)⟩
def Cts.zero (s : Nat) : Cts := ⟨List.replicate s 0, List.replicate s false⟩
/-- The spots of one boundary. -/
def spotsC (s : Int) (f : Bool) (st : Cts) : List Int → Option Cts
  | [] => some st
  | z :: r => if z < 0 ∨ s ≤ z then none else spotsC s f (st.put z f) r
/-- The boundaries of one region; the regions. -/
def bndC (s : Int) (st : Cts) : List (List Int) → Option Cts
  | [] => some st
  | b :: r => if b.length < 1 then none else (spotsC s (decide (b.length = 1)) st b).bind fun st' => bndC s st' r
def regC (s : Int) (st : Cts) : List (List (List Int)) → Option Cts
  | [] => some st
  | R :: r => (bndC s st R).bind fun st' => regC s st' r
theorem bndC_append (s : Int) : ∀ (xs ys : List (List Int)) (st : Cts), bndC s st (xs ++ ys) = (bndC s st xs).bind fun st' => bndC s st' ys
  | [], ys, st => rfl
  | b :: r, ys, st => by
    simp only [List.cons_append, bndC]
    by_cases h : b.length < 1
    · rw [if_pos h, if_pos h]; rfl
    · rw [if_neg h, if_neg h]
      cases spotsC s (decide (b.length = 1)) st b with
      | none => rfl
      | some st' => exact bndC_append s r ys st'
theorem regC_flat (s : Int) : ∀ (X : List (List (List Int))) (st : Cts), regC s st X = bndC s st X.flatten
  | [], st => rfl
  | R :: r, st => by
    rw [List.flatten_cons, bndC_append, regC]
    cases bndC s st R with
    | none => rfl
    | some st' => exact regC_flat s r st'
theorem spots_no {s : Int} {f : Bool} {st : Cts} {z : Int} {r : List Int} (h : z < 0 ∨ s ≤ z) : spotsC s f st (z :: r) = none := by rw [spotsC, if_pos h]
theorem spots_go {s : Int} {f : Bool} {st : Cts} {z : Int} {r : List Int} (h0 : 0 ≤ z) (h1 : z < s) : spotsC s f st (z :: r) = spotsC s f (st.put z f) r := by rw [spotsC, if_neg (by omega)]
theorem bnd_no {s : Int} {st : Cts} {b : List Int} {r : List (List Int)} (h : b.length < 1) : bndC s st (b :: r) = none := by rw [bndC, if_pos h]
theorem bnd_go {s : Int} {st : Cts} {b : List Int} {r : List (List Int)} (h : ¬ b.length < 1) : bndC s st (b :: r) = (spotsC s (decide (b.length = 1)) st b).bind fun st' => bndC s st' r := by rw [bndC, if_neg h]
/-- The last look: each spot once to three times, one alone but once. -/
def badC (st : Cts) (a : Nat) : Bool := decide (st.P.getD a 0 < 1) || decide (3 < st.P.getD a 0) || (st.A.getD a false && decide (1 < st.P.getD a 0))
def okFrom (st : Cts) (n k : Nat) : Bool := (List.range' k (n - k)).all fun a => !badC st a
theorem okFrom_no {st : Cts} {n k : Nat} (hk : k < n) (h : badC st k = true) : okFrom st n k = false := by
  unfold okFrom
  rw [show n - k = (n - (k + 1)) + 1 by omega, List.range'_succ]
  simp [h]
theorem okFrom_go {st : Cts} {n k : Nat} (hk : k < n) (h : badC st k = false) : okFrom st n k = okFrom st n (k + 1) := by
  unfold okFrom
  rw [show n - k = (n - (k + 1)) + 1 by omega, List.range'_succ]
  simp [h]
theorem okFrom_end {st : Cts} {n : Nat} : okFrom st n n = true := by simp [okFrom]
/-- What the model keeps: alone spots have degree 0. -/
def degC (st : Cts) (k : Nat) (i : Nat) : Int := if i < k ∧ st.A.getD i false = true then 0 else st.P.getD i 0
/-- The answer. -/
def sprC (s : Int) (X : List (List (List Int))) : Option Cts :=
  if 1 ≤ s ∧ s ≤ 20 ∧ 1 ≤ X.length then
    (regC s (Cts.zero s.toNat) X).bind fun st => if okFrom st s.toNat 0 = true then some st else none
  else none
def isSprB (s : Int) (X : List (List (List Int))) : Bool := (sprC s X).isSome

theorem put_len (st : Cts) (z : Int) (f : Bool) : (st.put z f).P.length = st.P.length ∧ (st.put z f).A.length = st.A.length := by simp [Cts.put]
def plV (st : Cts) (i : Nat) : Value := .int .i64 (st.P.getD i 0)
def alV (st : Cts) (i : Nat) : Value := .bool (st.A.getD i false)
theorem getD_set {α : Type} (l : List α) (i j : Nat) (x d : α) (hi : i < l.length) : (l.set i x).getD j d = if j = i then x else l.getD j d := by
  rw [List.getD_eq_getElem?_getD, List.getD_eq_getElem?_getD, List.getElem?_set]
  by_cases e : i = j
  · subst e
    rw [if_pos rfl, if_pos rfl, if_pos hi]
    rfl
  · rw [if_neg e, if_neg (fun x => e x.symm)]
theorem rowIs_block {W W' : World} {b : Nat} {t : TypeId} {n : Nat} {f : Nat → Value} (h : W.rowIs b t n f) (hb : W'.heap[b]? = W.heap[b]?) : W'.rowIs b t n f := by
  obtain ⟨c, hc, r⟩ := h
  exact ⟨c, hb.trans hc, r⟩
theorem rowIs_lt {W : World} {b : Nat} {t : TypeId} {n : Nat} {f : Nat → Value} (h : W.rowIs b t n f) : b < W.heap.size := by
  obtain ⟨c, hc, _⟩ := h
  exact block_lt hc
theorem rowIs_keep {W W' : World} {b : Nat} {t : TypeId} {n : Nat} {f : Nat → Value} (h : W.rowIs b t n f) (hb : Below W.heap.size W W') : W'.rowIs b t n f := rowIs_block h (hb.block b (rowIs_lt h))
/-- The two rows in memory, the first in block mp, the second in block ma, both of the call's own (from B on). -/
structure CtsAt (B mp ma s : Nat) (st : Cts) (W0 w : World) : Prop where
  p : w.rowIs mp 2 s (plV st)
  a : w.rowIs ma 4 s (alV st)
  lp : st.P.length = s
  la : st.A.length = s
  old : Below B W0 w
  bp : B ≤ mp
  ba : B ≤ ma
  ne : mp ≠ ma
theorem CtsAt.keep {B mp ma s : Nat} {st : Cts} {W0 w w' : World} (h : CtsAt B mp ma s st W0 w) (hb : Below w.heap.size w w') : CtsAt B mp ma s st W0 w' :=
  ⟨rowIs_keep h.p hb, rowIs_keep h.a hb, h.lp, h.la, h.old.trans (hb.mono (by have := rowIs_lt h.p; have := h.bp; omega)), h.bp, h.ba, h.ne⟩
theorem CtsAt.setP {B mp ma s : Nat} {st : Cts} {W0 w : World} (h : CtsAt B mp ma s st W0 w) {z : Nat} (hz : z < s) (v : Int) : CtsAt B mp ma s ⟨st.P.set z v, st.A⟩ W0 (w.setCell ⟨mp, z, none⟩ (.int .i64 v)) := by
  refine ⟨(h.p.set z (.int .i64 v)).congr (fun i _ => ?_), h.a.setOther (a := ⟨mp, z, none⟩) (fun e => h.ne e.symm) _, by simp [h.lp], h.la, h.old.setCell (p := ⟨mp, z, none⟩) h.bp _, h.bp, h.ba, h.ne⟩
  unfold plV
  rw [getD_set _ _ _ _ _ (by rw [h.lp]; exact hz)]
  split <;> rfl
theorem CtsAt.setA {B mp ma s : Nat} {st : Cts} {W0 w : World} (h : CtsAt B mp ma s st W0 w) {z : Nat} (hz : z < s) (v : Bool) : CtsAt B mp ma s ⟨st.P, st.A.set z v⟩ W0 (w.setCell ⟨ma, z, none⟩ (.bool v)) := by
  refine ⟨h.p.setOther (a := ⟨ma, z, none⟩) h.ne _, (h.a.set z (.bool v)).congr (fun i _ => ?_), h.lp, by simp [h.la], h.old.setCell (p := ⟨ma, z, none⟩) h.ba _, h.bp, h.ba, h.ne⟩
  unfold alV
  rw [getD_set _ _ _ _ _ (by rw [h.la]; exact hz)]
  split <;> rfl
theorem CtsAt.cellP {B mp ma s : Nat} {st : Cts} {W0 w : World} (h : CtsAt B mp ma s st W0 w) {z : Nat} (hz : z < s) : w.cell? ⟨mp, z, none⟩ = some (.int .i64 (st.P.getD z 0)) ∧ w.frozen? ⟨mp, z, none⟩ = false := ⟨h.p.cell hz, h.p.frozen z⟩
theorem CtsAt.cellA {B mp ma s : Nat} {st : Cts} {W0 w : World} (h : CtsAt B mp ma s st W0 w) {z : Nat} (hz : z < s) : w.cell? ⟨ma, z, none⟩ = some (.bool (st.A.getD z false)) ∧ w.frozen? ⟨ma, z, none⟩ = false := ⟨h.a.cell hz, h.a.frozen z⟩
/-- The rows behind the last look at the first q spots. -/
def dgS (st : Cts) (S q : Nat) : Cts := ⟨(List.range S).map (fun i => degC st q i), st.A⟩
theorem map_getD {S i : Nat} (f : Nat → Int) (hi : i < S) : ((List.range S).map f).getD i 0 = f i := by
  rw [List.getD_eq_getElem?_getD, List.getElem?_map, List.getElem?_range hi]
  rfl
theorem dgS_at {st : Cts} {S q i : Nat} (hi : i < S) : (dgS st S q).P.getD i 0 = degC st q i := map_getD _ hi
theorem degC_self (st : Cts) (q : Nat) : degC st q q = st.P.getD q 0 := by
  unfold degC
  rw [if_neg (by omega)]
theorem dgS_zero {st : Cts} {S : Nat} (h : st.P.length = S) : dgS st S 0 = st := by
  have : (List.range S).map (fun i => degC st 0 i) = st.P := by
    apply List.ext_getElem
    · simp [h]
    · intro i h1 h2
      simp [degC, List.getD_eq_getElem?_getD, List.getElem?_eq_getElem h2]
  unfold dgS
  rw [this]
theorem dgS_no {st : Cts} {S q : Nat} (h : st.A.getD q false = false) : dgS st S q = dgS st S (q + 1) := by
  have : (fun i => degC st q i) = fun i => degC st (q + 1) i := by
    funext i
    unfold degC
    by_cases e : i = q
    · subst e
      rw [if_neg (by omega), if_neg (by rw [h]; simp)]
    · by_cases h1 : i < q ∧ st.A.getD i false = true
      · rw [if_pos h1, if_pos ⟨by omega, h1.2⟩]
      · rw [if_neg h1, if_neg (fun x => h1 ⟨by omega, x.2⟩)]
  unfold dgS
  rw [this]
theorem dgS_yes {st : Cts} {S q : Nat} (hq : q < S) (h : st.A.getD q false = true) : (⟨(dgS st S q).P.set q 0, (dgS st S q).A⟩ : Cts) = dgS st S (q + 1) := by
  have : ((List.range S).map (fun i => degC st q i)).set q 0 = (List.range S).map (fun i => degC st (q + 1) i) := by
    apply List.ext_getElem
    · simp
    · intro i h1 h2
      rw [List.getElem_set]
      simp only [List.getElem_map, List.getElem_range]
      unfold degC
      by_cases e : q = i
      · subst e
        rw [if_pos rfl, if_pos ⟨by omega, h⟩]
      · rw [if_neg e]
        by_cases h1 : i < q ∧ st.A.getD i false = true
        · rw [if_pos h1, if_pos ⟨by omega, h1.2⟩]
        · rw [if_neg h1, if_neg (fun x => h1 ⟨by omega, x.2⟩)]
  unfold dgS
  rw [this]
theorem badC_low {st : Cts} {k : Nat} (h : st.P.getD k 0 < 1) : badC st k = true := by simp only [badC, decide_eq_true h, Bool.true_or]
theorem badC_high {st : Cts} {k : Nat} (h : 3 < st.P.getD k 0) : badC st k = true := by simp only [badC, decide_eq_true h, Bool.true_or, Bool.or_true]
theorem badC_alone {st : Cts} {k : Nat} (h : st.A.getD k false = true) (h2 : 1 < st.P.getD k 0) : badC st k = true := by simp only [badC, h, decide_eq_true h2, Bool.and_true, Bool.or_true]
theorem badC_ok {st : Cts} {k : Nat} (h1 : ¬ st.P.getD k 0 < 1) (h3 : ¬ 3 < st.P.getD k 0) (h : st.A.getD k false = true → ¬ 1 < st.P.getD k 0) : badC st k = false := by
  simp only [badC, decide_eq_false h1, decide_eq_false h3, Bool.false_or]
  cases ha : st.A.getD k false
  · rfl
  · rw [decide_eq_false (h ha)]; rfl
end Go.Proofs.Ytlllkmobhjlmoab
