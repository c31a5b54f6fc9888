/-
  Ends of dots and boxes: plays by best openings and answers. Plain.
-/
import Derived.Test.YtbfpbkbhikogiaaBa
import Derived.Test.YtbfpbkbhikogiaaOr
namespace Go.Proofs.Ytbfpbkbhikogiaa
open Go.RowKit
set_option linter.unusedVariables false

def spB (L : List Nat) (p : Nat) : Bool := (ansB (knd p) (bxs p) (vT (decT L p))).2
def rowP (L : List Nat) (op : Int) : List Int := [knd (opT L), bxs (opT L), if spB L (opT L) = true then 1 else 0, op]
def nextP (L : List Nat) (op : Int) : Int := if spB L (opT L) = true then op else 1 - op
def playT : Nat → List Nat → Int → List (List Int)
  | 0, _, _ => []
  | n + 1, L, op => rowP L op :: playT n (decT L (opT L)) (nextP L op)
/-- The play of an ending. -/
def plays (L : List Nat) : List (List Int) := playT L.sum L 0
theorem playT_len : ∀ (n : Nat) (L : List Nat) (op : Int), (playT n L op).length = n
  | 0, _, _ => rfl
  | n + 1, L, op => by simp [playT, playT_len n]
theorem playT_rows : ∀ (n : Nat) (L : List Nat) (op : Int), ∀ zs ∈ playT n L op, zs.length = 4
  | 0, _, _, zs, h => by cases h
  | n + 1, L, op, zs, h => by
    rcases List.mem_cons.1 h with rfl | h
    · rfl
    · exact playT_rows n _ _ zs h
def op01 (op : Int) : Prop := op = 0 ∨ op = 1
theorem next01 {L : List Nat} {op : Int} (h : op01 op) : op01 (nextP L op) := by
  unfold nextP op01 at *
  split <;> omega
/-- What a play under way knows: what has been played, and what is to come. -/
structure Play (L0 : List Nat) (g : Nat) (L : List Nat) (op : Int) (xss : List (List Int)) : Prop where
  ok : okT L
  sum : L.sum = g
  o01 : op01 op
  all : xss ++ playT g L op = plays L0
theorem Play.start {L : List Nat} (h : okT L) : Play L L.sum L 0 [] := ⟨h, rfl, .inl rfl, rfl⟩
theorem Play.step {L0 : List Nat} {g : Nat} {L : List Nat} {op : Int} {xss : List (List Int)} (h : Play L0 (g + 1) L op xss) : Play L0 g (decT L (opT L)) (nextP L op) (xss ++ [rowP L op]) := by
  have hs := h.sum
  have hm := op_mem h.ok.1 (by omega)
  have hd := sum_dec L (opT L) hm.2
  refine ⟨h.ok.dec _ hm.2, by omega, next01 h.o01, ?_⟩
  rw [List.append_assoc]
  exact h.all
theorem Play.len {L0 : List Nat} {g : Nat} {L : List Nat} {op : Int} {xss : List (List Int)} (h : Play L0 g L op xss) : xss.length + g = L0.sum := by
  have := congrArg List.length h.all
  rw [List.length_append, playT_len] at this
  unfold plays at this
  rw [playT_len] at this
  exact this
/-- The plays, and a code. -/
def playR (cs ls : List Int) : List (List Int) × Int := if okEn cs ls = true then (plays (cntL cs ls), 0) else ([], 1)
theorem plays_small {L : List Nat} (h : okT L) : (∀ zs ∈ plays L, zs.length ≤ 4) ∧ (plays L).length ≤ 8 := by
  refine ⟨fun zs hz => Nat.le_of_eq (playT_rows _ _ _ zs hz), ?_⟩
  unfold plays
  rw [playT_len]
  exact h.2
theorem playR_small (cs ls : List Int) : (∀ zs ∈ (playR cs ls).1, zs.length ≤ 4) ∧ (playR cs ls).1.length ≤ 8 := by
  unfold playR
  cases hok : okEn cs ls
  · rw [if_neg (by simp)]
    exact ⟨fun zs hz => (by cases hz), by simp⟩
  · rw [if_pos rfl]
    dsimp only
    exact plays_small (okT_cnt hok)

/-- A list of rows that is handed back with a code. -/
def NewRows (xss : List (List Int)) (cd : Int) (w : World) (e : Ending) (w' : World) : Prop :=
  ∃ a c gs, e = .returned (.tuple #[.slice a xss.length c, .int .i64 cd]) ∧ OwnR w.heap.size w' (.slice a xss.length c) gs xss ∧ Below w.heap.size w w'
theorem OwnR.base {B B' : Nat} {w : World} {v : Value} {gs : List Nat} {xss : List (List Int)} (h : OwnR B w v gs xss) (hB : B' ≤ B) : OwnR B' w v gs xss :=
  ⟨h.len, ownsRow_base h.own hB, fun i g zs hi hz => ⟨by have := (h.rows i g zs hi hz).1; omega, (h.rows i g zs hi hz).2⟩, h.nod⟩
theorem OwnR.form {B : Nat} {w : World} {v : Value} {gs : List Nat} {xss : List (List Int)} (h : OwnR B w v gs xss) : ∃ a c, v = .slice a xss.length c := own_form h.own
/-- An ending's box is no list of numbers. -/
theorem ints_set {w : World} {X o : Nat} {x y u : Value} {t : TypeId} {a : Option Addr} {zs : List Int} (h : IntsAt w a zs) (hX : w.heap[X]? = some (.cells #[x, y] t (0, 0))) (hx : ∀ n, x ≠ .int .i64 n) (hy : ∀ n, y ≠ .int .i64 n) : IntsAt (w.setCell ⟨X, o, none⟩ u) a zs := by
  intro hne
  obtain ⟨b, off, rfl, hc⟩ := h hne
  have hbX : b ≠ X := by
    rintro rfl
    have hl : 0 < (zs.map intV).length := List.length_pos_iff.2 hne
    have h0 := hc 0 hl
    rw [cell_of_row _ _ _ _ _ (0, 0) hX] at h0
    cases zs with
    | nil => simp at hl
    | cons z r =>
      simp only [List.map_cons, List.getElem?_cons_zero, intV, Nat.add_zero] at h0
      match off, h0 with
      | 0, h0 => simp at h0; exact hx _ h0
      | 1, h0 => simp at h0; exact hy _ h0
      | _ + 2, h0 => simp at h0
  exact ⟨b, off, rfl, fun i hi => by rw [← hc i hi]; exact World.cell?_of_block (Below.heap_setCell _ _ _ _ hbX)⟩
end Go.Proofs.Ytbfpbkbhikogiaa
