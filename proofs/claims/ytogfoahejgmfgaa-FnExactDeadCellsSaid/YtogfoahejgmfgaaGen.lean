/-
  Words of this project's own on memory: a slice of int64 (bool) that reads as a list; a slice of slices. No walk stands here.
-/
import Derived.Test.YtogfoahejgmfgaaRows
import Derived.WalkKit
import Derived.ProofKit
import Derived.WalkSpells
import Derived.WalkLawsBesides
import Derived.Deep.QuietTactic
import Derived.BigQuiet
import Derived.Handy
import Derived.Maps.AppendAt
import Derived.Deep.OwnRows
namespace Go.Proofs.Ytogfoahejgmfgaa
open Go.RowKit

theorem own : ownKnob Try.prog.godebug = none := by kernel_rfl
theorem laidOut : laidOutB Try.prog = true := by kernel_rfl

/-- The cells from 'a' on hold 'vs'. -/
def CellsAt (w : World) (a : Option Addr) (vs : List Value) : Prop :=
  vs ≠ [] → ∃ b off, a = some ⟨b, off, none⟩ ∧ ∀ i, i < vs.length → w.cell? ⟨b, off + i, none⟩ = vs[i]?

def intV (n : Int) : Value := .int .i64 n
def boolV (b : Bool) : Value := .bool b

/-- The slice of int64 at 'a' reads as 'zs'. -/
def IntsAt (w : World) (a : Option Addr) (zs : List Int) : Prop := CellsAt w a (zs.map intV)
def BoolsAt (w : World) (a : Option Addr) (bs : List Bool) : Prop := CellsAt w a (bs.map boolV)

theorem CellsAt.nil (w : World) (a : Option Addr) : CellsAt w a [] := fun h => absurd rfl h

theorem CellsAt.lt {w : World} {a : Option Addr} {vs : List Value} (h : CellsAt w a vs) (hne : vs ≠ []) : ∃ b off, a = some ⟨b, off, none⟩ ∧ b < w.heap.size := by
  obtain ⟨b, off, rfl, hc⟩ := h hne
  have hl : 0 < vs.length := List.length_pos_iff.2 hne
  have h0 := hc 0 hl
  rw [List.getElem?_eq_getElem hl] at h0
  exact ⟨b, off, rfl, World.block_lt_of_cell? w ⟨b, off + 0, none⟩ h0⟩

theorem CellsAt.below {w w' : World} {B : Nat} {a : Option Addr} {vs : List Value} (h : CellsAt w a vs) (hb : Below B w w') (hB : ∀ b off, a = some ⟨b, off, none⟩ → b < B) : CellsAt w' a vs := by
  intro hne
  obtain ⟨b, off, rfl, hc⟩ := h hne
  exact ⟨b, off, rfl, fun i hi => by rw [hb.cell (p := ⟨b, off + i, none⟩) (hB b off rfl)]; exact hc i hi⟩

/-- What was there before is there behind. -/
theorem CellsAt.keep {w w' : World} {a : Option Addr} {vs : List Value} (h : CellsAt w a vs) (hb : Below w.heap.size w w') : CellsAt w' a vs := by
  intro hne
  obtain ⟨b, off, ha, hlt⟩ := h.lt hne
  subst ha
  exact h.below hb (fun b' off' e => by cases e; exact hlt) hne

theorem IntsAt.keep {w w' : World} {a : Option Addr} {zs : List Int} (h : IntsAt w a zs) (hb : Below w.heap.size w w') : IntsAt w' a zs := CellsAt.keep h hb

theorem map_intV_get (zs : List Int) (i : Nat) (hi : i < zs.length) : (zs.map intV)[i]? = some (.int .i64 (zs[i]?.getD 0)) := by
  simp [hi, intV]
theorem map_boolV_get (zs : List Bool) (i : Nat) (hi : i < zs.length) : (zs.map boolV)[i]? = some (.bool (zs[i]?.getD false)) := by
  simp [hi, boolV]

/-- Where there is an element: the address, and the cells in the walk's own spelling. -/
theorem IntsAt.get {w : World} {a : Option Addr} {zs : List Int} (h : IntsAt w a zs) {k : Nat} (hk : k < zs.length) :
    ∃ b off, a = some ⟨b, off, none⟩ ∧ ∀ i, i < zs.length → w.cell? ⟨b, off + i, none⟩ = some (.int .i64 (zs[i]?.getD 0)) := by
  obtain ⟨b, off, ha, hc⟩ := h (by intro e; have := congrArg List.length e; simp at this; subst this; simp at hk)
  exact ⟨b, off, ha, fun i hi => by rw [hc i (by simpa using hi), map_intV_get zs i hi]⟩
theorem BoolsAt.get {w : World} {a : Option Addr} {zs : List Bool} (h : BoolsAt w a zs) {k : Nat} (hk : k < zs.length) :
    ∃ b off, a = some ⟨b, off, none⟩ ∧ ∀ i, i < zs.length → w.cell? ⟨b, off + i, none⟩ = some (.bool (zs[i]?.getD false)) := by
  obtain ⟨b, off, ha, hc⟩ := h (by intro e; have := congrArg List.length e; simp at this; subst this; simp at hk)
  exact ⟨b, off, ha, fun i hi => by rw [hc i (by simpa using hi), map_boolV_get zs i hi]⟩

/-- One element, under a name of its own. -/
theorem IntsAt.one {w : World} {a : Option Addr} {zs : List Int} (h : IntsAt w a zs) {k : Nat} (hk : k < zs.length) :
    ∃ b off z, a = some ⟨b, off, none⟩ ∧ w.cell? ⟨b, off + k, none⟩ = some (.int .i64 z) ∧ Hid (zs[k]? = some z) := by
  obtain ⟨b, off, ha, hc⟩ := h.get hk
  exact ⟨b, off, zs[k], ha, by rw [hc k hk]; simp [hk], (List.getElem?_eq_getElem hk : zs[k]? = some zs[k])⟩
theorem BoolsAt.one {w : World} {a : Option Addr} {zs : List Bool} (h : BoolsAt w a zs) {k : Nat} (hk : k < zs.length) :
    ∃ b off z, a = some ⟨b, off, none⟩ ∧ w.cell? ⟨b, off + k, none⟩ = some (.bool z) ∧ Hid (zs[k]? = some z) := by
  obtain ⟨b, off, ha, hc⟩ := h.get hk
  exact ⟨b, off, zs[k], ha, by rw [hc k hk]; simp [hk], (List.getElem?_eq_getElem hk : zs[k]? = some zs[k])⟩

/-- What the call owns reads. -/
theorem cellsAt_of_ownsRow {w : World} {base : Nat} {e : TypeId} {a : Option Addr} {n c : Nat} {vs : List Value} (h : w.ownsRow base e 1 (.slice a n c) n vs) : CellsAt w a vs := by
  intro hne
  have hl := h.1
  rcases h.2 with ⟨h', hn⟩ | ⟨g', cap', cur, h', hb, hg, hnc, hcm, hcs, htake⟩
  · subst hn
    simp at hl
    exact absurd hl hne
  · have h'' := h'
    simp only [Value.slice.injEq, true_and] at h'
    obtain ⟨rfl, rfl⟩ := h'
    refine ⟨g', 0, rfl, fun i hi => ?_⟩
    rw [Nat.zero_add]
    exact h.cellAt i (by omega)

theorem intsAt_of_ownsRow {w : World} {base : Nat} {e : TypeId} {a : Option Addr} {n c : Nat} {zs : List Int} (h : w.ownsRow base e 1 (.slice a n c) n (zs.map intV)) : IntsAt w a zs := cellsAt_of_ownsRow h

/-- A row whose cells are known one by one is owned. -/
theorem rowIs_owns {w : World} {base b : Nat} {t : TypeId} {n : Nat} {f : Nat → Value} {vs : List Value} (h : w.rowIs b t n f) (hb : base ≤ b) (hn : n ≤ maxLen) (hv : vs.length = n) (hf : ∀ i, i < n → vs[i]? = some (f i)) :
    w.ownsRow base t 1 (.slice (some ⟨b, 0, none⟩) n n) n vs := by
  obtain ⟨c, hc, hs, hi⟩ := h
  refine ⟨by simpa using hv, .inr ⟨b, n, c, rfl, hb, hc, Nat.le_refl _, hn, by simpa using hs, ?_⟩⟩
  rw [Nat.mul_one, List.take_of_length_le (by simp [hs])]
  apply List.ext_getElem?
  intro i
  by_cases hin : i < n
  · rw [hf i hin, ← hi i hin]; simp
  · rw [List.getElem?_eq_none (by simp [hs]; omega), List.getElem?_eq_none (by omega)]

theorem ownsRow_base {w : World} {base base' : Nat} {e : TypeId} {size : Nat} {v : Value} {n : Nat} {xs : List Value} (h : w.ownsRow base e size v n xs) (hb : base' ≤ base) : w.ownsRow base' e size v n xs := by
  refine ⟨h.1, ?_⟩
  rcases h.2 with h2 | ⟨g, cap, cur, hv, hg, r⟩
  · exact .inl h2
  · exact .inr ⟨g, cap, cur, hv, by omega, r⟩
theorem below_grownBy {w w' : World} (h : Below w.heap.size w w') : w.grownBy w' none := ⟨h.os, h.tape, h.output, h.size, fun k hk _ => h.block k hk⟩
/-- What is owned stays owned behind a call that turns nothing that was there. -/
theorem ownsRow_keep {w w' : World} {base : Nat} {e : TypeId} {size : Nat} {v : Value} {n : Nat} {xs : List Value} (h : w.ownsRow base e size v n xs) (hb : Below w.heap.size w w') : w'.ownsRow base e size v n xs :=
  h.kept (below_grownBy hb) (by cases v.ownBlock <;> simp)

theorem quiet_below {B : Nat} {w w' : World} (h : ∃ m, w' = w.drewN m) : Below B w w' := by
  obtain ⟨m, rfl⟩ := h
  exact below_drewN (Below.refl _ _) m

/-- 'make([]T, n)' at the operation, the world behind it a variable. -/
theorem wpList_make_fresh {P : Program} (w : World) {ops : Array Oper} {rest : List Oper} {o : Oper} {a : Act} {Q : Exit → Act → World → Prop}
    (hg : o.guard = none) (l c : Operand) (t : TypeId) (hop : o.op = Op.makeSlice t l c)
    (e : TypeId) (z : Value) (bytes : Nat) (ht : P.underlying t = some (.slice e)) (hinfo : (P.info? e).map (fun i => (i.zero, i.size, i.bytes)) = some (some z, 1, bytes)) (hz1 : z.cells = #[z])
    (kl kc : IntKind) (n : Nat) (hl : a.eval l = .int kl n) (hc : a.eval c = .int kc n) (b2 : bytes * n ≤ 281474976710656) (b3 : n ≤ 9223372036854775807)
    (hK : ∀ w', w'.rowIs w.heap.size e n (fun _ => z) → Below w.heap.size w w' → wpList P ops Q rest (a.put o.dst (.slice (some ⟨w.heap.size, 0, none⟩) n n)) w') :
    wpList P ops Q (o :: rest) a w := by
  refine wpList_plain hg fun K hK' => ?_
  have hrun := run_make_row' (P := P) t e z bytes ht hinfo hz1 kl kc n b2 b3 w
  unfold Oper.wp
  simp [execOp, hop, hl, hc, hrun, Result.andThen]
  exact hK' _ _ (hK _ (World.rowIs_made w z n e) ((Below.refl _ _).alloc (Nat.le_refl _) _))

theorem hide {p : Prop} (h : p) : Hid p := h

/-- 'w'' is w after some draws'. -/
def Quiet (w w' : World) : Prop := ∃ m, w' = w.drewN m
theorem Quiet.refl (w : World) : Quiet w w := ⟨0, rfl⟩
theorem Quiet.drewN {w w' : World} (h : Quiet w w') (n : Nat) : Quiet w (w'.drewN n) := by
  obtain ⟨m, rfl⟩ := h
  exact ⟨m + n, World.drewN_drewN _ _ _⟩
theorem Quiet.trans {w w' w'' : World} (h : Quiet w w') (k : Quiet w' w'') : Quiet w w'' := by
  obtain ⟨n, rfl⟩ := k
  exact h.drewN n
theorem Quiet.below {B : Nat} {w w' : World} (h : Quiet w w') : Below B w w' := quiet_below h

theorem cell_keep {w w' : World} (h : Below w.heap.size w w') {p : Addr} {v : Value} (hc : w.cell? p = some v) : w'.cell? p = some v :=
  (h.cell (World.block_lt_of_cell? w p hc)).trans hc

theorem Below.alloc' {w w' : World} (h : Below w.heap.size w w') (o : Obj) : Below w.heap.size w (w'.alloc o) := h.alloc h.size o

theorem Below.trans' {a b c : World} (h : Below a.heap.size a b) (k : Below b.heap.size b c) : Below a.heap.size a c := h.trans (k.mono h.size)

/-- What an int64 can be. -/
def I64 (n : Int) : Prop := -9223372036854775808 ≤ n ∧ n ≤ 9223372036854775807

/-- A slice of int64 that came in, as the row's reading gives it. -/
theorem intsAt_of_row {w : World} {a : Option Addr} {len cap : Nat} {zs : List Int}
    (h : (a = none ∧ len = 0 ∧ cap = 0 ∧ zs = []) ∨
      ∃ x, a = some x ∧ len ≤ cap ∧ cap ≤ maxLen ∧ zs.length = cap ∧ (∀ i, i < zs.length → w.cell? (x.add i) = some (.int .i64 (zs.getD i 0))) ∧ ∀ n ∈ zs, (Lit.int .i64 n).wf = true) :
    IntsAt w a (zs.take len) ∧ (zs.take len).length = len ∧ len ≤ maxLen := by
  rcases h with ⟨rfl, rfl, rfl, rfl⟩ | ⟨x, rfl, hl, hm, hz, hcell, hwz⟩
  · exact ⟨CellsAt.nil _ _, rfl, by unfold maxLen; omega⟩
  · refine ⟨fun hne => ?_, by simp; omega, by omega⟩
    have hlen : 0 < len := by
      rcases Nat.eq_zero_or_pos len with e | e
      · subst e; simp at hne
      · exact e
    obtain ⟨b, off, spot⟩ := x
    have hc := hcell 0 (by omega)
    have hspot : spot = none := by simpa [Addr.add] using World.cell?_spot hc
    subst hspot
    refine ⟨b, off, rfl, fun i hi => ?_⟩
    have hi' : i < len := by simp at hi; omega
    have := hcell i (by omega)
    have h2 : ((zs.take len).map intV)[i]? = some (.int .i64 (zs.getD i 0)) := by
      simp [hi', intV, show i < zs.length by omega]
    rw [h2, ← this]
    simp only [Addr.add]
    split
    · rename_i e; subst e; simp
    · simp

/-- What a call hands back that has made a list of its own. -/
def NewInts (zs : List Int) (w : World) (e : Ending) (w' : World) : Prop :=
  ∃ g c, e = .returned (.slice (some ⟨g, 0, none⟩) zs.length c) ∧ w'.ownsRow w.heap.size 2 1 (.slice (some ⟨g, 0, none⟩) zs.length c) zs.length (zs.map intV) ∧ Below w.heap.size w w'

theorem Try.info2 : (Try.prog.info? 2).map (fun i => (i.zero, i.size, i.bytes)) = some (some (.int .i64 0), 1, 8) := by kernel_rfl

end Go.Proofs.Ytogfoahejgmfgaa
