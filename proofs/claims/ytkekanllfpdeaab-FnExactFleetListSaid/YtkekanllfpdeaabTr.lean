/-
  Seas: ships placed, as boxes of three numbers, and lists of them.
-/
import Derived.Test.YtkekanllfpdeaabFl
import Derived.Test.YtkekanllfpdeaabSa
import Derived.Deep.AppendLies
namespace Go.Proofs.Ytkekanllfpdeaab
open Go.RowKit
set_option linter.unusedVariables false

abbrev T3 := Int × Int × Int
def getT (t : T3) : Nat → Int | 0 => t.1 | 1 => t.2.1 | _ => t.2.2
def setT (t : T3) (z : Int) : Nat → T3 | 0 => (z, t.2.1, t.2.2) | 1 => (t.1, z, t.2.2) | _ => (t.1, t.2.1, z)
def padF (f : List Int) : T3 := (f.getD 0 0, f.getD 1 0, f.getD 2 0)
def cellsT (t : T3) : Array Value := #[.int .i64 t.1, .int .i64 t.2.1, .int .i64 t.2.2]
def valT (t : T3) : Value := .agg (cellsT t)
theorem padF_set {f : List Int} {z : Int} {k : Nat} (hk : k = f.length) (hl : f.length < 3) : setT (padF f) z k = padF (f ++ [z]) := by
  subst hk
  match f, hl with
  | [], _ => rfl
  | [a], _ => rfl
  | [a, b], _ => rfl
theorem padF_same {f : List Int} {z y : Int} {k : Nat} (hk : k = f.length) (hl : f.length < 3) : setT (padF (f ++ [y])) z k = padF (f ++ [z]) := by
  subst hk
  match f, hl with
  | [], _ => rfl
  | [a], _ => rfl
  | [a, b], _ => rfl
theorem getT_pad {f : List Int} {k : Nat} (hk : k < 3) : getT (padF f) k = f.getD k 0 := by
  match k, hk with
  | 0, _ => rfl
  | 1, _ => rfl
  | 2, _ => rfl
theorem padF_inj {f g : List Int} (hl : f.length = g.length) (h3 : f.length ≤ 3) (h : padF f = padF g) : f = g := by
  match f, g, hl, h3, h with
  | [], [], _, _, _ => rfl
  | [a], [b], _, _, h => simpa [padF] using h
  | [a, b], [c, d], _, _, h => simpa [padF] using h
  | [a, b, c], [d, e, g], _, _, h => simpa [padF] using h
def set3 (t : T3) : Int := orI (orI (orI 0 t.1) t.2.1) t.2.2
theorem set3_pad {f : List Int} (h3 : f.length ≤ 3) : set3 (padF f) = setL f := by
  match f, h3 with
  | [], _ => rfl
  | [a], _ => show orI (orI (orI 0 a) 0) 0 = orI 0 a; rw [orI_zero (orI_nonneg _ _), orI_zero (orI_nonneg _ _)]
  | [a, b], _ => show orI (orI (orI 0 a) b) 0 = orI (orI 0 a) b; rw [orI_zero (orI_nonneg _ _)]
  | [a, b, c], _ => rfl

/-! ### the box -/
theorem boxT {w : World} {b : Nat} {t : T3} {y : TypeId} (h : w.heap[b]? = some (.cells (cellsT t) y (0, 0))) :
    w.cell? ⟨b, 0, none⟩ = some (.int .i64 t.1) ∧ w.cell? ⟨b, 1, none⟩ = some (.int .i64 t.2.1) ∧ w.cell? ⟨b, 2, none⟩ = some (.int .i64 t.2.2) ∧ w.frozen? ⟨b, 0, none⟩ = false ∧ w.frozen? ⟨b, 1, none⟩ = false ∧ w.frozen? ⟨b, 2, none⟩ = false := row3' h
theorem boxT_get {w : World} {b k : Nat} {t : T3} {y : TypeId} (h : w.heap[b]? = some (.cells (cellsT t) y (0, 0))) (hk : k < 3) : w.cell? ⟨b, k, none⟩ = some (.int .i64 (getT t k)) ∧ w.frozen? ⟨b, k, none⟩ = false := by
  obtain ⟨c0, c1, c2, f0, f1, f2⟩ := boxT h
  match k, hk with
  | 0, _ => exact ⟨c0, f0⟩
  | 1, _ => exact ⟨c1, f1⟩
  | 2, _ => exact ⟨c2, f2⟩
theorem boxT_set {w : World} {b k : Nat} {t : T3} {y : TypeId} (z : Int) (h : w.heap[b]? = some (.cells (cellsT t) y (0, 0))) (hk : k < 3) : (w.setCell ⟨b, k, none⟩ (.int .i64 z)).heap[b]? = some (.cells (cellsT (setT t z k)) y (0, 0)) := by
  match k, hk with
  | 0, _ => exact box_set30 h
  | 1, _ => exact box_set31 h
  | 2, _ => exact box_set32 h

/-! ### lists -/
def flatT (fs : List T3) : List Value := fs.flatMap fun t => [.int .i64 t.1, .int .i64 t.2.1, .int .i64 t.2.2]
theorem flatT_snoc (fs : List T3) (t : T3) : flatT (fs ++ [t]) = flatT fs ++ [.int .i64 t.1, .int .i64 t.2.1, .int .i64 t.2.2] := by simp [flatT]
theorem flatT_len : ∀ fs : List T3, (flatT fs).length = fs.length * 3
  | [] => rfl
  | t :: fs => by
    have := flatT_len fs
    show ([_, _, _] ++ flatT fs).length = _
    simp
    omega
theorem flatT_get : ∀ (fs : List T3) (k : Nat) (t : T3), fs[k]? = some t → (flatT fs)[k * 3]? = some (.int .i64 t.1) ∧ (flatT fs)[k * 3 + 1]? = some (.int .i64 t.2.1) ∧ (flatT fs)[k * 3 + 2]? = some (.int .i64 t.2.2)
  | [], k, e, h => by simp at h
  | a :: fs, 0, e, h => by
    simp at h
    subst h
    exact ⟨rfl, rfl, rfl⟩
  | a :: fs, k + 1, e, h => by
    have ih := flatT_get fs k e (by simpa using h)
    have h0 : (k + 1) * 3 = k * 3 + 1 + 1 + 1 := by omega
    have h1 : (k + 1) * 3 + 1 = (k * 3 + 1) + 1 + 1 + 1 := by omega
    have h2 : (k + 1) * 3 + 2 = (k * 3 + 2) + 1 + 1 + 1 := by omega
    refine ⟨?_, ?_, ?_⟩
    · show ((Value.int .i64 a.1) :: (Value.int .i64 a.2.1) :: (Value.int .i64 a.2.2) :: flatT fs)[(k + 1) * 3]? = _
      rw [h0]
      simpa using ih.1
    · show ((Value.int .i64 a.1) :: (Value.int .i64 a.2.1) :: (Value.int .i64 a.2.2) :: flatT fs)[(k + 1) * 3 + 1]? = _
      rw [h1]
      simpa using ih.2.1
    · show ((Value.int .i64 a.1) :: (Value.int .i64 a.2.1) :: (Value.int .i64 a.2.2) :: flatT fs)[(k + 1) * 3 + 2]? = _
      rw [h2]
      simpa using ih.2.2

/-- The list of triples at the head of block g. -/
def TrisAt (w : World) (v : Value) (fs : List T3) : Prop := ∃ a c, v = .slice a fs.length c ∧ (fs ≠ [] → ∃ g, a = some ⟨g, 0, none⟩ ∧ ∀ k t, fs[k]? = some t → w.cell? ⟨g, k * 3, none⟩ = some (.int .i64 t.1) ∧ w.cell? ⟨g, k * 3 + 1, none⟩ = some (.int .i64 t.2.1) ∧ w.cell? ⟨g, k * 3 + 2, none⟩ = some (.int .i64 t.2.2))
theorem TrisAt.keep {w w' : World} {v : Value} {fs : List T3} (h : TrisAt w v fs) (hb : Below w.heap.size w w') : TrisAt w' v fs := by
  obtain ⟨a, c, hv, hc⟩ := h
  refine ⟨a, c, hv, fun hne => ?_⟩
  obtain ⟨g, ha, hg⟩ := hc hne
  refine ⟨g, ha, fun k t hk => ?_⟩
  obtain ⟨h0, h1, h2⟩ := hg k t hk
  exact ⟨cell_keep hb h0, cell_keep hb h1, cell_keep hb h2⟩
theorem TrisAt.one {w : World} {a : Option Addr} {c : Nat} {fs : List T3} (h : TrisAt w (.slice a fs.length c) fs) {k : Nat} (hk : k < fs.length) :
    ∃ g t, a = some ⟨g, 0, none⟩ ∧ Hid (fs[k]? = some t) ∧ w.cell? ⟨g, k * 3, none⟩ = some (.int .i64 t.1) ∧ w.cell? ⟨g, k * 3 + 1, none⟩ = some (.int .i64 t.2.1) ∧ w.cell? ⟨g, k * 3 + 2, none⟩ = some (.int .i64 t.2.2) := by
  obtain ⟨a', c', hv, hc⟩ := h
  cases hv
  obtain ⟨g, ha, hg⟩ := hc (by intro e; rw [e] at hk; simp at hk)
  obtain ⟨h0, h1, h2⟩ := hg k _ (List.getElem?_eq_getElem hk)
  exact ⟨g, fs[k], ha, hide (List.getElem?_eq_getElem hk), h0, h1, h2⟩
/-- A row of triples of the call's own, from block B on. -/
structure OwnsT (B : Nat) (W0 w : World) (v : Value) (fs : List T3) : Prop where
  own : w.ownsRow B 61 3 v fs.length (flatT fs)
  old : Below B W0 w
  size : B ≤ w.heap.size
theorem OwnsT.keep {B : Nat} {W0 w w' : World} {v : Value} {fs : List T3} (h : OwnsT B W0 w v fs) (hb : Below w.heap.size w w') : OwnsT B W0 w' v fs :=
  ⟨ownsRow_keep h.own hb, h.old.trans (hb.mono h.size), Nat.le_trans h.size hb.size⟩
theorem OwnsT.snoc {B : Nat} {W0 w2 w3 : World} {t : T3} {v v' : Value} {fs : List T3} (h : OwnsT B W0 w2 v fs) (hown : w3.ownsRow B 61 3 v' (fs.length + 1) (flatT fs ++ [.int .i64 t.1, .int .i64 t.2.1, .int .i64 t.2.2]))
    (hg : (w2.alloc (.cells (cellsT t) 61)).grownBy w3 v.ownBlock) : OwnsT B W0 w3 v' (fs ++ [t]) := by
  refine ⟨by rw [flatT_snoc]; simpa using hown, (h.old.alloc h.size _).grown hg (by have := h.size; simp; omega) (fun j hj => by have := (h.own.alloc (.cells (cellsT t) 61)).lt j hj; omega), ?_⟩
  have := hg.size
  have := h.size
  simp at *
  omega
theorem OwnsT.nil {B : Nat} {W0 w : World} (h : Below B W0 w) (hs : B ≤ w.heap.size) : OwnsT B W0 w (.slice none 0 0) [] := ⟨World.ownsRow_nil _ _ _ _, h, hs⟩
theorem OwnsT.at {B : Nat} {W0 w : World} {v : Value} {fs : List T3} (h : OwnsT B W0 w v fs) : TrisAt w v fs := by
  rcases h.own.2 with ⟨hv, hn⟩ | ⟨g, cap, cur, hv, _, hr, _, _, _, ht⟩
  · have : fs = [] := List.eq_nil_of_length_eq_zero hn
    subst this
    exact ⟨none, 0, hv, fun hne => absurd rfl hne⟩
  · refine ⟨_, cap, hv, fun hne => ⟨g, rfl, fun k t hk => ?_⟩⟩
    obtain ⟨a0, a1, a2⟩ := flatT_get fs k t hk
    have hkl := (List.getElem?_eq_some_iff.1 hk).1
    have hc : ∀ i u, i < fs.length * 3 → (flatT fs)[i]? = some u → w.cell? ⟨g, i, none⟩ = some u := fun i u hi hu => by
      rw [← ht, List.getElem?_take, if_pos hi] at hu
      rw [cell_of_row _ _ i _ _ (0, 0) hr]
      simpa using hu
    exact ⟨hc _ _ (by omega) a0, hc _ _ (by omega) a1, hc _ _ (by omega) a2⟩
theorem OwnsT.form {B : Nat} {W0 w : World} {v : Value} {fs : List T3} (h : OwnsT B W0 w v fs) : ∃ a c, v = .slice a fs.length c := by
  obtain ⟨a, c, hv, _⟩ := h.at
  exact ⟨a, c, hv⟩
theorem OwnsT.one {B : Nat} {W0 w : World} (t : T3) (h : Below B W0 w) (hs : B ≤ w.heap.size) : OwnsT B W0 (w.alloc (.cells (cellsT t) 61)) (.slice (some ⟨w.heap.size, 0, none⟩) 1 1) [t] :=
  ⟨⟨rfl, .inr ⟨w.heap.size, 1, cellsT t, rfl, hs, heap_alloc_new w _, Nat.le_refl _, by decide, rfl, rfl⟩⟩, h.alloc hs _, by simp; omega⟩
/-- What a call hands back that has made a list of triples of its own. -/
def NewT (fs : List T3) (W : World) (e : Ending) (W' : World) : Prop := ∃ v, e = .returned v ∧ OwnsT W.heap.size W W' v fs
theorem infoT : (Try.prog.info? 61).map (fun i => (i.zero, i.size, i.bytes)) = some (some (.agg #[.int .i64 0, .int .i64 0, .int .i64 0]), 3, 24) := by kernel_rfl
end Go.Proofs.Ytkekanllfpdeaab
