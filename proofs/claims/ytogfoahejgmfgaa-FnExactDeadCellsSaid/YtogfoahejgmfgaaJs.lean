/-
  Boards of hexagons: who joins, the model's text (a search by a queue).
-/
import Derived.Test.YtogfoahejgmfgaaHn
import Derived.Test.YtogfoahejgmfgaaMr
import Derived.Deep.LoopGhost
import Derived.Maps.AppendAt
namespace Go.Proofs.Ytogfoahejgmfgaa
open Go.RowKit
set_option linter.unusedVariables false

/-! ### plain -/
def cntT : List Bool → Nat
  | [] => 0
  | true :: t => cntT t + 1
  | false :: t => cntT t
theorem cntT_le : ∀ t : List Bool, cntT t ≤ t.length
  | [] => Nat.le_refl _
  | true :: t => by have := cntT_le t; simp [cntT]; omega
  | false :: t => by have := cntT_le t; simp [cntT]; omega
theorem cntT_set : ∀ (t : List Bool) (i : Nat), t[i]? = some false → cntT (t.set i true) = cntT t + 1
  | [], i, h => by simp at h
  | b :: t, 0, h => by simp at h; subst h; simp [cntT]
  | b :: t, i + 1, h => by
    have ih := cntT_set t i (by simpa using h)
    cases b <;> simp only [List.set_cons_succ, cntT, ih]
theorem cntT_rep (k : Nat) : cntT (List.replicate k false) = 0 := by
  induction k with
  | zero => rfl
  | succ k ih => simp [List.replicate_succ, cntT, ih]
def mtA (M : List Bool) (c : Int) : Bool := M.getD c.toNat false
theorem mtA_set {M : List Bool} {c : Int} (h0 : 0 ≤ c) (hc : c < M.length) (b : Int) (hb : 0 ≤ b) : mtA (M.set c.toNat true) b = if b = c then true else mtA M b := by
  unfold mtA
  rw [List.getD_eq_getElem?_getD, List.getD_eq_getElem?_getD, List.getElem?_set]
  by_cases e : b = c
  · subst e
    rw [if_pos rfl, if_pos rfl, if_pos (by omega)]
    rfl
  · rw [if_neg (by omega), if_neg e]
/-- What the search knows: the cells met are those of the queue, each led to by a way without empty cells. -/
structure Bfs (n : Int) (cs : List Int) (p : Int) (M : List Bool) (Q : List Int) : Prop where
  len : (M.length : Int) = n * n
  cnt : Q.length = cntT M
  met : ∀ c, 0 ≤ c → mtA M c = true → c ∈ Q
  way : ∀ c ∈ Q, 0 ≤ c ∧ c < n * n ∧ Way n cs p c 0
theorem Bfs.nil {n : Int} {cs : List Int} {p : Int} {k : Nat} (h : (k : Int) = n * n) : Bfs n cs p (List.replicate k false) [] := by
  refine ⟨by simpa using h, by rw [cntT_rep]; rfl, fun c _ hc => ?_, fun c hc => by simp at hc⟩
  unfold mtA at hc
  rw [List.getD_eq_getElem?_getD, List.getElem?_replicate] at hc
  split at hc <;> simp at hc
theorem Bfs.push {n : Int} {cs : List Int} {p c : Int} {M : List Bool} {Q : List Int} (h : Bfs n cs p M Q) (h0 : 0 ≤ c) (h1 : c < n * n) (hm : mtA M c = false) (hw : Way n cs p c 0) : Bfs n cs p (M.set c.toNat true) (Q ++ [c]) := by
  have hl := h.len
  have hc : c.toNat < M.length := by omega
  have hg : M[c.toNat]? = some false := by
    rw [List.getElem?_eq_getElem hc]
    unfold mtA at hm
    rw [List.getD_eq_getElem?_getD, List.getElem?_eq_getElem hc] at hm
    simpa using hm
  refine ⟨by rw [List.length_set]; exact hl, by rw [List.length_append, cntT_set M _ hg, h.cnt]; rfl, fun b hb hbm => ?_, fun b hb => ?_⟩
  · rw [mtA_set h0 (by omega) b hb] at hbm
    split at hbm
    · rename_i e; subst e; simp
    · exact List.mem_append_left _ (h.met b hb hbm)
  · rw [List.mem_append] at hb
    rcases hb with hb | hb
    · exact h.way b hb
    · simp at hb; subst hb; exact ⟨h0, h1, hw⟩
theorem Bfs.le {n : Int} {cs : List Int} {p : Int} {M : List Bool} {Q : List Int} (h : Bfs n cs p M Q) : (Q.length : Int) ≤ n * n := by
  have := cntT_le M
  have := h.cnt
  have := h.len
  omega
theorem fH_zero {cs : List Int} {p c : Int} (hp : p ≠ 0) : fH cs p c = some 0 ↔ hexAt cs c = p := by
  unfold fH
  by_cases h : hexAt cs c = 0
  · rw [if_pos h]
    constructor
    · intro e; simp at e
    · intro e; exact absurd (e.symm.trans h) hp
  · rw [if_neg h]
    by_cases h2 : hexAt cs c = p
    · simp [h2]
    · simp [h2]
/-- A closed queue has all that is led to. -/
theorem way_closed {n : Int} {cs : List Int} {p : Int} {Q : List Int} (hp : p ≠ 0) (hst : ∀ c, 0 ≤ c → c < n * n → begH n p c = true → hexAt cs c = p → c ∈ Q) (hcl : ∀ b ∈ Q, ∀ c ∈ near n b, hexAt cs c = p → c ∈ Q) {c : Int} (h : Way n cs p c 0) : c ∈ Q := by
  refine Way.ind (motive := fun c k => k = 0 → c ∈ Q) ?_ ?_ h rfl
  · intro c k h0 h1 h2 h3 hk
    subst hk
    exact hst c h0 h1 h2 ((fH_zero hp).1 h3)
  · intro b c j i _ h1 h2 ih hk
    have hj : j = 0 := by omega
    have hi : i = 0 := by omega
    subst hi
    exact hcl b (ih hj) c h1 ((fH_zero hp).1 h2)
theorem jns_no {n : Int} {cs : List Int} {p : Int} {Q : List Int} (hp : p ≠ 0) (hst : ∀ c, 0 ≤ c → c < n * n → begH n p c = true → hexAt cs c = p → c ∈ Q) (hcl : ∀ b ∈ Q, endH n p b = false ∧ ∀ c ∈ near n b, hexAt cs c = p → c ∈ Q) : jnsB n cs p = false := by
  cases hj : jnsB n cs p with
  | false => rfl
  | true =>
    obtain ⟨c, he, hw⟩ := jns_iff.1 hj
    have hc := way_closed hp hst (fun b hb => (hcl b hb).2) hw
    rw [(hcl c hc).1] at he
    cases he
def stH (n p k : Int) : Int := if p = 2 then n * k else k
theorem stH_in {n p k : Int} (hn : 1 ≤ n) (h0 : 0 ≤ k) (h1 : k < n) : 0 ≤ stH n p k ∧ stH n p k < n * n := by
  unfold stH
  split
  · have := row_lt (n := n) (y := k) (x := 0) h0 h1 (by omega) (by omega)
    omega
  · have := row_lt (n := n) (y := 0) (x := k) (by omega) (by omega) h0 h1
    simp at this
    omega
theorem stH_beg {n p k : Int} (hn : 1 ≤ n) (h0 : 0 ≤ k) (h1 : k < n) (hp : p = 1 ∨ p = 2) : begH n p (stH n p k) = true := by
  rcases hp with rfl | rfl
  · have : k / n = 0 := Int.ediv_eq_zero_of_lt h0 h1
    simp [begH, stH, this]
  · simp [begH, stH]
theorem beg_stH {n p c : Int} (hn : 1 ≤ n) (h0 : 0 ≤ c) (h1 : c < n * n) (hp : p = 1 ∨ p = 2) (hb : begH n p c = true) : ∃ k, 0 ≤ k ∧ k < n ∧ c = stH n p k := by
  obtain ⟨k1, k2, k3, k4, k5⟩ := cell_rc hn h0 h1
  rcases hp with rfl | rfl
  · have : c / n = 0 := by simpa [begH] using hb
    refine ⟨c % n, k3, k4, ?_⟩
    rw [this] at k5
    simp [stH]
    omega
  · have : c % n = 0 := by simpa [begH] using hb
    refine ⟨c / n, k1, k2, ?_⟩
    rw [this] at k5
    simp [stH]
    omega
theorem stH_inj {n p j k : Int} (hn : 1 ≤ n) (h : stH n p j = stH n p k) : j = k := by
  unfold stH at h
  split at h
  · exact Int.eq_of_mul_eq_mul_left (by omega) h
  · exact h

/-! ### memory -/
theorem info_bool : (Try.prog.info? 4).map (fun i => (i.zero, i.size, i.bytes)) = some (some (.bool false), 1, 1) := by kernel_rfl
def metV (M : List Bool) (i : Nat) : Value := .bool (M.getD i false)
/-- The row of what has been met, and the queue. -/
def JS (m L : Nat) (M : List Bool) (Q : List Int) (v : Value) (W0 W : World) : Prop :=
  W.rowIs m 4 L (metV M) ∧ W.ownsRow (m + 1) 2 1 v Q.length (Q.map intV) ∧ m + 1 ≤ W.heap.size ∧ Below m W0 W
theorem JS.keep {m L : Nat} {M : List Bool} {Q : List Int} {v : Value} {W0 W W' : World} (h : JS m L M Q v W0 W) (hb : Below W.heap.size W W') : JS m L M Q v W0 W' :=
  ⟨rowIs_keep h.1 hb, ownsRow_keep h.2.1 hb, by have := hb.size; have := h.2.2.1; omega, h.2.2.2.trans (hb.mono (by have := h.2.2.1; omega))⟩
theorem JS.set {m L : Nat} {M : List Bool} {Q : List Int} {v : Value} {W0 W : World} (h : JS m L M Q v W0 W) {c : Nat} (hc : c < M.length) : JS m L (M.set c true) Q v W0 (W.setCell ⟨m, c, none⟩ (.bool true)) := by
  obtain ⟨h1, h2, h3, h4⟩ := h
  refine ⟨(h1.set c (.bool true)).congr (fun i _ => ?_), ownsRow_setCell_below h2 (a := ⟨m, c, none⟩) (show m < m + 1 by omega) _, by simpa [World.setCell] using h3, h4.setCell (p := ⟨m, c, none⟩) (Nat.le_refl _) _⟩
  unfold metV
  rw [List.getD_eq_getElem?_getD, List.getD_eq_getElem?_getD, List.getElem?_set]
  by_cases e : i = c
  · subst e
    rw [if_pos rfl, if_pos rfl, if_pos hc]
    rfl
  · rw [if_neg e, if_neg (fun x => e x.symm)]
theorem JS.snoc {m L : Nat} {M : List Bool} {Q : List Int} {v v' : Value} {W0 W w3 : World} {z : Int} (h : JS m L M Q v W0 W) (hown : w3.ownsRow (m + 1) 2 1 v' (Q.length + 1) (Q.map intV ++ [.int .i64 z]))
    (hg : (W.alloc (.cells #[.int .i64 z] 2)).grownBy w3 v.ownBlock) : JS m L M (Q ++ [z]) v' W0 w3 := by
  obtain ⟨h1, h2, h3, h4⟩ := h
  have hne : ∀ k, k < m + 1 → w3.heap[k]? = W.heap[k]? := fun k hk => (hg.block k (by simp; omega) (fun e => by have := (h2.lt k e.symm).1; omega)).trans (Below.heap_alloc _ _ _ (by omega))
  refine ⟨rowIs_block h1 (hne m (by omega)), by simpa [intV] using hown, by have := hg.size; simp at this; omega, h4.trans ⟨hg.os, hg.tape, hg.output, by have := hg.size; simp at this; omega, fun k hk => hne k (by omega)⟩⟩


/-! ### two stretches of blocks -/
/-- The blocks from lo to hi are as they were. -/
def KR (lo hi : Nat) (w w' : World) : Prop := hi ≤ w'.heap.size ∧ ∀ k, lo ≤ k → k < hi → w'.heap[k]? = w.heap[k]?
def Outw (lo hi : Nat) (v : Value) : Prop := ∀ g, v.ownBlock = some g → g < lo ∨ hi ≤ g
theorem KR.refl {lo hi : Nat} {w : World} (h : hi ≤ w.heap.size) : KR lo hi w w := ⟨h, fun _ _ _ => rfl⟩
theorem KR.below {lo hi : Nat} {w a b : World} (h : KR lo hi w a) (hb : Below a.heap.size a b) : KR lo hi w b := ⟨Nat.le_trans h.1 hb.size, fun k h1 h2 => (hb.block k (by have := h.1; omega)).trans (h.2 k h1 h2)⟩
theorem KR.set {lo hi : Nat} {w a : World} {m o : Nat} (h : KR lo hi w a) (hm : m < lo) (u : Value) : KR lo hi w (a.setCell ⟨m, o, none⟩ u) :=
  ⟨by simpa [World.setCell] using h.1, fun k h1 h2 => (heap_setCell_other a ⟨m, o, none⟩ k u (show k ≠ m by omega)).trans (h.2 k h1 h2)⟩
theorem KR.grown {lo hi : Nat} {w a b : World} {v : Value} (h : KR lo hi w a) (hg : a.grownBy b v.ownBlock) (hv : Outw lo hi v) : KR lo hi w b :=
  ⟨Nat.le_trans h.1 hg.size, fun k h1 h2 => (hg.block k (by have := h.1; omega) (fun e => by have := hv k e.symm; omega)).trans (h.2 k h1 h2)⟩
theorem KR.ints {lo hi : Nat} {w a : World} {av : Option Addr} {zs : List Int} (h : KR lo hi w a) (hz : IntsAt w av zs) (h1 : ∀ g off, av = some ⟨g, off, none⟩ → lo ≤ g) (h2 : ∀ g off, av = some ⟨g, off, none⟩ → g < hi) : IntsAt a av zs := by
  intro hne
  obtain ⟨b, off, rfl, hc⟩ := hz hne
  exact ⟨b, off, rfl, fun i hi => (World.cell?_of_block (h.2 b (h1 b off rfl) (h2 b off rfl))).trans (hc i hi)⟩
theorem Outw.next {lo hi s : Nat} {v v' : Value} (h : Outw lo hi v) (hs : hi ≤ s) (hat : v'.ownBlock = v.ownBlock ∨ v'.ownBlock = some s) : Outw lo hi v' := by
  intro g hg
  rcases hat with e | e
  · exact h g (e ▸ hg)
  · rw [e] at hg; cases hg; exact Or.inr hs
theorem own_in {w : World} {base n c : Nat} {e : TypeId} {size : Nat} {a : Option Addr} {xs : List Value} (h : w.ownsRow base e size (.slice a n c) n xs) : ∀ g off, a = some ⟨g, off, none⟩ → base ≤ g ∧ g < w.heap.size := fun g off hg => h.lt g (slice_block hg)

theorem cell_one_set (w : World) (a : Addr) (u x : Value) (t : TypeId) : ∀ j y, [x][j]? = some y → ((w.setCell a u).alloc (.cells #[x] t)).cell? ((⟨w.heap.size, 0, none⟩ : Addr).add j) = some y := by
  intro j y hj
  have h := cell_one_new (w.setCell a u) x t j y hj
  have e : (w.setCell a u).heap.size = w.heap.size := by simp [World.setCell]
  rw [e] at h
  exact h
theorem cell_set_far (w : World) {b m o k : Nat} (h : m ≠ b) (u : Value) : (w.setCell ⟨m, o, none⟩ u).cell? ⟨b, k, none⟩ = w.cell? ⟨b, k, none⟩ :=
  World.cell?_of_block (heap_setCell_other w ⟨m, o, none⟩ b u (fun e => h e.symm))
/-! ### the rounds -/
def St1 (n : Int) (cs : List Int) (p : Int) (k : Nat) (Q : List Int) : Prop := (∀ j : Nat, j < k → hexAt cs (stH n p j) = p → stH n p j ∈ Q) ∧ ∀ c ∈ Q, ∃ j : Nat, j < k ∧ c = stH n p j
theorem St1.nil (n : Int) (cs : List Int) (p : Int) : St1 n cs p 0 [] := ⟨fun j hj => by omega, fun c hc => by simp at hc⟩
theorem St1.no {n : Int} {cs : List Int} {p : Int} {k : Nat} {Q : List Int} (h : St1 n cs p k Q) (hz : hexAt cs (stH n p k) ≠ p) : St1 n cs p (k + 1) Q := by
  refine ⟨fun j hj hjp => ?_, fun c hc => ?_⟩
  · by_cases e : j = k
    · subst e; exact absurd hjp hz
    · exact h.1 j (by omega) hjp
  · obtain ⟨j, hj, e⟩ := h.2 c hc
    exact ⟨j, by omega, e⟩
theorem St1.yes {n : Int} {cs : List Int} {p : Int} {k : Nat} {Q : List Int} (h : St1 n cs p k Q) : St1 n cs p (k + 1) (Q ++ [stH n p k]) := by
  refine ⟨fun j hj hjp => ?_, fun c hc => ?_⟩
  · by_cases e : j = k
    · subst e; simp
    · exact List.mem_append_left _ (h.1 j (by omega) hjp)
  · rw [List.mem_append] at hc
    rcases hc with hc | hc
    · obtain ⟨j, hj, e⟩ := h.2 c hc
      exact ⟨j, by omega, e⟩
    · simp at hc
      exact ⟨k, by omega, hc⟩
theorem St1.new {n : Int} {cs : List Int} {p : Int} {k : Nat} {M : List Bool} {Q : List Int} (hn : 1 ≤ n) (h : St1 n cs p k Q) (hB : Bfs n cs p M Q) (h0 : 0 ≤ stH n p k) : mtA M (stH n p k) = false := by
  cases hm : mtA M (stH n p k) with
  | false => rfl
  | true =>
    obtain ⟨j, hj, e⟩ := h.2 _ (hB.met _ h0 hm)
    have := stH_inj hn e
    omega
/-- All starts are in the queue; what has been gone over asks nothing more. -/
def St2 (n : Int) (cs : List Int) (p : Int) (a : Nat) (Q : List Int) : Prop := (∀ c, 0 ≤ c → c < n * n → begH n p c = true → hexAt cs c = p → c ∈ Q) ∧ ∀ b ∈ Q.take a, endH n p b = false ∧ ∀ c ∈ near n b, hexAt cs c = p → c ∈ Q
theorem St1.st2 {N : Nat} {cs : List Int} {p : Int} {Q : List Int} (hN : 1 ≤ N) (hp : p = 1 ∨ p = 2) (h : St1 N cs p N Q) : St2 N cs p 0 Q := by
  refine ⟨fun c c0 c1 hb hc => ?_, fun b hb => by simp at hb⟩
  obtain ⟨k, k0, k1, rfl⟩ := beg_stH (by omega) c0 c1 hp hb
  obtain ⟨j, rfl⟩ := Int.eq_ofNat_of_zero_le k0
  exact h.1 j (by omega) hc
/-- In the round of the cell z: of its neighbours those of l have been gone over. -/
def St3 (n : Int) (cs : List Int) (p : Int) (a : Nat) (l : List Int) (Q : List Int) : Prop := St2 n cs p a Q ∧ ∀ c ∈ l, hexAt cs c = p → c ∈ Q
theorem St3.push {n : Int} {cs : List Int} {p : Int} {a : Nat} {l Q : List Int} {x : Int} (h : St3 n cs p a l Q) (ha : a ≤ Q.length) : St3 n cs p a (l ++ [x]) (Q ++ [x]) := by
  refine ⟨⟨fun c c0 c1 hb hc => List.mem_append_left _ (h.1.1 c c0 c1 hb hc), fun b hb => ?_⟩, fun c hc hp => ?_⟩
  · rw [List.take_append_of_le_length ha] at hb
    obtain ⟨h1, h2⟩ := h.1.2 b hb
    exact ⟨h1, fun c hc hp => List.mem_append_left _ (h2 c hc hp)⟩
  · rw [List.mem_append] at hc
    rcases hc with hc | hc
    · exact List.mem_append_left _ (h.2 c hc hp)
    · simp at hc; subst hc; simp
theorem St3.skip {n : Int} {cs : List Int} {p : Int} {a : Nat} {l Q : List Int} {x : Int} (h : St3 n cs p a l Q) (hx : hexAt cs x = p → x ∈ Q) : St3 n cs p a (l ++ [x]) Q := by
  refine ⟨h.1, fun c hc hp => ?_⟩
  rw [List.mem_append] at hc
  rcases hc with hc | hc
  · exact h.2 c hc hp
  · simp at hc; subst hc; exact hx hp
theorem St3.done {n : Int} {cs : List Int} {p : Int} {a : Nat} {Q Q' : List Int} {z : Int} (h : St3 n cs p a (near n z) Q) (hz : Q[a]? = some z) (he : endH n p z = false) : St2 n cs p (a + 1) Q := by
  refine ⟨h.1.1, fun b hb => ?_⟩
  rw [List.take_add_one, hz, List.mem_append] at hb
  rcases hb with hb | hb
  · exact h.1.2 b hb
  · simp at hb; subst hb; exact ⟨he, h.2⟩
theorem Bfs.get {n : Int} {cs : List Int} {p : Int} {M : List Bool} {Q : List Int} (h : Bfs n cs p M Q) {k : Nat} {z : Int} (hz : Q[k]? = some z) : 0 ≤ z ∧ z < n * n ∧ Way n cs p z 0 := h.way z (mem_of_get hz)
theorem JS.met {m L : Nat} {M : List Bool} {Q : List Int} {v : Value} {W0 W : World} (h : JS m L M Q v W0 W) {c : Nat} (hc : c < L) : W.cell? ⟨m, c, none⟩ = some (.bool (mtA M (c : Int))) ∧ W.frozen? ⟨m, c, none⟩ = false := by
  obtain ⟨h1, h2⟩ := rowIs_cell h.1 hc
  exact ⟨h1, h2⟩
theorem JS.setm {m L : Nat} {M : List Bool} {Q : List Int} {v : Value} {W0 W : World} (h : JS m L M Q v W0 W) {c : Nat} (hc : c < M.length) : JS m L (M.set (c : Int).toNat true) Q v W0 (W.setCell ⟨m, c, none⟩ (.bool true)) := h.set hc

set_option maxRecDepth 100000 in
set_option maxHeartbeats 4000000 in
theorem joins1_any (N : Nat) (b off c : Nat) (cs : List Int) (hN1 : 1 ≤ N) (hN8 : N ≤ 8) (hlen : cs.length = N * N) (W : World) (ha : IntsAt W (some ⟨b, off, none⟩) cs) :
    Calls Try.prog 85 #[.int .i64 N, .slice (some ⟨b, off, none⟩) cs.length c, .int .i64 1] W (RetB (.bool (jnsB N cs 1)) W) := by
  obtain ⟨i0, hi0, hz0, hz1, hz2⟩ := info_parts Try.info2
  have hsq := sqN8 hN8
  obtain ⟨L, hL⟩ : ∃ L, L = cs.length := ⟨_, rfl⟩
  rw [← hL] at hlen ⊢
  have hL64 : L ≤ 64 := by omega
  have hL1 : 1 ≤ L := by rw [hlen]; exact Nat.mul_le_mul hN1 hN1
  have hmul : (N : Int) * (N : Int) = (L : Int) := by rw [hlen]; push_cast; rfl
  have HMUL := hide hmul
  have hmk := run_make_row' (P := Try.prog) 121 4 (.bool false) 1 Try.underlying121 info_bool rfl .i64 .i64 L (by omega) (by omega)
  have HLN := hide hlen
  have HLC := hide hL
  obtain ⟨rb, hrb⟩ : ∃ rb, rb = jnsB N cs 1 := ⟨_, rfl⟩
  rw [← hrb]
  have HRB := hide hrb
  have HA := hide ha
  have hbW : Hid (b < W.heap.size) := hide (by
    obtain ⟨b', o', he, hlt⟩ := CellsAt.lt ha (by
      intro e
      have h2 := congrArg List.length e
      simp at h2
      rw [hL, h2] at hL1
      simp at hL1)
    cases he
    exact hlt)
  have HCS : Hid (∀ V : World, Below W.heap.size W V → ∀ i, i < L → V.cell? ⟨b, off + i, none⟩ = some (.int .i64 (hexAt cs (i : Int)))) := hide (fun V hV i hi => by
    obtain ⟨b', off', he, hcc⟩ := HA.out.at (by rw [← HLC.out]; omega)
    cases he
    exact (hV.cell (p := ⟨b, off + i, none⟩) hbW.out).trans (hcc i (by rw [← HLC.out]; exact hi)))
  obtain ⟨W1, hW1⟩ : ∃ W1, W1 = (W.alloc (.cells (madeCells #[.bool false] L) 4)).alloc (.cells #[] 2) := ⟨_, rfl⟩
  have hJ0 : Hid (JS W.heap.size L (List.replicate L false) [] (.slice (some ⟨W.heap.size + 1, 0, none⟩) 0 0) W W1) := by
    rw [hW1]
    refine hide ⟨?_, ?_, by simp, (below_alloc _ _).alloc (by simp) _⟩
    · refine (rowIs_block (World.rowIs_made W (.bool false) L 4) (Below.heap_alloc _ _ _ (by simp))).congr (fun i hi => ?_)
      simp [metV, hi]
    · exact ownsRow_empty (by have := alloc_row (W.alloc (.cells (madeCells #[.bool false] L) 4)) #[] 2; simpa using this) (Nat.le_refl _)
  have hF0 : Hid (Bfs N cs 1 (List.replicate L false) []) := hide (Bfs.nil hmul.symm)
  have hne : ((N : Int) == 0) = false := by simp; omega
  have hne' : ¬ (N : Int) = 0 := by omega
  have hn1 : (1 : Int) ≤ (N : Int) := by omega
  have HN1 := hide hn1
  clear hsq hlen hL hrb ha hn1
  go_enter Try.func85, Try.ntmps85
  go_wp2_with fail
  rw [← hW1]
  clear hW1 hmk
  (try go_wp2_with fail)
  go_loopw [8, 9] (fun v i wr => ∃ (k : Nat) (M : List Bool) (Q : List Int) (v0 : Value), v0 = v ∧ k ≤ N ∧ i = .int .i64 k ∧ Hid (JS W.heap.size L M Q v W wr) ∧ Hid (Bfs N cs 1 M Q ∧ St1 N cs 1 k Q)) (fun _ i _ => N - (intOf i).toNat)
  case atStart => exact ⟨0, _, [], _, rfl, Nat.zero_le _, rfl, hJ0, hide ⟨hF0.out, St1.nil _ _ _⟩⟩
  case round =>
    clear hJ0 hF0
    obtain ⟨k, M, Q, v, rfl, hk, rfl, hJ, hF⟩ := hrel
    by_cases hlt : k < N
    · skip
      have hst : stH (N : Int) 1 (k : Int) = (k : Int) := by simp [stH]
      have hsL : k < L := by rw [HLN.out]; exact Nat.lt_of_lt_of_le hlt (Nat.le_mul_of_pos_right N hN1)
      have HST := hide hst
      have hcell := HCS.out _ hJ.out.2.2.2 k hsL
      obtain ⟨z, hz⟩ : ∃ z, z = hexAt cs (k : Int) := ⟨_, rfl⟩
      rw [← hz] at hcell
      have HZ := hide hz
      have HLT := hide hlt
      clear hst hz
      by_cases hp : z = 1
      · have hd : (z == 1) = true := by simp [hp]
        have hs0 : Hid (0 ≤ stH (N : Int) 1 (k : Int) ∧ stH (N : Int) 1 (k : Int) < (N : Int) * N) := hide (stH_in HN1.out (by omega) (by have := HLT.out; omega))
        have hnew : Hid (mtA M (stH (N : Int) 1 (k : Int)) = false) := hide (hF.out.2.new HN1.out hF.out.1 hs0.out.1)
        have hway : Hid (Way N cs 1 (stH (N : Int) 1 (k : Int)) 0) := hide (.beg hs0.out.1 hs0.out.2 (stH_beg HN1.out (by omega) (by have := HLT.out; omega) (by decide)) ((fH_zero (by decide)).2 (by rw [HST.out, ← HZ.out]; exact hp)))
        have HF5 : Hid (Bfs N cs 1 (M.set (k : Int).toNat true) (Q ++ [(k : Int)]) ∧ St1 N cs 1 (k + 1) (Q ++ [(k : Int)])) := hide (by
          have h1 := hF.out.1.push hs0.out.1 hs0.out.2 hnew.out hway.out
          have h2 := hF.out.2.yes
          rw [HST.out] at h1 h2
          exact ⟨h1, h2⟩)
        obtain ⟨cm, fm⟩ := hJ.out.met hsL
        have hml : Hid (M.length = L) := hide (by have := hF.out.1.len; rw [HMUL.out] at this; omega)
        have hql : Q.length ≤ 64 := by have := hF.out.1.le; rw [HMUL.out] at this; omega
        have HJ2 := hide (hJ.out.setm (c := k) (by rw [hml.out]; exact hsL))
        have hown := HJ2.out.2.1
        have hsz := hJ.out.2.2.1
        clear hs0 hnew hway hF
        have hcn := hide (cell_one_set wr ⟨W.heap.size, k, none⟩ (.bool true) (.int .i64 (k : Int)) 2)
        have hsz2 : W.heap.size + 1 ≤ (wr.setCell ⟨W.heap.size, k, none⟩ (.bool true)).heap.size := HJ2.out.2.2.1
        go_wp2_with (at_builtin; refine wpList_append_own _ rfl _ _ 22 rfl (W.heap.size + 1) 2 i0 (.int .i64 0) 1 8 Try.underlying22 hi0 hz0 hz1 hz2 rfl (by decide) _ _ _ rfl (hown.alloc _) ⟨wr.heap.size, 0, none⟩ 1 1 [.int .i64 k] rfl rfl (hcn.out) (by simp [Value.oneCell']) (by unfold maxLen; omega) (by omega) (by simp; omega) ?_)
        intro v' w5 hown' hgrow _
        have HJ5 := hide (HJ2.out.snoc (by simpa using hown') hgrow)
        clear hown' hgrow hown HJ2
        go_wp2_with fail
        go_roundw
        case rel => exact ⟨k + 1, _, _, _, rfl, HLT.out, by go_num, HJ5, HF5⟩
        case measure => have := HLT.out; simp [intOf]; omega
      · have hd : (z == 1) = false := by simp [hp]
        have HF5 : Hid (Bfs N cs 1 M Q ∧ St1 N cs 1 (k + 1) Q) := hide ⟨hF.out.1, hF.out.2.no (by rw [HST.out, ← HZ.out]; exact hp)⟩
        clear hF
        go_wp2_with fail
        go_roundw
        case rel => exact ⟨k + 1, _, _, _, rfl, HLT.out, by go_num, hJ, HF5⟩
        case measure => have := HLT.out; simp [intOf]; omega
    · obtain rfl : N = k := by omega
      have HF2 : Hid (Bfs N cs 1 M Q ∧ St2 N cs 1 0 Q) := hide ⟨hF.out.1, hF.out.2.st2 hN1 (by decide)⟩
      clear hF
      go_wp2_with fail
      go_loopw [8, 11] (fun v i wr => ∃ (a : Nat) (M : List Bool) (Q : List Int) (v0 : Value), v0 = v ∧ a ≤ Q.length ∧ i = .int .i64 a ∧ Hid (JS W.heap.size L M Q v W wr) ∧ Hid (Bfs N cs 1 M Q ∧ St2 N cs 1 a Q)) (fun _ i _ => L - (intOf i).toNat)
      case atStart => exact ⟨0, _, _, _, rfl, Nat.zero_le _, rfl, hJ, HF2⟩
      case round =>
        clear HF2 hJ
        obtain ⟨a, M, Q, v, rfl, hak, rfl, hJ, hF⟩ := hrel
        obtain ⟨wo, rfl⟩ : ∃ wo : World, wo = wr := ⟨_, rfl⟩
        have hql : Q.length ≤ L := by have := hF.out.1.le; rw [HMUL.out] at this; omega
        obtain ⟨av, cv, rfl⟩ := own_form hJ.out.2.1
        by_cases hlt : a < Q.length
        · obtain ⟨bq, offq, z, rfl, hcell, hz⟩ := (intsAt_of_ownsRow hJ.out.2.1).one hlt
          obtain ⟨z0, z1, zw⟩ := hF.out.1.get hz.out
          have ZW := hide zw
          have Z01 := hide (And.intro z0 z1)
          obtain ⟨k1, k2, k3, k4, q1, q2, q3, q4⟩ := cell_walk HN1.out (by omega) z0 z1
          obtain ⟨x, hx⟩ : ∃ x, x = (z / (N : Int)) := ⟨_, rfl⟩
          rw [← hx] at q1 q4
          have qx : wrap64 x = x := by unfold wrap64; omega
          have hx8 : 0 ≤ x ∧ x < (N : Int) := by omega
          have hZL : Hid (z.toNat < L) := hide (by have := HMUL.out; omega)
          have hend : Hid (endH N 1 z = decide (x = (N : Int) - 1)) := hide (by unfold endH; rw [hx]; rfl)
          have HX := hide hx
          clear hx k1 k2 k3 k4 zw z0 z1 q2 q3
          cases he : decide (x = (N : Int) - 1)
          · have hE : Hid (endH N 1 z = false) := hide (by rw [hend.out, he])
            have hxe : (x == (N : Int) - 1) = false := by simpa using he
            have HF := hide hF
            clear he hend hF
            go_wp2_with fail
            refine (specNear_any N z HN1.out (by omega) Z01.out.1 Z01.out.2 _).mono ?_
            rintro e wn ⟨an, cn, rfl, hon, hbn⟩
            have hJn := hide (hJ.out.keep hbn)
            have hon2 := hide (own_in hon)
            have hIn := hide (intsAt_of_ownsRow hon)
            have hlo := hide hbn.size
            obtain ⟨nl, hnl⟩ : ∃ nl, nl = near (N : Int) z := ⟨_, rfl⟩
            rw [← hnl] at hIn ⊢
            have HNL := hide hnl
            have hnl6 : nl.length ≤ 6 := by rw [hnl]; exact near_len _ _
            have hov : Hid (Outw wo.heap.size wn.heap.size (.slice (some ⟨bq, offq, none⟩) Q.length cv)) := hide (fun g hg => Or.inl (hJ.out.2.1.lt g hg).2)
            have hkr : Hid (KR wo.heap.size wn.heap.size wn wn) := hide (KR.refl (Nat.le_refl _))
            have hmw : Hid (W.heap.size + 1 ≤ wo.heap.size) := hide hJ.out.2.2.1
            have HST3 : Hid (Bfs N cs 1 M Q ∧ St3 N cs 1 a (nl.take 0) Q ∧ Q[a]? = some z) := hide ⟨HF.out.out.1, ⟨HF.out.out.2, fun c hc => by simp at hc⟩, hz.out⟩
            clear hon hbn hnl hcell hJ HF q1 q4
            (try go_wp2_with fail)
            go_loopw [8, 14] (fun v i wi => ∃ (t : Nat) (M : List Bool) (Q : List Int) (v0 : Value), v0 = v ∧ t ≤ nl.length ∧ i = .int .i64 t ∧ Hid (JS W.heap.size L M Q v W wi) ∧ Hid (Bfs N cs 1 M Q ∧ St3 N cs 1 a (nl.take t) Q ∧ Q[a]? = some z) ∧ Hid (Outw wo.heap.size wn.heap.size v) ∧ Hid (KR wo.heap.size wn.heap.size wn wi)) (fun _ i _ => nl.length - (intOf i).toNat)
            case atStart => exact ⟨0, _, _, _, rfl, Nat.zero_le _, rfl, hJn, HST3, hov, hkr⟩
            case round =>
              clear hJn HST3 hov hkr
              obtain ⟨t, M, Q, v, rfl, ht, rfl, hJ, hF, hov, hkr⟩ := hrel
              by_cases hlt2 : t < nl.length
              · obtain ⟨b2, off2, y, rfl, hcell2, hy⟩ := (hkr.out.ints hIn.out (fun g o hg => (hon2.out g o hg).1) (fun g o hg => (hon2.out g o hg).2)).one hlt2
                have hmem : Hid (y ∈ near (N : Int) z) := hide (by rw [← HNL.out]; exact mem_of_get hy.out)
                obtain ⟨y0, y1⟩ := near_in HN1.out Z01.out.1 Z01.out.2 hmem.out
                obtain ⟨Y, rfl⟩ := Int.eq_ofNat_of_zero_le y0
                have hYL : Y < L := by have := HMUL.out; omega
                have Y01 := hide (And.intro y0 y1)
                have hcs := HCS.out _ hJ.out.2.2.2 Y hYL
                obtain ⟨cm, fm⟩ := hJ.out.met hYL
                have hnt : Hid (nl.take (t + 1) = nl.take t ++ [(Y : Int)]) := hide (by rw [List.take_add_one, hy.out]; rfl)
                obtain ⟨mm, hmm⟩ : ∃ mm, mm = mtA M (Y : Int) := ⟨_, rfl⟩
                rw [← hmm] at cm
                have HMM := hide hmm
                obtain ⟨u, hu⟩ : ∃ u, u = hexAt cs (Y : Int) := ⟨_, rfl⟩
                rw [← hu] at hcs
                have HU := hide hu
                clear hy y0 y1 hmm hu
                cases mm with
                | true =>
                  have HF5 : Hid (Bfs N cs 1 M Q ∧ St3 N cs 1 a (nl.take (t + 1)) Q ∧ Q[a]? = some z) := hide ⟨hF.out.1, by rw [hnt.out]; exact hF.out.2.1.skip (fun _ => hF.out.1.met _ Y01.out.1 HMM.out.symm), hF.out.2.2⟩
                  clear hF
                  go_wp2_with fail
                  go_roundw
                  case rel => exact ⟨t + 1, _, _, _, rfl, by omega, by go_num, hJ, HF5, hov, hkr⟩
                  case measure => simp [intOf]; omega
                | false =>
                  by_cases hp : u = 1
                  · have hd : (u == 1) = true := by simp [hp]
                    have hway : Hid (Way N cs 1 (Y : Int) 0) := hide (by
                      have h1 := (ZW.out).step hmem.out ((fH_zero (cs := cs) (p := 1) (c := (Y : Int)) (by decide)).2 (by rw [← HU.out]; exact hp))
                      exact h1)
                    have hal : Hid (a < Q.length) := hide (by
                      by_cases e : a < Q.length
                      · exact e
                      · have := hF.out.2.2
                        rw [List.getElem?_eq_none (by omega)] at this
                        cases this)
                    have HF5 : Hid (Bfs N cs 1 (M.set (Y : Int).toNat true) (Q ++ [(Y : Int)]) ∧ St3 N cs 1 a (nl.take (t + 1)) (Q ++ [(Y : Int)]) ∧ (Q ++ [(Y : Int)])[a]? = some z) := hide ⟨hF.out.1.push Y01.out.1 Y01.out.2 HMM.out.symm hway.out, by rw [hnt.out]; exact hF.out.2.1.push (Nat.le_of_lt hal.out), by rw [List.getElem?_append_left hal.out]; exact hF.out.2.2⟩
                    have hml : Hid (M.length = L) := hide (by have := hF.out.1.len; rw [HMUL.out] at this; omega)
                    have hql2 : Q.length ≤ 64 := by have := hF.out.1.le; rw [HMUL.out] at this; omega
                    have HJ2 := hide (hJ.out.setm (c := Y) (by rw [hml.out]; exact hYL))
                    have hown := HJ2.out.2.1
                    have hsz := hJ.out.2.2.1
                    have hcn := hide (cell_one_set wr ⟨W.heap.size, Y, none⟩ (.bool true) (.int .i64 (Y : Int)) 2)
                    have hsz2 : W.heap.size + 1 ≤ (wr.setCell ⟨W.heap.size, Y, none⟩ (.bool true)).heap.size := HJ2.out.2.2.1
                    have hkr2 := hide ((hkr.out.set (o := Y) (show W.heap.size < wo.heap.size by have := hmw.out; omega) (.bool true)).below (below_alloc _ (.cells #[.int .i64 (Y : Int)] 2)))
                    have hb2m : b2 ≠ W.heap.size := by have := (hon2.out b2 off2 rfl).1; have := hmw.out; omega
                    have hcell3 : (wr.setCell ⟨W.heap.size, Y, none⟩ (.bool true)).cell? ⟨b2, off2 + t, none⟩ = some (.int .i64 (Y : Int)) := (cell_set_far wr (fun e => hb2m e.symm) _).trans hcell2
                    clear hway hF hal
                    go_wp2_with (at_builtin; refine wpList_append_own_at _ rfl _ _ 22 rfl (W.heap.size + 1) 2 i0 (.int .i64 0) 1 8 Try.underlying22 hi0 hz0 hz1 hz2 rfl (by decide) _ _ _ rfl (hown.alloc _) ⟨wr.heap.size, 0, none⟩ 1 1 [.int .i64 Y] rfl rfl (hcn.out) (by simp [Value.oneCell']) (by unfold maxLen; omega) (by omega) (by simp; omega) ?_)
                    intro v' w5 hown' hgrow _ hat
                    have HJ5 := hide (HJ2.out.snoc (by simpa using hown') hgrow)
                    have hkr5 := hide (hkr2.out.grown hgrow hov.out)
                    have hov5 := hide (hov.out.next (s := wr.heap.size + 1) (by have := hkr.out.1; omega) hat)
                    clear hown' hgrow hown HJ2 hat hkr2
                    go_wp2_with fail
                    go_roundw
                    case rel => exact ⟨t + 1, _, _, _, rfl, by omega, by go_num, HJ5, HF5, hov5, hkr5⟩
                    case measure => simp [intOf]; omega
                  · have hd : (u == 1) = false := by simp [hp]
                    have HF5 : Hid (Bfs N cs 1 M Q ∧ St3 N cs 1 a (nl.take (t + 1)) Q ∧ Q[a]? = some z) := hide ⟨hF.out.1, by rw [hnt.out]; exact hF.out.2.1.skip (fun h => absurd (HU.out.trans h) hp), hF.out.2.2⟩
                    clear hF
                    go_wp2_with fail
                    go_roundw
                    case rel => exact ⟨t + 1, _, _, _, rfl, by omega, by go_num, hJ, HF5, hov, hkr⟩
                    case measure => simp [intOf]; omega
              · obtain rfl : t = nl.length := by omega
                have HF5 : Hid (Bfs N cs 1 M Q ∧ St2 N cs 1 (a + 1) Q ∧ a + 1 ≤ Q.length) := hide (by
                  have h1 := hF.out.2.1
                  rw [List.take_length, HNL.out] at h1
                  refine ⟨hF.out.1, h1.done (Q' := Q) hF.out.2.2 hE.out, ?_⟩
                  by_cases e : a < Q.length
                  · exact e
                  · have := hF.out.2.2
                    rw [List.getElem?_eq_none (by omega)] at this
                    cases this)
                have hql2 : Q.length ≤ L := by have := hF.out.1.le; rw [HMUL.out] at this; omega
                have hal : a + 1 ≤ Q.length := HF5.out.2.2
                clear hF hov hkr
                go_wp2_with fail
                go_roundw
                case rel => exact ⟨a + 1, _, _, _, rfl, hal, by go_num, hJ, hide ⟨HF5.out.1, HF5.out.2.1⟩⟩
                case measure => simp [intOf]; omega
          · have hxe : (x == (N : Int) - 1) = true := by simpa using he
            have hyes : Hid (rb = true) := hide (by rw [HRB.out]; exact jns_iff.2 ⟨z, by rw [hend.out, he], ZW.out⟩)
            have HB := hide hJ.out.2.2.2
            clear he hend hF hJ
            go_wp2_with fail
            go_ret
            exact ⟨by simp [go_sem, hyes.out], HB.out.mono (by omega)⟩
        · obtain rfl : a = Q.length := by omega
          have hno : Hid (rb = false) := hide (by rw [HRB.out]; exact jns_no (by decide) hF.out.2.1 (fun b hb => hF.out.2.2 b (by rw [List.take_length]; exact hb)))
          have HB := hide hJ.out.2.2.2
          clear hF hJ
          go_wp2_with fail
          go_ret
          exact ⟨by simp [go_sem, hno.out], HB.out.mono (by omega)⟩

set_option maxRecDepth 100000 in
set_option maxHeartbeats 4000000 in
theorem joins2_any (N : Nat) (b off c : Nat) (cs : List Int) (hN1 : 1 ≤ N) (hN8 : N ≤ 8) (hlen : cs.length = N * N) (W : World) (ha : IntsAt W (some ⟨b, off, none⟩) cs) :
    Calls Try.prog 85 #[.int .i64 N, .slice (some ⟨b, off, none⟩) cs.length c, .int .i64 2] W (RetB (.bool (jnsB N cs 2)) W) := by
  obtain ⟨i0, hi0, hz0, hz1, hz2⟩ := info_parts Try.info2
  have hsq := sqN8 hN8
  obtain ⟨L, hL⟩ : ∃ L, L = cs.length := ⟨_, rfl⟩
  rw [← hL] at hlen ⊢
  have hL64 : L ≤ 64 := by omega
  have hL1 : 1 ≤ L := by rw [hlen]; exact Nat.mul_le_mul hN1 hN1
  have hmul : (N : Int) * (N : Int) = (L : Int) := by rw [hlen]; push_cast; rfl
  have HMUL := hide hmul
  have hmk := run_make_row' (P := Try.prog) 121 4 (.bool false) 1 Try.underlying121 info_bool rfl .i64 .i64 L (by omega) (by omega)
  have HLN := hide hlen
  have HLC := hide hL
  obtain ⟨rb, hrb⟩ : ∃ rb, rb = jnsB N cs 2 := ⟨_, rfl⟩
  rw [← hrb]
  have HRB := hide hrb
  have HA := hide ha
  have hbW : Hid (b < W.heap.size) := hide (by
    obtain ⟨b', o', he, hlt⟩ := CellsAt.lt ha (by
      intro e
      have h2 := congrArg List.length e
      simp at h2
      rw [hL, h2] at hL1
      simp at hL1)
    cases he
    exact hlt)
  have HCS : Hid (∀ V : World, Below W.heap.size W V → ∀ i, i < L → V.cell? ⟨b, off + i, none⟩ = some (.int .i64 (hexAt cs (i : Int)))) := hide (fun V hV i hi => by
    obtain ⟨b', off', he, hcc⟩ := HA.out.at (by rw [← HLC.out]; omega)
    cases he
    exact (hV.cell (p := ⟨b, off + i, none⟩) hbW.out).trans (hcc i (by rw [← HLC.out]; exact hi)))
  obtain ⟨W1, hW1⟩ : ∃ W1, W1 = (W.alloc (.cells (madeCells #[.bool false] L) 4)).alloc (.cells #[] 2) := ⟨_, rfl⟩
  have hJ0 : Hid (JS W.heap.size L (List.replicate L false) [] (.slice (some ⟨W.heap.size + 1, 0, none⟩) 0 0) W W1) := by
    rw [hW1]
    refine hide ⟨?_, ?_, by simp, (below_alloc _ _).alloc (by simp) _⟩
    · refine (rowIs_block (World.rowIs_made W (.bool false) L 4) (Below.heap_alloc _ _ _ (by simp))).congr (fun i hi => ?_)
      simp [metV, hi]
    · exact ownsRow_empty (by have := alloc_row (W.alloc (.cells (madeCells #[.bool false] L) 4)) #[] 2; simpa using this) (Nat.le_refl _)
  have hF0 : Hid (Bfs N cs 2 (List.replicate L false) []) := hide (Bfs.nil hmul.symm)
  have hne : ((N : Int) == 0) = false := by simp; omega
  have hne' : ¬ (N : Int) = 0 := by omega
  have hn1 : (1 : Int) ≤ (N : Int) := by omega
  have HN1 := hide hn1
  clear hsq hlen hL hrb ha hn1
  go_enter Try.func85, Try.ntmps85
  go_wp2_with fail
  rw [← hW1]
  clear hW1 hmk
  (try go_wp2_with fail)
  go_loopw [8, 9] (fun v i wr => ∃ (k : Nat) (M : List Bool) (Q : List Int) (v0 : Value), v0 = v ∧ k ≤ N ∧ i = .int .i64 k ∧ Hid (JS W.heap.size L M Q v W wr) ∧ Hid (Bfs N cs 2 M Q ∧ St1 N cs 2 k Q)) (fun _ i _ => N - (intOf i).toNat)
  case atStart => exact ⟨0, _, [], _, rfl, Nat.zero_le _, rfl, hJ0, hide ⟨hF0.out, St1.nil _ _ _⟩⟩
  case round =>
    clear hJ0 hF0
    obtain ⟨k, M, Q, v, rfl, hk, rfl, hJ, hF⟩ := hrel
    by_cases hlt : k < N
    · skip
      obtain ⟨s, hs⟩ : ∃ s, s = N * k := ⟨_, rfl⟩
      have hst : stH (N : Int) 2 (k : Int) = (s : Int) := by simp [stH, hs]
      have hsL : s < L := by have := sqN hlt; rw [hs, HLN.out]; omega
      have hsw : wrap64 ((N : Int) * (k : Int)) = (s : Int) := by (have e : (N : Int) * (k : Int) = (s : Int) := (by rw [hs]; push_cast; rfl)); rw [e]; unfold wrap64; omega
      have HSE := hide hs
      clear hs
      have HST := hide hst
      have hcell := HCS.out _ hJ.out.2.2.2 s hsL
      obtain ⟨z, hz⟩ : ∃ z, z = hexAt cs (s : Int) := ⟨_, rfl⟩
      rw [← hz] at hcell
      have HZ := hide hz
      have HLT := hide hlt
      clear hst hz
      by_cases hp : z = 2
      · have hd : (z == 2) = true := by simp [hp]
        have hs0 : Hid (0 ≤ stH (N : Int) 2 (k : Int) ∧ stH (N : Int) 2 (k : Int) < (N : Int) * N) := hide (stH_in HN1.out (by omega) (by have := HLT.out; omega))
        have hnew : Hid (mtA M (stH (N : Int) 2 (k : Int)) = false) := hide (hF.out.2.new HN1.out hF.out.1 hs0.out.1)
        have hway : Hid (Way N cs 2 (stH (N : Int) 2 (k : Int)) 0) := hide (.beg hs0.out.1 hs0.out.2 (stH_beg HN1.out (by omega) (by have := HLT.out; omega) (by decide)) ((fH_zero (by decide)).2 (by rw [HST.out, ← HZ.out]; exact hp)))
        have HF5 : Hid (Bfs N cs 2 (M.set (s : Int).toNat true) (Q ++ [(s : Int)]) ∧ St1 N cs 2 (k + 1) (Q ++ [(s : Int)])) := hide (by
          have h1 := hF.out.1.push hs0.out.1 hs0.out.2 hnew.out hway.out
          have h2 := hF.out.2.yes
          rw [HST.out] at h1 h2
          exact ⟨h1, h2⟩)
        obtain ⟨cm, fm⟩ := hJ.out.met hsL
        have hml : Hid (M.length = L) := hide (by have := hF.out.1.len; rw [HMUL.out] at this; omega)
        have hql : Q.length ≤ 64 := by have := hF.out.1.le; rw [HMUL.out] at this; omega
        have HJ2 := hide (hJ.out.setm (c := s) (by rw [hml.out]; exact hsL))
        have hown := HJ2.out.2.1
        have hsz := hJ.out.2.2.1
        clear hs0 hnew hway hF
        have hcn := hide (cell_one_set wr ⟨W.heap.size, s, none⟩ (.bool true) (.int .i64 (s : Int)) 2)
        have hsz2 : W.heap.size + 1 ≤ (wr.setCell ⟨W.heap.size, s, none⟩ (.bool true)).heap.size := HJ2.out.2.2.1
        go_wp2_with (at_builtin; refine wpList_append_own _ rfl _ _ 22 rfl (W.heap.size + 1) 2 i0 (.int .i64 0) 1 8 Try.underlying22 hi0 hz0 hz1 hz2 rfl (by decide) _ _ _ rfl (hown.alloc _) ⟨wr.heap.size, 0, none⟩ 1 1 [.int .i64 s] rfl rfl (hcn.out) (by simp [Value.oneCell']) (by unfold maxLen; omega) (by omega) (by simp; omega) ?_)
        intro v' w5 hown' hgrow _
        have HJ5 := hide (HJ2.out.snoc (by simpa using hown') hgrow)
        clear hown' hgrow hown HJ2
        go_wp2_with fail
        go_roundw
        case rel => exact ⟨k + 1, _, _, _, rfl, HLT.out, by go_num, HJ5, HF5⟩
        case measure => have := HLT.out; simp [intOf]; omega
      · have hd : (z == 2) = false := by simp [hp]
        have HF5 : Hid (Bfs N cs 2 M Q ∧ St1 N cs 2 (k + 1) Q) := hide ⟨hF.out.1, hF.out.2.no (by rw [HST.out, ← HZ.out]; exact hp)⟩
        clear hF
        go_wp2_with fail
        go_roundw
        case rel => exact ⟨k + 1, _, _, _, rfl, HLT.out, by go_num, hJ, HF5⟩
        case measure => have := HLT.out; simp [intOf]; omega
    · obtain rfl : N = k := by omega
      have HF2 : Hid (Bfs N cs 2 M Q ∧ St2 N cs 2 0 Q) := hide ⟨hF.out.1, hF.out.2.st2 hN1 (by decide)⟩
      clear hF
      go_wp2_with fail
      go_loopw [8, 11] (fun v i wr => ∃ (a : Nat) (M : List Bool) (Q : List Int) (v0 : Value), v0 = v ∧ a ≤ Q.length ∧ i = .int .i64 a ∧ Hid (JS W.heap.size L M Q v W wr) ∧ Hid (Bfs N cs 2 M Q ∧ St2 N cs 2 a Q)) (fun _ i _ => L - (intOf i).toNat)
      case atStart => exact ⟨0, _, _, _, rfl, Nat.zero_le _, rfl, hJ, HF2⟩
      case round =>
        clear HF2 hJ
        obtain ⟨a, M, Q, v, rfl, hak, rfl, hJ, hF⟩ := hrel
        obtain ⟨wo, rfl⟩ : ∃ wo : World, wo = wr := ⟨_, rfl⟩
        have hql : Q.length ≤ L := by have := hF.out.1.le; rw [HMUL.out] at this; omega
        obtain ⟨av, cv, rfl⟩ := own_form hJ.out.2.1
        by_cases hlt : a < Q.length
        · obtain ⟨bq, offq, z, rfl, hcell, hz⟩ := (intsAt_of_ownsRow hJ.out.2.1).one hlt
          obtain ⟨z0, z1, zw⟩ := hF.out.1.get hz.out
          have ZW := hide zw
          have Z01 := hide (And.intro z0 z1)
          obtain ⟨k1, k2, k3, k4, q1, q2, q3, q4⟩ := cell_walk HN1.out (by omega) z0 z1
          obtain ⟨x, hx⟩ : ∃ x, x = (z % (N : Int)) := ⟨_, rfl⟩
          rw [← hx] at q2 q3
          have qx : wrap64 x = x := by unfold wrap64; omega
          have hx8 : 0 ≤ x ∧ x < (N : Int) := by omega
          have hZL : Hid (z.toNat < L) := hide (by have := HMUL.out; omega)
          have hend : Hid (endH N 2 z = decide (x = (N : Int) - 1)) := hide (by unfold endH; rw [hx]; rfl)
          have HX := hide hx
          clear hx k1 k2 k3 k4 zw z0 z1 q1 q4
          cases he : decide (x = (N : Int) - 1)
          · have hE : Hid (endH N 2 z = false) := hide (by rw [hend.out, he])
            have hxe : (x == (N : Int) - 1) = false := by simpa using he
            have HF := hide hF
            clear he hend hF
            go_wp2_with fail
            refine (specNear_any N z HN1.out (by omega) Z01.out.1 Z01.out.2 _).mono ?_
            rintro e wn ⟨an, cn, rfl, hon, hbn⟩
            have hJn := hide (hJ.out.keep hbn)
            have hon2 := hide (own_in hon)
            have hIn := hide (intsAt_of_ownsRow hon)
            have hlo := hide hbn.size
            obtain ⟨nl, hnl⟩ : ∃ nl, nl = near (N : Int) z := ⟨_, rfl⟩
            rw [← hnl] at hIn ⊢
            have HNL := hide hnl
            have hnl6 : nl.length ≤ 6 := by rw [hnl]; exact near_len _ _
            have hov : Hid (Outw wo.heap.size wn.heap.size (.slice (some ⟨bq, offq, none⟩) Q.length cv)) := hide (fun g hg => Or.inl (hJ.out.2.1.lt g hg).2)
            have hkr : Hid (KR wo.heap.size wn.heap.size wn wn) := hide (KR.refl (Nat.le_refl _))
            have hmw : Hid (W.heap.size + 1 ≤ wo.heap.size) := hide hJ.out.2.2.1
            have HST3 : Hid (Bfs N cs 2 M Q ∧ St3 N cs 2 a (nl.take 0) Q ∧ Q[a]? = some z) := hide ⟨HF.out.out.1, ⟨HF.out.out.2, fun c hc => by simp at hc⟩, hz.out⟩
            clear hon hbn hnl hcell hJ HF q2 q3
            (try go_wp2_with fail)
            go_loopw [8, 14] (fun v i wi => ∃ (t : Nat) (M : List Bool) (Q : List Int) (v0 : Value), v0 = v ∧ t ≤ nl.length ∧ i = .int .i64 t ∧ Hid (JS W.heap.size L M Q v W wi) ∧ Hid (Bfs N cs 2 M Q ∧ St3 N cs 2 a (nl.take t) Q ∧ Q[a]? = some z) ∧ Hid (Outw wo.heap.size wn.heap.size v) ∧ Hid (KR wo.heap.size wn.heap.size wn wi)) (fun _ i _ => nl.length - (intOf i).toNat)
            case atStart => exact ⟨0, _, _, _, rfl, Nat.zero_le _, rfl, hJn, HST3, hov, hkr⟩
            case round =>
              clear hJn HST3 hov hkr
              obtain ⟨t, M, Q, v, rfl, ht, rfl, hJ, hF, hov, hkr⟩ := hrel
              by_cases hlt2 : t < nl.length
              · obtain ⟨b2, off2, y, rfl, hcell2, hy⟩ := (hkr.out.ints hIn.out (fun g o hg => (hon2.out g o hg).1) (fun g o hg => (hon2.out g o hg).2)).one hlt2
                have hmem : Hid (y ∈ near (N : Int) z) := hide (by rw [← HNL.out]; exact mem_of_get hy.out)
                obtain ⟨y0, y1⟩ := near_in HN1.out Z01.out.1 Z01.out.2 hmem.out
                obtain ⟨Y, rfl⟩ := Int.eq_ofNat_of_zero_le y0
                have hYL : Y < L := by have := HMUL.out; omega
                have Y01 := hide (And.intro y0 y1)
                have hcs := HCS.out _ hJ.out.2.2.2 Y hYL
                obtain ⟨cm, fm⟩ := hJ.out.met hYL
                have hnt : Hid (nl.take (t + 1) = nl.take t ++ [(Y : Int)]) := hide (by rw [List.take_add_one, hy.out]; rfl)
                obtain ⟨mm, hmm⟩ : ∃ mm, mm = mtA M (Y : Int) := ⟨_, rfl⟩
                rw [← hmm] at cm
                have HMM := hide hmm
                obtain ⟨u, hu⟩ : ∃ u, u = hexAt cs (Y : Int) := ⟨_, rfl⟩
                rw [← hu] at hcs
                have HU := hide hu
                clear hy y0 y1 hmm hu
                cases mm with
                | true =>
                  have HF5 : Hid (Bfs N cs 2 M Q ∧ St3 N cs 2 a (nl.take (t + 1)) Q ∧ Q[a]? = some z) := hide ⟨hF.out.1, by rw [hnt.out]; exact hF.out.2.1.skip (fun _ => hF.out.1.met _ Y01.out.1 HMM.out.symm), hF.out.2.2⟩
                  clear hF
                  go_wp2_with fail
                  go_roundw
                  case rel => exact ⟨t + 1, _, _, _, rfl, by omega, by go_num, hJ, HF5, hov, hkr⟩
                  case measure => simp [intOf]; omega
                | false =>
                  by_cases hp : u = 2
                  · have hd : (u == 2) = true := by simp [hp]
                    have hway : Hid (Way N cs 2 (Y : Int) 0) := hide (by
                      have h1 := (ZW.out).step hmem.out ((fH_zero (cs := cs) (p := 2) (c := (Y : Int)) (by decide)).2 (by rw [← HU.out]; exact hp))
                      exact h1)
                    have hal : Hid (a < Q.length) := hide (by
                      by_cases e : a < Q.length
                      · exact e
                      · have := hF.out.2.2
                        rw [List.getElem?_eq_none (by omega)] at this
                        cases this)
                    have HF5 : Hid (Bfs N cs 2 (M.set (Y : Int).toNat true) (Q ++ [(Y : Int)]) ∧ St3 N cs 2 a (nl.take (t + 1)) (Q ++ [(Y : Int)]) ∧ (Q ++ [(Y : Int)])[a]? = some z) := hide ⟨hF.out.1.push Y01.out.1 Y01.out.2 HMM.out.symm hway.out, by rw [hnt.out]; exact hF.out.2.1.push (Nat.le_of_lt hal.out), by rw [List.getElem?_append_left hal.out]; exact hF.out.2.2⟩
                    have hml : Hid (M.length = L) := hide (by have := hF.out.1.len; rw [HMUL.out] at this; omega)
                    have hql2 : Q.length ≤ 64 := by have := hF.out.1.le; rw [HMUL.out] at this; omega
                    have HJ2 := hide (hJ.out.setm (c := Y) (by rw [hml.out]; exact hYL))
                    have hown := HJ2.out.2.1
                    have hsz := hJ.out.2.2.1
                    have hcn := hide (cell_one_set wr ⟨W.heap.size, Y, none⟩ (.bool true) (.int .i64 (Y : Int)) 2)
                    have hsz2 : W.heap.size + 1 ≤ (wr.setCell ⟨W.heap.size, Y, none⟩ (.bool true)).heap.size := HJ2.out.2.2.1
                    have hkr2 := hide ((hkr.out.set (o := Y) (show W.heap.size < wo.heap.size by have := hmw.out; omega) (.bool true)).below (below_alloc _ (.cells #[.int .i64 (Y : Int)] 2)))
                    have hb2m : b2 ≠ W.heap.size := by have := (hon2.out b2 off2 rfl).1; have := hmw.out; omega
                    have hcell3 : (wr.setCell ⟨W.heap.size, Y, none⟩ (.bool true)).cell? ⟨b2, off2 + t, none⟩ = some (.int .i64 (Y : Int)) := (cell_set_far wr (fun e => hb2m e.symm) _).trans hcell2
                    clear hway hF hal
                    go_wp2_with (at_builtin; refine wpList_append_own_at _ rfl _ _ 22 rfl (W.heap.size + 1) 2 i0 (.int .i64 0) 1 8 Try.underlying22 hi0 hz0 hz1 hz2 rfl (by decide) _ _ _ rfl (hown.alloc _) ⟨wr.heap.size, 0, none⟩ 1 1 [.int .i64 Y] rfl rfl (hcn.out) (by simp [Value.oneCell']) (by unfold maxLen; omega) (by omega) (by simp; omega) ?_)
                    intro v' w5 hown' hgrow _ hat
                    have HJ5 := hide (HJ2.out.snoc (by simpa using hown') hgrow)
                    have hkr5 := hide (hkr2.out.grown hgrow hov.out)
                    have hov5 := hide (hov.out.next (s := wr.heap.size + 1) (by have := hkr.out.1; omega) hat)
                    clear hown' hgrow hown HJ2 hat hkr2
                    go_wp2_with fail
                    go_roundw
                    case rel => exact ⟨t + 1, _, _, _, rfl, by omega, by go_num, HJ5, HF5, hov5, hkr5⟩
                    case measure => simp [intOf]; omega
                  · have hd : (u == 2) = false := by simp [hp]
                    have HF5 : Hid (Bfs N cs 2 M Q ∧ St3 N cs 2 a (nl.take (t + 1)) Q ∧ Q[a]? = some z) := hide ⟨hF.out.1, by rw [hnt.out]; exact hF.out.2.1.skip (fun h => absurd (HU.out.trans h) hp), hF.out.2.2⟩
                    clear hF
                    go_wp2_with fail
                    go_roundw
                    case rel => exact ⟨t + 1, _, _, _, rfl, by omega, by go_num, hJ, HF5, hov, hkr⟩
                    case measure => simp [intOf]; omega
              · obtain rfl : t = nl.length := by omega
                have HF5 : Hid (Bfs N cs 2 M Q ∧ St2 N cs 2 (a + 1) Q ∧ a + 1 ≤ Q.length) := hide (by
                  have h1 := hF.out.2.1
                  rw [List.take_length, HNL.out] at h1
                  refine ⟨hF.out.1, h1.done (Q' := Q) hF.out.2.2 hE.out, ?_⟩
                  by_cases e : a < Q.length
                  · exact e
                  · have := hF.out.2.2
                    rw [List.getElem?_eq_none (by omega)] at this
                    cases this)
                have hql2 : Q.length ≤ L := by have := hF.out.1.le; rw [HMUL.out] at this; omega
                have hal : a + 1 ≤ Q.length := HF5.out.2.2
                clear hF hov hkr
                go_wp2_with fail
                go_roundw
                case rel => exact ⟨a + 1, _, _, _, rfl, hal, by go_num, hJ, hide ⟨HF5.out.1, HF5.out.2.1⟩⟩
                case measure => simp [intOf]; omega
          · have hxe : (x == (N : Int) - 1) = true := by simpa using he
            have hyes : Hid (rb = true) := hide (by rw [HRB.out]; exact jns_iff.2 ⟨z, by rw [hend.out, he], ZW.out⟩)
            have HB := hide hJ.out.2.2.2
            clear he hend hF hJ
            go_wp2_with fail
            go_ret
            exact ⟨by simp [go_sem, hyes.out], HB.out.mono (by omega)⟩
        · obtain rfl : a = Q.length := by omega
          have hno : Hid (rb = false) := hide (by rw [HRB.out]; exact jns_no (by decide) hF.out.2.1 (fun b hb => hF.out.2.2 b (by rw [List.take_length]; exact hb)))
          have HB := hide hJ.out.2.2.2
          clear hF hJ
          go_wp2_with fail
          go_ret
          exact ⟨by simp [go_sem, hno.out], HB.out.mono (by omega)⟩
end Go.Proofs.Ytogfoahejgmfgaa
