/-
  Col and snort: a map from turns to values: what it holds; it never has more entries than there are turns.
-/
import Derived.Test.YtdimmlpnfghndaaFt
import Derived.Test.YtdimmlpnfghndaaFo
import Derived.Test.YtdimmlpnfghndaaBut
import Derived.Maps.OwnSet
import Derived.DeepKeys4
namespace Go.Proofs.Ytdimmlpnfghndaa
open Go.RowKit Go.Maps
set_option linter.unusedVariables false

theorem key_row : (64 : TypeId) < Try.prog.types.size := of_decide_eq_true (by kernel_rfl)
theorem key_wide : (match Try.prog.underlying 64 with | some (.array _ _) | some (.struct _) => true | _ => false) = true := by rw [Try.underlying64]
set_option maxRecDepth 100000 in
theorem turnKeyed : Keyed Try.prog 64 := Keyed.of_law (deep_law_laid laidOut (m := 3) (by omega) key_row (by kernel_rfl) key_wide)
theorem key_type : Try.prog.keyType 64 = true := by kernel_rfl
theorem key_cells : Try.prog.cellsOf 64 = 5 := by kernel_rfl
theorem field_cells : Try.prog.cellsOf 25 = 4 := by kernel_rfl
theorem int_cells : Try.prog.cellsOf 2 = 1 := by kernel_rfl

theorem key_gen {P : Program} {k s i : TypeId} {f0 f1 g0 g1 g2 g3 : Field} (hk : P.underlying k = some (.struct #[f0, f1])) (h0 : f0.type = s ∧ f0.offset = 0 ∧ (f0.name != "_") = true) (h1 : f1.type = i ∧ f1.offset = 4 ∧ (f1.name != "_") = true)
    (hs : P.underlying s = some (.struct #[g0, g1, g2, g3])) (k0 : g0.type = i ∧ g0.offset = 0 ∧ (g0.name != "_") = true) (k1 : g1.type = i ∧ g1.offset = 1 ∧ (g1.name != "_") = true) (k2 : g2.type = i ∧ g2.offset = 2 ∧ (g2.name != "_") = true) (k3 : g3.type = i ∧ g3.offset = 3 ∧ (g3.name != "_") = true)
    (hi : P.underlying i = some (.int .i64)) (ht : P.keyType k = true) (hc : P.cellsOf k = 5) (hcs : P.cellsOf s = 4) (hci : P.cellsOf i = 1) (hz : 2 ≤ P.types.size) (n L R B p : Int) (wn : (Lit.int .i64 n).wf = true) (wL : (Lit.int .i64 L).wf = true) (wR : (Lit.int .i64 R).wf = true) (wB : (Lit.int .i64 B).wf = true) (wp : (Lit.int .i64 p).wf = true) :
    ∃ kl, keyOf P k (.agg #[.int .i64 n, .int .i64 L, .int .i64 R, .int .i64 B, .int .i64 p]) = some kl := by
  obtain ⟨m, hm⟩ : ∃ m, P.types.size = m + 1 + 1 := ⟨P.types.size - 2, by omega⟩
  obtain ⟨a0, b0, d0⟩ := h0
  obtain ⟨a1, b1, d1⟩ := h1
  obtain ⟨x0, y0, z0⟩ := k0
  obtain ⟨x1, y1, z1⟩ := k1
  obtain ⟨x2, y2, z2⟩ := k2
  obtain ⟨x3, y3, z3⟩ := k3
  have hall : ∀ (i : Nat) (x : i < 4), ¬[g0, g1, g2, g3][i].name = "_" := by
    intro i hi
    rcases (by omega : i = 0 ∨ i = 1 ∨ i = 2 ∨ i = 3) with rfl | rfl | rfl | rfl
    · simpa using z0
    · simpa using z1
    · simpa using z2
    · simpa using z3
  unfold keyOf
  rw [hk]
  simp only [ht, Value.formed, hk, hc, hm]
  simp [Program.keyLits, hk, hs, hi, hc, hcs, hci, wn, wL, wR, wB, wp, Value.cells, a0, b0, d0, a1, b1, d1, x0, y0, x1, y1, x2, y2, x3, y3]
  rw [if_pos hall]
  simp
theorem turn_key (n L R B p : Int) (wn : (Lit.int .i64 n).wf = true) (wL : (Lit.int .i64 L).wf = true) (wR : (Lit.int .i64 R).wf = true) (wB : (Lit.int .i64 B).wf = true) (wp : (Lit.int .i64 p).wf = true) :
    ∃ kl, keyOf Try.prog 64 (.agg #[.int .i64 n, .int .i64 L, .int .i64 R, .int .i64 B, .int .i64 p]) = some kl :=
  key_gen (s := 25) (i := 2) Try.underlying64 ⟨rfl, rfl, by decide⟩ ⟨rfl, rfl, by decide⟩ Try.underlying25 ⟨rfl, rfl, by decide⟩ ⟨rfl, rfl, by decide⟩ ⟨rfl, rfl, by decide⟩ ⟨rfl, rfl, by decide⟩ Try.underlying2 key_type key_cells field_cells int_cells (of_decide_eq_true (by kernel_rfl)) n L R B p wn wL wR wB wp

/-- A turn of the search. -/
def okT (N L R B pl : Int) : Prop := okF N L R B = true ∧ 0 ≤ pl ∧ pl ≤ 1
theorem okT.key {N L R B pl : Int} (h : okT N L R B pl) : ∃ kl, keyOf Try.prog 64 (.agg #[.int .i64 N, .int .i64 L, .int .i64 R, .int .i64 B, .int .i64 pl]) = some kl := by
  obtain ⟨h1, h2, h3, h4, h5, h6, h7, h8⟩ := okF_nums h.1
  have := h.2
  exact turn_key N L R B pl (WalkArith.wf_i64 (by omega)) (WalkArith.wf_i64 (by omega)) (WalkArith.wf_i64 (by omega)) (WalkArith.wf_i64 (by omega)) (WalkArith.wf_i64 (by omega))

theorem zeroI (w : World) : (zeroValue 2).run Try.prog w = .ok (.int .i64 0) w := by kernel_rfl
theorem zeroBo (w : World) : (zeroValue 4).run Try.prog w = .ok (.bool false) w := by kernel_rfl
theorem plainElem_bool_inv {H : Type} {P : Program} {e : TypeId} (he : P.underlying e = some .bool) {v : Value} {z : DataW H × List MemPlace} (h : plainElem P e v = some z) : ∃ a, v = .bool a ∧ z = (.lit (.bool a), []) := by
  unfold plainElem at h
  rw [he] at h
  cases v <;> simp at h
  subst h
  exact ⟨_, rfl, rfl⟩
theorem wpList_lookup_own_ok_bool {H : Type} {P : Program} (w : World) {ops : Array Oper} {rest : List Oper} {o : Oper} {a : Act} {Q : Exit → Act → World → Prop} (hg : o.guard = none) (m x : Operand) (t : TypeId) (hop : o.op = Op.lookup t m x true)
    (k e : TypeId) (K : Keyed P k) (ht : P.underlying t = some (.map k e)) (he : P.underlying e = some .bool) (hz : (zeroValue e).run P w = .ok (.bool false) w) (b n : Nat) (D : DataW H)
    (hm : a.eval m = .map (some b)) (hown : w.ownsMap P k (plainElem P e) b n D) (key : Value) (kl : Lit) (hx : a.eval x = key) (hkey : keyOf P k key = some kl)
    (hK : ∀ c : Bool, D.atKey kl (.lit (.bool false)) = .lit (.bool c) → wpList P ops Q rest (a.put o.dst (.tuple #[.bool c, .bool (Maps.has D kl)])) w) :
    wpList P ops Q (o :: rest) a w :=
  wpList_lookup_own_ok w hg m x t hop k e K ht (plainElem P e) hz (.lit (.bool false)) [] (plainElem_bool he false) b n D hm hown key kl hx hkey (fun v ps hv => by
    obtain ⟨c, rfl, hc⟩ := plainElem_bool_inv he hv
    exact hK c (congrArg Prod.fst hc))

/-- What a map from turns of one field to values holds. lv: the value of a colouring and a player. -/
structure TellsM (lv : Int → Int → Int → Lit) (N L : Int) (D : DataW Unit) : Prop where
  keys : ∀ es, D = .map es → ∀ p ∈ es, ∃ R B pl, okT N L R B pl ∧ keyOf Try.prog 64 (.agg #[.int .i64 N, .int .i64 L, .int .i64 R, .int .i64 B, .int .i64 pl]) = some p.1
  vals : ∀ (R B pl : Int) (kl : Lit), okT N L R B pl → keyOf Try.prog 64 (.agg #[.int .i64 N, .int .i64 L, .int .i64 R, .int .i64 B, .int .i64 pl]) = some kl → has D kl = true → ∀ z, D.atKey kl z = .lit (lv R B pl)
/-- The map in block bm holds such values; and what is said of other blocks is so. -/
def KnM (lv : Int → Int → Int → Lit) (E : TypeId) (N L : Int) (ext : List (Nat × Obj)) (bm : Nat) (w : World) : Prop :=
  (∃ (n : Nat) (D : DataW Unit), w.ownsMap Try.prog 64 (plainElem Try.prog E) bm n D ∧ TellsM lv N L D) ∧ ∀ p ∈ ext, p.1 ≠ bm ∧ w.heap[p.1]? = some p.2
variable {lv : Int → Int → Int → Lit} {E : TypeId} {N L : Int} {ext : List (Nat × Obj)}
theorem KnM.lt {w : World} {b : Nat} (h : KnM lv E N L ext b w) : b < w.heap.size := by
  obtain ⟨⟨n, D, h1, _⟩, _⟩ := h
  exact h1.lt
theorem KnM.turn {w w' : World} {b : Nat} (h : KnM lv E N L ext b w) (hb : w'.heap[b]? = w.heap[b]?) (he : ∀ p ∈ ext, w'.heap[p.1]? = w.heap[p.1]?) : KnM lv E N L ext b w' := by
  obtain ⟨⟨n, D, ⟨es, clock, hm, hF, hs, hD⟩, h2⟩, h3⟩ := h
  exact ⟨⟨n, D, ⟨es, clock, hb.trans hm, hF, hs, hD⟩, h2⟩, fun p hp => ⟨(h3 p hp).1, (he p hp).trans (h3 p hp).2⟩⟩
theorem KnM.keep {w w' : World} {b : Nat} (h : KnM lv E N L ext b w) (hb : Below w.heap.size w w') : KnM lv E N L ext b w' :=
  h.turn (hb.block b h.lt) (fun p hp => hb.block _ (Array.getElem?_eq_some_iff.1 (h.2 p hp).2).1)
theorem KnM.put' {w w' : World} {b n : Nat} {D : DataW Unit} (h : KnM lv E N L ext b w) (hown : w'.ownsMap Try.prog 64 (plainElem Try.prog E) b n D) (hD : TellsM lv N L D) (hbut : But b w w') : KnM lv E N L ext b w' :=
  ⟨⟨n, D, hown, hD⟩, fun p hp => ⟨(h.2 p hp).1, hbut.row (h.2 p hp).2 (h.2 p hp).1⟩⟩
theorem KnM.made (w : World) (hext : ∀ p ∈ ext, w.heap[p.1]? = some p.2) : KnM lv E N L ext w.heap.size (w.alloc (.map #[] 0)) :=
  ⟨⟨0, .map [], World.ownsMap_made w _ _ _, ⟨fun es e p hp => (by cases e; cases hp), fun R B pl kl _ _ hh => by simp [has] at hh⟩⟩, fun p hp => by
    have h := hext p hp
    have hl := (Array.getElem?_eq_some_iff.1 h).1
    exact ⟨by omega, row_alloc h _⟩⟩
/-- There is room for one more. -/
theorem KnM.room {w : World} {b : Nat} (h : KnM lv E N L ext b w) : ∃ D : DataW Unit, w.ownsMap Try.prog 64 (plainElem Try.prog E) b 131072 D ∧ TellsM lv N L D := by
  obtain ⟨⟨n, D, hown, ht⟩, _⟩ := h
  obtain ⟨es', hD', hp⟩ := hown.tidy turnKeyed
  obtain ⟨es, clock, hm, hF, hs, hD⟩ := hown
  have hsz : es.size = es'.length := by
    rw [hD'] at hD
    simp only [DataW.map.injEq] at hD
    rw [hD, length_sorted]
    simp
  have hkl : (es'.map (fun p => some p.1)).length ≤ (allTurns.map (fun t => keyOf Try.prog 64 (.agg #[.int .i64 N, .int .i64 L, .int .i64 t.1, .int .i64 t.2.1, .int .i64 t.2.2]))).length := by
    refine nodup_le _ _ (List.pairwise_map.2 (hp.imp (fun h e => h (Option.some.inj e)))) (fun x hx => ?_)
    obtain ⟨p, hp1, rfl⟩ := List.mem_map.1 hx
    obtain ⟨R, B, pl, hl, hk⟩ := ht.keys es' hD' p hp1
    obtain ⟨_, _, _, _, r0, r1, b0, b1⟩ := okF_nums hl.1
    exact List.mem_map.2 ⟨(R, B, pl), mem_allTurns ⟨r0, r1⟩ ⟨b0, b1⟩ hl.2, hk⟩
  have h8 := allTurns_len
  rw [List.length_map, List.length_map] at hkl
  exact ⟨D, ⟨es, clock, hm, hF, by omega, hD⟩, ht⟩
theorem TellsM.put {D : DataW Unit} (h : TellsM lv N L D) (hm : IsMap D) {R B pl : Int} {kl : Lit} (hl : okT N L R B pl) (hk : keyOf Try.prog 64 (.agg #[.int .i64 N, .int .i64 L, .int .i64 R, .int .i64 B, .int .i64 pl]) = some kl) : TellsM lv N L (D.put kl (.lit (lv R B pl))) := by
  have hkey := turnKeyed.key hk
  refine ⟨fun es e p hp => ?_, fun R' B' pl' kl' hl' hk' hh' z => ?_⟩
  · obtain ⟨es0, rfl⟩ := hm
    have e' : es = DataW.insert (kl, .lit (lv R B pl)) (es0.filter fun p => !p.1.sameKey kl) := by
      have : DataW.put (.map es0) kl (.lit (lv R B pl)) = DataW.map (DataW.insert (kl, .lit (lv R B pl)) (es0.filter fun p => !p.1.sameKey kl)) := rfl
      rw [this] at e
      simpa using e.symm
    subst e'
    rcases Go.ChangeMaps.mem_insert_iff.1 hp with rfl | hp
    · exact ⟨R, B, pl, hl, hk⟩
    · exact h.keys es0 rfl p (List.mem_filter.1 hp).1
  · by_cases e : kl' = kl
    · subst e
      have ea := turnKeyed.inj hk hk'
      simp at ea
      obtain ⟨rfl, rfl, rfl⟩ := ea
      exact atKey_put_same hm hkey _ _
    · rw [atKey_put_other e]
      rw [has_put_other e] at hh'
      exact h.vals R' B' pl' kl' hl' hk' hh' z
end Go.Proofs.Ytdimmlpnfghndaa
