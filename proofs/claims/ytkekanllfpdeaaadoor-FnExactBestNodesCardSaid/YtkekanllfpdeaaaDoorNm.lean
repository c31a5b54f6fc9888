/-
  A map from states to numbers: what it holds; it never has more entries than there are states.
-/
import Derived.Test.YtkekanllfpdeaaaDoorNa
import Derived.Test.YtkekanllfpdeaaaDoorBut
import Derived.Test.YtkekanllfpdeaaaDoorOw
import Derived.Maps.OwnSet
import Derived.DeepKeys4
namespace Go.Proofs.YtkekanllfpdeaaaDoor
open Go.RowKit Go.Maps
set_option linter.unusedVariables false

theorem nt_row : (92 : TypeId) < Tryd.prog.types.size := of_decide_eq_true (by kernel_rfl)
theorem nt_wide : (match Tryd.prog.underlying 92 with | some (.array _ _) | some (.struct _) => true | _ => false) = true := by rw [Tryd.underlying92]
set_option maxRecDepth 100000 in
theorem ntKeyed : Keyed Tryd.prog 92 := Keyed.of_law (deep_law_laid laidOut (m := 3) (by omega) nt_row (by kernel_rfl) nt_wide)
theorem nt_type : Tryd.prog.keyType 92 = true := by kernel_rfl
theorem nt_cells : Tryd.prog.cellsOf 92 = 2 := by kernel_rfl
theorem int_cells : Tryd.prog.cellsOf 2 = 1 := by kernel_rfl
theorem nkey_gen {P : Program} {k i : TypeId} {f0 f1 : Field} (hk : P.underlying k = some (.struct #[f0, f1])) (h0 : f0.type = i ∧ f0.offset = 0 ∧ (f0.name != "_") = true) (h1 : f1.type = i ∧ f1.offset = 1 ∧ (f1.name != "_") = true)
    (hi : P.underlying i = some (.int .i64)) (ht : P.keyType k = true) (hc : P.cellsOf k = 2) (hci : P.cellsOf i = 1) (hz : 2 ≤ P.types.size) (F S : Int) (wF : (Lit.int .i64 F).wf = true) (wS : (Lit.int .i64 S).wf = true) :
    ∃ kl, keyOf P k (.agg #[.int .i64 F, .int .i64 S]) = some kl := by
  obtain ⟨m, hm⟩ : ∃ m, P.types.size = m + 1 + 1 := ⟨P.types.size - 2, by omega⟩
  obtain ⟨a0, b0, d0⟩ := h0
  obtain ⟨a1, b1, d1⟩ := h1
  unfold keyOf
  rw [hk]
  simp only [ht, Value.formed, hk, hc, hm]
  simp [Program.keyLits, hk, hi, hc, hci, wF, wS, Value.cells, a0, b0, d0, a1, b1, d1]
theorem St.key {n F S : Int} (h : St n F S) : ∃ kl, keyOf Tryd.prog 92 (.agg #[.int .i64 F, .int .i64 S]) = some kl := by
  obtain ⟨f0, f1, s0, s1⟩ := h.lt
  exact nkey_gen Tryd.underlying92 ⟨rfl, rfl, by decide⟩ ⟨rfl, rfl, by decide⟩ Tryd.underlying2 nt_type nt_cells int_cells (of_decide_eq_true (by kernel_rfl)) F S (WalkArith.wf_i64 (by omega)) (WalkArith.wf_i64 (by omega))
theorem zeroI (w : World) : (zeroValue 2).run Tryd.prog w = .ok (.int .i64 0) w := by kernel_rfl

/-! ### all states -/
def allSt : List (Int × Int) := (List.range 512).flatMap fun r : Nat => (List.range 512).map fun b : Nat => ((r : Int), (b : Int))
theorem flatMap_le {α β : Type} {f : α → List β} {c : Nat} : ∀ (l : List α), (∀ a ∈ l, (f a).length ≤ c) → (l.flatMap f).length ≤ l.length * c
  | [], _ => by simp
  | a :: r, h => by
    have ih := flatMap_le r (fun x hx => h x (by simp [hx]))
    have := h a (by simp)
    rw [List.flatMap_cons, List.length_append, List.length_cons, Nat.add_mul, Nat.one_mul]
    omega
theorem allSt_len : allSt.length ≤ 262144 := by
  have h1 : allSt.length ≤ (List.range 512).length * 512 := flatMap_le _ (fun r _ => by simp)
  simpa using h1
theorem mem_allSt {r b : Int} (hr : 0 ≤ r ∧ r < 512) (hb : 0 ≤ b ∧ b < 512) : (r, b) ∈ allSt := by
  obtain ⟨x, rfl⟩ := Int.eq_ofNat_of_zero_le hr.1
  obtain ⟨y, rfl⟩ := Int.eq_ofNat_of_zero_le hb.1
  simp only [allSt, List.mem_flatMap, List.mem_range, List.mem_map]
  exact ⟨x, by omega, y, by omega, rfl⟩
theorem nodup_le {α : Type} : ∀ (l m : List α), l.Pairwise (fun p q => p ≠ q) → (∀ x ∈ l, x ∈ m) → l.length ≤ m.length
  | [], m, _, _ => Nat.zero_le _
  | x :: r, m, hn, hs => by
    haveI : DecidableEq α := fun a b => Classical.propDecidable (a = b)
    obtain ⟨h1, h2⟩ := List.pairwise_cons.1 hn
    have hx := hs x (by simp)
    have h3 := nodup_le r (m.erase x) h2 (fun y hy => (List.mem_erase_of_ne (fun e => h1 y hy e.symm)).2 (hs y (by simp [hy])))
    rw [List.length_erase_of_mem hx] at h3
    have := List.length_pos_of_mem hx
    simp only [List.length_cons]
    omega

/-! ### what the map holds -/
theorem But.ints' {n : Nat} {w w' : World} {a : Option Addr} {zs : List Int} (h : But n w w') (hz : IntsAt w a zs) (hn : zs ≠ [] → ∀ g off, a = some ⟨g, off, none⟩ → g ≠ n) : IntsAt w' a zs := by
  by_cases e : zs = []
  · subst e; exact CellsAt.nil _ _
  · exact h.ints hz (hn e)
structure TellsN (lv : Int → Int → Int) (n : Int) (D : DataW Unit) : Prop where
  keys : ∀ es, D = .map es → ∀ p ∈ es, ∃ F S, St n F S ∧ keyOf Tryd.prog 92 (.agg #[.int .i64 F, .int .i64 S]) = some p.1
  vals : ∀ (F S : Int) (kl : Lit), St n F S → keyOf Tryd.prog 92 (.agg #[.int .i64 F, .int .i64 S]) = some kl → has D kl = true → ∀ z, D.atKey kl z = .lit (.int .i64 (lv F S))
/-- The map in block bm holds such values; the lines lie elsewhere. -/
structure KnS (lv : Int → Int → Int) (n : Int) (a : Option Addr) (cs : List Int) (bm : Nat) (w : World) : Prop where
  map : ∃ (N : Nat) (D : DataW Unit), w.ownsMap Tryd.prog 92 (plainElem Tryd.prog 2) bm N D ∧ TellsN lv n D
  ints : IntsAt w a cs
  far : cs ≠ [] → ∀ g off, a = some ⟨g, off, none⟩ → g ≠ bm
  tab : TzTab w
  tne : 0 ≠ bm
variable {lv : Int → Int → Int} {n : Int} {a : Option Addr} {cs : List Int}
theorem KnS.lt {w : World} {b : Nat} (h : KnS lv n a cs b w) : b < w.heap.size := by
  obtain ⟨N, D, h1, _⟩ := h.map
  exact h1.lt
theorem KnS.turn {w w' : World} {b : Nat} (h : KnS lv n a cs b w) (hb : w'.heap[b]? = w.heap[b]?) (hi : IntsAt w' a cs) (ht : w'.heap[0]? = w.heap[0]?) : KnS lv n a cs b w' := by
  obtain ⟨N, D, ⟨es, clock, hm, hF, hs, hD⟩, h2⟩ := h.map
  exact ⟨⟨N, D, ⟨es, clock, hb.trans hm, hF, hs, hD⟩, h2⟩, hi, h.far, h.tab.turn ht, h.tne⟩
theorem KnS.keep {w w' : World} {b : Nat} (h : KnS lv n a cs b w) (hb : Below w.heap.size w w') : KnS lv n a cs b w' :=
  h.turn (hb.block b h.lt) (h.ints.keep hb) (hb.block _ h.tab.lt)
theorem KnS.put' {w w' : World} {b N : Nat} {D : DataW Unit} (h : KnS lv n a cs b w) (hown : w'.ownsMap Tryd.prog 92 (plainElem Tryd.prog 2) b N D) (hD : TellsN lv n D) (hbut : But b w w') : KnS lv n a cs b w' :=
  ⟨⟨N, D, hown, hD⟩, hbut.ints' h.ints h.far, h.far, h.tab.turn (hbut.block _ h.tab.lt h.tne), h.tne⟩
theorem KnS.made (w : World) (hi : IntsAt w a cs) (hT : TzTab w) : KnS lv n a cs w.heap.size (w.alloc (.map #[] 0)) :=
  ⟨⟨0, .map [], World.ownsMap_made w _ _ _, ⟨fun es e p hp => (by cases e; cases hp), fun F S kl _ _ hh => by simp [has] at hh⟩⟩, hi.keep (below_alloc _ _), fun hne g off e => by
    obtain ⟨b, o, hb, hl⟩ := CellsAt.lt hi (by simpa using hne)
    rw [hb] at e
    simp only [Option.some.injEq, Addr.mk.injEq] at e
    omega, hT.keep (below_alloc _ _), by have := hT.lt; omega⟩
/-- There is room for one more. -/
theorem KnS.room {w : World} {b : Nat} (h : KnS lv n a cs b w) : ∃ D : DataW Unit, w.ownsMap Tryd.prog 92 (plainElem Tryd.prog 2) b 262144 D ∧ TellsN lv n D := by
  obtain ⟨N, D, hown, ht⟩ := h.map
  obtain ⟨es', hD', hp⟩ := hown.tidy ntKeyed
  obtain ⟨es, clock, hm, hF, hs, hD⟩ := hown
  have hsz : es.size = es'.length := by
    rw [hD'] at hD
    simp only [DataW.map.injEq] at hD
    rw [hD, length_sorted]
    simp
  have hkl : (es'.map (fun p => some p.1)).length ≤ (allSt.map (fun t => keyOf Tryd.prog 92 (.agg #[.int .i64 t.1, .int .i64 t.2]))).length := by
    refine nodup_le _ _ (List.pairwise_map.2 (hp.imp (fun h e => h (Option.some.inj e)))) (fun x hx => ?_)
    obtain ⟨p, hp1, rfl⟩ := List.mem_map.1 hx
    obtain ⟨F, S, hl, hk⟩ := ht.keys es' hD' p hp1
    obtain ⟨f0, f1, s0, s1⟩ := hl.lt
    exact List.mem_map.2 ⟨(F, S), mem_allSt ⟨f0, f1⟩ ⟨s0, s1⟩, hk⟩
  have h8 := allSt_len
  rw [List.length_map, List.length_map] at hkl
  exact ⟨D, ⟨es, clock, hm, hF, by omega, hD⟩, ht⟩
theorem TellsN.put {D : DataW Unit} (h : TellsN lv n D) (hm : IsMap D) {F S : Int} {kl : Lit} (hl : St n F S) (hk : keyOf Tryd.prog 92 (.agg #[.int .i64 F, .int .i64 S]) = some kl) : TellsN lv n (D.put kl (.lit (.int .i64 (lv F S)))) := by
  have hkey := ntKeyed.key hk
  refine ⟨fun es e p hp => ?_, fun F' S' kl' hl' hk' hh' z => ?_⟩
  · obtain ⟨es0, rfl⟩ := hm
    have e' : es = DataW.insert (kl, .lit (.int .i64 (lv F S))) (es0.filter fun p => !p.1.sameKey kl) := by
      have : DataW.put (.map es0) kl (.lit (.int .i64 (lv F S))) = DataW.map (DataW.insert (kl, .lit (.int .i64 (lv F S))) (es0.filter fun p => !p.1.sameKey kl)) := rfl
      rw [this] at e
      simpa using e.symm
    subst e'
    rcases Go.ChangeMaps.mem_insert_iff.1 hp with rfl | hp
    · exact ⟨F, S, hl, hk⟩
    · exact h.keys es0 rfl p (List.mem_filter.1 hp).1
  · by_cases e : kl' = kl
    · subst e
      have ea := ntKeyed.inj hk hk'
      simp at ea
      obtain ⟨rfl, rfl⟩ := ea
      exact atKey_put_same hm hkey _ _
    · rw [atKey_put_other e]
      rw [has_put_other e] at hh'
      exact h.vals F' S' kl' hl' hk' hh' z
end Go.Proofs.YtkekanllfpdeaaaDoor
