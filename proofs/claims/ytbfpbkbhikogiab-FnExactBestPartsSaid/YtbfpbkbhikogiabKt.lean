/-
  Ends of dots and boxes: a map from tallies to values: what it holds; it never has more entries than there are tallies.
-/
import Derived.Test.YtbfpbkbhikogiabTo
import Derived.Test.YtbfpbkbhikogiabBut
import Derived.Maps.OwnSet
namespace Go.Proofs.Ytbfpbkbhikogiab
open Go.RowKit Go.Maps
set_option linter.unusedVariables false

/-! ### the tallies of at most k strands, listed -/
def incT (l : List Nat) (i : Nat) : List Nat := l.set i (tg l i + 1)
theorem inc_dec {l : List Nat} {i : Nat} (hl : l.length = 62) (hi : i < 62) (h0 : 0 < tg l i) : incT (decT l i) i = l := by
  refine tally_ext (by simp [incT, decT, hl]) hl (fun j hj => ?_)
  unfold incT
  rw [tg_set (by rw [decT_len, hl]; exact hi)]
  unfold decT
  rw [tg_set (by rw [hl]; exact hi), tg_set (by rw [hl]; exact hi)]
  by_cases e : j = i
  · subst e
    simp only [if_true]
    omega
  · simp [e]
def genT : Nat → List (List Nat)
  | 0 => [zeroT]
  | k + 1 => zeroT :: (List.range 62).flatMap fun p => (genT k).map fun l => incT l p
theorem flatMap_len {α β : Type} {f : α → List β} {c : Nat} : ∀ (l : List α), (∀ a ∈ l, (f a).length = c) → (l.flatMap f).length = l.length * c
  | [], _ => by simp
  | a :: r, h => by
    have ih := flatMap_len r (fun x hx => h x (by simp [hx]))
    rw [List.flatMap_cons, List.length_append, h a (by simp), ih, List.length_cons, Nat.add_mul, Nat.one_mul]
    omega
theorem genT_len : ∀ k, (genT k).length ≤ 63 ^ k
  | 0 => by simp [genT]
  | k + 1 => by
    have ih := genT_len k
    have h : ((List.range 62).flatMap fun p => (genT k).map fun l => incT l p).length = 62 * (genT k).length := by
      rw [flatMap_len (c := (genT k).length) _ (fun a _ => by simp)]
      simp
    have h1 : 1 ≤ 63 ^ k := Nat.one_le_pow _ _ (by omega)
    simp only [genT, List.length_cons, h, Nat.pow_succ]
    omega
theorem mem_genT : ∀ (k : Nat) (l : List Nat), l.length = 62 → l.sum ≤ k → l ∈ genT k
  | 0, l, hl, hs => by
    have : l = zeroT := (sum_zero_iff hl).2 (by omega)
    simp [genT, this]
  | k + 1, l, hl, hs => by
    by_cases h0 : l.sum = 0
    · have : l = zeroT := (sum_zero_iff hl).2 h0
      simp [genT, this]
    · obtain ⟨i, hi, hp⟩ := sum_pos (l := l) (by omega)
      have h1 := sum_dec l i hp
      have h2 := mem_genT k (decT l i) (by rw [decT_len]; exact hl) (by omega)
      simp only [genT, List.mem_cons, List.mem_flatMap, List.mem_range, List.mem_map]
      exact .inr ⟨i, by omega, decT l i, h2, inc_dec hl (by omega) hp⟩
theorem genT_8 : (genT 8).length ≤ 248155780267521 := genT_len 8

theorem nodup_le {α : Type} : ∀ (l m : List α), l.Pairwise (fun p q => p ≠ q) → (∀ x ∈ l, x ∈ m) → l.length ≤ m.length
  | [], m, _, _ => Nat.zero_le _
  | x :: r, m, hn, hs => by
    haveI : DecidableEq α := fun a b => Classical.propDecidable (a = b)
    obtain ⟨h1, h2⟩ := List.pairwise_cons.1 hn
    have hx := hs x (by simp)
    have h3 := nodup_le r (m.erase x) h2 (fun y hy => (List.mem_erase_of_ne (fun e => h1 y hy e.symm)).2 (hs y (by simp [hy])))
    rw [List.length_erase_of_mem hx] at h3
    have := List.length_pos_of_mem hx
    simp only [List.length_cons]
    omega

theorem zeroE (w : World) : (zeroValue 2).run Try.prog w = .ok (.int .i64 0) w := by kernel_rfl

/-- What a map from tallies to values holds. -/
structure Tells (D : DataW Unit) : Prop where
  keys : ∀ es, D = .map es → ∀ p ∈ es, ∃ l, okT l ∧ keyOf Try.prog 41 (.agg (tc l)) = some p.1
  vals : ∀ (l : List Nat) (kl : Lit), okT l → keyOf Try.prog 41 (.agg (tc l)) = some kl → has D kl = true → ∀ z, D.atKey kl z = .lit (.int .i64 (vT l))
/-- The map in block b holds values of tallies. -/
def KnowsT (b : Nat) (w : World) : Prop := ∃ (n : Nat) (D : DataW Unit), w.ownsMap Try.prog 41 (plainElem Try.prog 2) b n D ∧ Tells D
theorem KnowsT.lt {w : World} {b : Nat} (h : KnowsT b w) : b < w.heap.size := by
  obtain ⟨n, D, h1, _⟩ := h
  exact h1.lt
theorem KnowsT.block {w w' : World} {b : Nat} (h : KnowsT b w) (hb : w'.heap[b]? = w.heap[b]?) : KnowsT b w' := by
  obtain ⟨n, D, ⟨es, clock, hm, hF, hs, hD⟩, h2⟩ := h
  exact ⟨n, D, ⟨es, clock, hb.trans hm, hF, hs, hD⟩, h2⟩
theorem KnowsT.keep {w w' : World} {b : Nat} (h : KnowsT b w) (hb : Below w.heap.size w w') : KnowsT b w' := h.block (hb.block b h.lt)
theorem KnowsT.made (w : World) : KnowsT w.heap.size (w.alloc (.map #[] 0)) :=
  ⟨0, .map [], World.ownsMap_made w _ _ _, ⟨fun es e p hp => (by cases e; cases hp), fun l kl _ _ hh => by simp [has] at hh⟩⟩
/-- There is room for one more. -/
theorem KnowsT.room {w : World} {b : Nat} (h : KnowsT b w) : ∃ D : DataW Unit, w.ownsMap Try.prog 41 (plainElem Try.prog 2) b 248155780267521 D ∧ Tells D := by
  obtain ⟨n, D, hown, ht⟩ := h
  obtain ⟨es', hD', hp⟩ := hown.tidy tallyKeyed
  obtain ⟨es, clock, hm, hF, hs, hD⟩ := hown
  have hsz : es.size = es'.length := by
    rw [hD'] at hD
    simp only [DataW.map.injEq] at hD
    rw [hD, length_sorted]
    simp
  have hkl : (es'.map (fun p => some p.1)).length ≤ ((genT 8).map (fun l => keyOf Try.prog 41 (.agg (tc l)))).length := by
    refine nodup_le _ _ (List.pairwise_map.2 (hp.imp (fun h e => h (Option.some.inj e)))) (fun x hx => ?_)
    obtain ⟨p, hp1, rfl⟩ := List.mem_map.1 hx
    obtain ⟨l, hl, hk⟩ := ht.keys es' hD' p hp1
    exact List.mem_map.2 ⟨l, mem_genT 8 l hl.1 hl.2, hk⟩
  have h8 := genT_8
  rw [List.length_map, List.length_map] at hkl
  exact ⟨D, ⟨es, clock, hm, hF, by omega, hD⟩, ht⟩
theorem Tells.put {D : DataW Unit} (h : Tells D) (hm : IsMap D) {l : List Nat} {kl : Lit} (hl : okT l) (hk : keyOf Try.prog 41 (.agg (tc l)) = some kl) : Tells (D.put kl (.lit (.int .i64 (vT l)))) := by
  have hkey := tallyKeyed.key hk
  refine ⟨fun es e p hp => ?_, fun l' kl' hl' hk' hh' z => ?_⟩
  · obtain ⟨es0, rfl⟩ := hm
    have e' : es = DataW.insert (kl, .lit (.int .i64 (vT l))) (es0.filter fun p => !p.1.sameKey kl) := by
      have : DataW.put (.map es0) kl (.lit (.int .i64 (vT l))) = DataW.map (DataW.insert (kl, .lit (.int .i64 (vT l))) (es0.filter fun p => !p.1.sameKey kl)) := rfl
      rw [this] at e
      simpa using e.symm
    subst e'
    rcases Go.ChangeMaps.mem_insert_iff.1 hp with rfl | hp
    · exact ⟨l, hl, hk⟩
    · exact h.keys es0 rfl p (List.mem_filter.1 hp).1
  · by_cases e : kl' = kl
    · subst e
      have ea := tallyKeyed.inj hk hk'
      simp only [Value.agg.injEq] at ea
      have ea := tc_inj ea
      subst ea
      exact atKey_put_same hm hkey _ _
    · rw [atKey_put_other e]
      rw [has_put_other e] at hh'
      exact h.vals l' kl' hl' hk' hh' z
end Go.Proofs.Ytbfpbkbhikogiab
