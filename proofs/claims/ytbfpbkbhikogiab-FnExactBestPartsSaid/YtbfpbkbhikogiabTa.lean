/-
  Ends of dots and boxes: tallies as values: whole arrays read, stored and compared; keys.
-/
import Derived.Test.YtbfpbkbhikogiabVs
import Derived.Deep.WholeRow
import Derived.Maps.OwnSet
import Derived.DeepKeys4
namespace Go.Proofs.Ytbfpbkbhikogiab
open Go.RowKit Go.Maps
set_option linter.unusedVariables false

/-- The cells of a tally. -/
def tc (l : List Nat) : Array Value := (l.map fun n : Nat => Value.int .u8 (n : Int)).toArray
theorem tc_size (l : List Nat) : (tc l).size = l.length := by simp [tc]
theorem tc_get {l : List Nat} {i : Nat} (h : i < l.length) : (tc l)[i]? = some (.int .u8 (tg l i : Nat)) := by simp [tc, tg, h]
theorem tc_inj {l m : List Nat} (h : tc l = tc m) : l = m := by
  have h2 : (l.map fun n : Nat => Value.int .u8 (n : Int)) = m.map fun n : Nat => Value.int .u8 (n : Int) := by simpa [tc] using h
  have hf : ∀ a b : Nat, Value.int .u8 (a : Int) = .int .u8 (b : Int) → a = b := fun a b e => by simp at e; omega
  clear h
  induction l generalizing m with
  | nil => cases m with
    | nil => rfl
    | cons y r => simp at h2
  | cons x r ih =>
    cases m with
    | nil => simp at h2
    | cons y s =>
      simp only [List.map_cons, List.cons.injEq] at h2
      rw [hf x y h2.1, ih h2.2]
theorem tc_set {l : List Nat} {i v : Nat} : (tc l).setIfInBounds i (.int .u8 (v : Int)) = tc (l.set i v) := by
  simp [tc, List.map_set]
theorem tc_one (l : List Nat) : (tc l).all (·.oneCell') = true := by
  rw [Array.all_eq_true_iff_forall_mem]
  intro v hv
  simp only [tc, List.mem_toArray, List.mem_map] at hv
  obtain ⟨n, _, rfl⟩ := hv
  rfl
def zeroT : List Nat := List.replicate 62 0
theorem zeroT_len : zeroT.length = 62 := by simp [zeroT]
theorem sum_zero_iff {l : List Nat} (h : l.length = 62) : l = zeroT ↔ l.sum = 0 := by
  constructor
  · intro e; rw [e]; decide
  · intro hs
    refine tally_ext h zeroT_len (fun i hi => ?_)
    have h1 := tg_le l i
    have h2 : tg zeroT i = 0 := by unfold tg zeroT; rw [List.getElem?_replicate, if_pos hi]; rfl
    omega

theorem tInfo : ((Try.prog).info? 41).map (·.size) = some 62 := by kernel_rfl
theorem tUnder : (Try.prog).underlying 41 = some (.array 2 39) := by kernel_rfl
theorem rUnder : (Try.prog).underlying 39 = some (.array 31 5) := by kernel_rfl
theorem bUnder : (Try.prog).underlying 5 = some (.int .u8) := by kernel_rfl
theorem tCells : (Try.prog).cellsOf 41 = 62 := by kernel_rfl
theorem rCells : (Try.prog).cellsOf 39 = 31 := by kernel_rfl
theorem bCells : (Try.prog).cellsOf 5 = 1 := by kernel_rfl
theorem tKey : (Try.prog).keyType 41 = true := by kernel_rfl
theorem tRow : (41 : TypeId) < (Try.prog).types.size := of_decide_eq_true (by kernel_rfl)
theorem tWide : (match (Try.prog).underlying 41 with | some (.array _ _) | some (.struct _) => true | _ => false) = true := by rw [tUnder]
set_option maxRecDepth 100000 in
theorem tKeyAt : (Try.prog).keyTypeAt 3 41 = true := by kernel_rfl
set_option maxRecDepth 100000 in
theorem tallyKeyed : Keyed Try.prog 41 := Keyed.of_law (deep_law_laid laidOut (m := 3) (by omega) tRow tKeyAt tWide)

theorem mapM_some {α β : Type} {f : α → Option β} : ∀ (l : List α), (∀ x ∈ l, ∃ y, f x = some y) → ∃ ys, l.mapM f = some ys
  | [], _ => ⟨[], rfl⟩
  | x :: r, h => by
    obtain ⟨y, hy⟩ := h x (by simp)
    obtain ⟨ys, hys⟩ := mapM_some r (fun z hz => h z (by simp [hz]))
    exact ⟨y :: ys, by rw [List.mapM_cons, hy]; simp [hys]⟩
theorem key_gen {P : Program} {t r b : TypeId} (ht : P.underlying t = some (.array 2 r)) (hr : P.underlying r = some (.array 31 b)) (hb : P.underlying b = some (.int .u8)) (ct : P.cellsOf t = 62) (cr : P.cellsOf r = 31) (cb : P.cellsOf b = 1) (hk : P.keyType t = true) (hs : 2 ≤ P.types.size)
    (l : List Nat) (hl : l.length = 62) (h : ∀ n ∈ l, n < 256) : ∃ kl, keyOf P t (.agg (tc l)) = some kl := by
  obtain ⟨m, hm⟩ : ∃ m, P.types.size + 1 = m + 3 := ⟨P.types.size - 2, by omega⟩
  have hcell : ∀ (cs : List Value), (∃ n : Nat, n < 256 ∧ cs = [.int .u8 (n : Int)]) → ∃ ls, P.keyLits (m + 1) b cs = some ls := by
    rintro cs ⟨n, hn, rfl⟩
    refine ⟨[.int .u8 n], ?_⟩
    unfold Program.keyLits
    have hw : (Lit.int .u8 (n : Int)).wf = true := WalkArith.wf_u8 (by omega)
    simp [hb, hw]
  have hsub : ∀ i, i < 62 → ∃ n : Nat, n < 256 ∧ ((tc l).toList.drop i).take 1 = [.int .u8 (n : Int)] := by
    intro i hi
    refine ⟨tg l i, ?_, ?_⟩
    · have : l[i]'(by omega) ∈ l := List.getElem_mem (by omega)
      have h2 := h _ this
      unfold tg
      rw [List.getElem?_eq_getElem (by omega)]
      exact h2
    · have := tc_get (l := l) (i := i) (by omega)
      rw [← Array.getElem?_toList] at this
      rw [List.drop_eq_getElem_cons (by simp [tc]; omega)]
      rw [List.getElem?_eq_getElem (by simp [tc]; omega)] at this
      simp only [Option.some.injEq] at this
      rw [this]
      rfl
  have hrow : ∀ i, i < 2 → ∃ ls, P.keyLits (m + 2) r (((tc l).toList.drop (i * 31)).take 31) = some ls := by
    intro i hi
    obtain ⟨ys, hys⟩ := mapM_some (f := fun j => P.keyLits (m + 1) b ((((tc l).toList.drop (i * 31)).take 31).drop (j * 1) |>.take 1)) (List.range 31) (fun j hj => by
      have hj := List.mem_range.1 hj
      apply hcell
      obtain ⟨n, hn, e⟩ := hsub (i * 31 + j) (by omega)
      refine ⟨n, hn, ?_⟩
      rw [← e, List.drop_take, List.take_take, List.drop_drop]
      congr 1
      · omega
      · congr 1; omega)
    refine ⟨ys.flatten, ?_⟩
    have hlen : (((tc l).toList.drop (i * 31)).take 31).length = 31 := by simp [tc, hl]; omega
    unfold Program.keyLits
    simp only [hr, cr, hlen, if_true, cb]
    rw [hys]
    rfl
  obtain ⟨zs, hzs⟩ := mapM_some (f := fun i => P.keyLits (m + 2) r (((tc l).toList.drop (i * 31)).take 31)) (List.range 2) (fun i hi => hrow i (List.mem_range.1 hi))
  have htop : P.keyLits (m + 3) t (tc l).toList = some zs.flatten := by
    have hlen : (tc l).toList.length = 62 := by simp [tc, hl]
    unfold Program.keyLits
    simp only [ht, ct, hlen, if_true, cr]
    rw [hzs]
    rfl
  have hform : (Value.agg (tc l)).formed P t = true := by
    simp [Value.formed, ht, ct, tc_size, hl]
  refine ⟨.string (keyBytes zs.flatten), ?_⟩
  unfold keyOf
  rw [ht]
  simp only [hk, hform, Bool.and_self, if_true, Value.cells, hm, htop, Option.map_some]
theorem tally_key (l : List Nat) (h : okT l) : ∃ kl, keyOf Try.prog 41 (.agg (tc l)) = some kl :=
  key_gen tUnder rUnder bUnder tCells rCells bCells tKey (of_decide_eq_true (by kernel_rfl)) l h.1 (fun n hn => by
    obtain ⟨i, hi⟩ := List.mem_iff_getElem?.1 hn
    have h1 := tg_le l i
    have h2 : tg l i = n := by unfold tg; rw [hi]; rfl
    have := h.2
    omega)

set_option maxRecDepth 100000 in
/-- Two tallies compared. -/
theorem equal_any (l m : List Nat) (hl : okT l) (hm : okT m) (w : World) : (Op.equal 41 (.agg (tc l)) (.agg (tc m))).run Try.prog w = .ok (decide (l = m)) w := by
  obtain ⟨kl, hkl⟩ := tally_key l hl
  obtain ⟨km, hkm⟩ := tally_key m hm
  obtain ⟨r, hr, hiff⟩ := run_equal_deep w (m := 3) (by omega) tKeyAt tWide hkl hkm
  rw [hr]
  congr 1
  by_cases e : l = m
  · subst e
    have : kl = km := Option.some.inj (hkl.symm.trans hkm)
    rw [hiff.2 this]
    simp
  · have : r = false := by
      cases hrr : r with
      | false => rfl
      | true =>
        have h2 := hiff.1 hrr
        subst h2
        have := tallyKeyed.inj hkl hkm
        simp only [Value.agg.injEq] at this
        exact absurd (tc_inj this) e
    rw [this]
    simp [e]
end Go.Proofs.Ytbfpbkbhikogiab
