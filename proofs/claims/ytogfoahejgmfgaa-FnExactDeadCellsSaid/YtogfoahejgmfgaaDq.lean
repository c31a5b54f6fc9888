/-
  Boards of hexagons: dead cells, the model's text.
-/
import Derived.Test.YtogfoahejgmfgaaDd
import Derived.Test.YtogfoahejgmfgaaDj
import Derived.Test.YtogfoahejgmfgaaNu
namespace Go.Proofs.Ytogfoahejgmfgaa
open Go.RowKit
set_option linter.unusedVariables false

theorem pre_len_mono (p : Int → Bool) (k : Nat) : ∀ d, (pre p k).length ≤ (pre p (k + d)).length
  | 0 => Nat.le_refl _
  | d + 1 => by
    have h := pre_len_mono p k d
    cases e : p ((k + d : Nat) : Int)
    · rw [show k + (d + 1) = (k + d) + 1 by omega, pre_no e]; exact h
    · rw [show k + (d + 1) = (k + d) + 1 by omega, pre_yes e, List.length_append]; omega
/-- The lists that the model's function of the empty cells returns. -/
def EmpPost (m : Nat) (es : List Int) (W : World) (e : Ending) (w' : World) : Prop :=
  ∃ a1 k1 v2, e = .returned (.tuple #[.slice a1 m k1, v2]) ∧ w'.ownsRow W.heap.size 2 1 (.slice a1 m k1) m (es.map intV) ∧ Below W.heap.size W w'
set_option maxRecDepth 100000 in
set_option maxHeartbeats 1000000 in
theorem specEmpty_any (n : Int) (a : Option Addr) (c m : Nat) (cs : List Int) (hm : (empC cs).length = m) (h9 : m ≤ 9) (W : World) (ha : IntsAt W a cs) (hl : cs.length ≤ 1048576) :
    Calls Try.prog 53 #[.agg #[.int .i64 n, .slice a cs.length c]] W (EmpPost m (empC cs) W) := by
  obtain ⟨i0, hi0, hz0, hz1, hz2⟩ := info_parts Try.info2
  obtain ⟨W0, hW0⟩ : ∃ W0, W0 = W.alloc (.cells #[.int .i64 n, .slice a cs.length c] 28) := ⟨_, rfl⟩
  have hB0 : Hid (Below W.heap.size W W0) := by rw [hW0]; exact hide (below_alloc _ _)
  have hX0 : Hid (HexIn W0 W.heap.size n a cs.length c) := by rw [hW0]; exact hide (hexIn_new _ _ _ _ _ _)
  have HS0 : Hid (W0.heap.size = W.heap.size + 1) := by rw [hW0]; exact hide (by simp)
  have hA0 := hide (ha.keep hB0.out)
  obtain ⟨c0, c1⟩ := hX0.out
  obtain ⟨q, hq⟩ : ∃ q : Int → Bool, q = fun c => hexAt cs c == 0 := ⟨_, rfl⟩
  have HPT : Hid (empC cs = pre q cs.length) := hide (by rw [hq]; rfl)
  rw [HPT.out] at hm ⊢
  have HQ : Hid (∀ (k : Nat) (z : Int), cs[k]? = some z → q (k : Int) = (z == 0)) := hide (fun k z hz => by rw [hq]; show (hexAt cs (k : Int) == 0) = _; rw [hexAt_get hz])
  have HMN : Hid (∀ k, k ≤ cs.length → (pre q k).length ≤ m) := hide (fun k hk => by
    have h := pre_len_mono q k (cs.length - k)
    rw [show k + (cs.length - k) = cs.length by omega, hm] at h
    exact h)
  have HM := hide hm
  obtain ⟨W1, hW1⟩ : ∃ W1, W1 = W0.alloc (.cells #[] 2) := ⟨_, rfl⟩
  have hO1 : Hid (Owns W0.heap.size W0 W1 (.slice (some ⟨W0.heap.size, 0, none⟩) 0 0) (pre q 0)) := by
    rw [hW1]
    exact hide ⟨ownsRow_empty (alloc_row _ _ _) (Nat.le_refl _), below_alloc _ _, by simp⟩
  rw [HS0.out] at hO1
  clear ha hq HPT hm
  go_enter Try.func53, Try.ntmps53
  go_wp2_with fail
  rw [← hW0]
  (try go_wp2_with fail)
  rw [← hW1]
  clear hW0 hW1 c0 c1
  (try go_wp2_with fail)
  go_loopw [4, 5, 6] (fun v pv i wr => ∃ (k p : Nat) (v0 : Value), v0 = v ∧ pv = .int .i64 p ∧ k ≤ cs.length ∧ i = .int .i64 k ∧ Hid (Owns (W.heap.size + 1) W0 wr v (pre q k)) ∧ Hid (p = 3 ^ (pre q k).length)) (fun _ _ i _ => cs.length - (intOf i).toNat)
  case atStart => exact ⟨0, 1, _, rfl, rfl, Nat.zero_le _, rfl, hO1, hide rfl⟩
  case round =>
    clear hO1
    obtain ⟨k, p, v, rfl, rfl, hk, rfl, hO, hp⟩ := hrel
    obtain ⟨c0, c1⟩ := hX0.out.below hO.out.old (by omega)
    have hp9 : p ≤ 19683 := by
      rw [hp.out]
      exact Nat.le_trans (Nat.pow_le_pow_right (by omega) (Nat.le_trans (HMN.out k hk) h9)) (by decide)
    by_cases hlt : k < cs.length
    · have hple := pre_le q k
      obtain ⟨b, off, z, rfl, hcell, hz⟩ := (IntsAt.keep hA0.out (by rw [HS0.out]; exact hO.out.old)).one hlt
      have hown := hO.out.own
      have hsz := hO.out.size
      by_cases hz0 : z = 0
      · have hd : (z == 0) = true := by simp [hz0]
        have HY := hide (pre_yes (p := q) (k := k) (by rw [HQ.out k z hz.out]; exact hd))
        have HP2 : Hid (p * 3 = 3 ^ (pre q (k + 1)).length) := hide (by rw [HY.out, List.length_append, hp.out]; simp [Nat.pow_succ])
        clear hz
        subst hz0
        go_wp2_with (at_builtin; refine wpList_append_own _ rfl _ _ 22 rfl (W.heap.size + 1) 2 i0 (.int .i64 0) 1 8 Try.underlying22 hi0 (by assumption) hz1 hz2 rfl (by decide) _ _ _ rfl (hown.alloc _) ⟨wr.heap.size, 0, none⟩ 1 1 [.int .i64 k] rfl rfl (cell_one_new _ _ _) (by simp [Value.oneCell']) (by unfold maxLen; omega) (by omega) (by simp; omega) ?_)
        intro v' w5 hown' hgrow _
        have HO5 : Hid (Owns (W.heap.size + 1) W0 w5 v' (pre q (k + 1))) := hide (by rw [HY.out]; exact hO.out.snoc (by simpa using hown') hgrow)
        clear hown' hgrow hown
        go_wp2_with fail
        go_roundw
        case rel => exact ⟨k + 1, p * 3, _, rfl, by go_num, by omega, by go_num, HO5, HP2⟩
        case measure => simp [intOf]; omega
      · have hd : (z == 0) = false := by simp [hz0]
        have HN := hide (pre_no (p := q) (k := k) (by rw [HQ.out k z hz.out]; exact hd))
        clear hz hown
        go_wp2_with fail
        go_roundw
        case rel => exact ⟨k + 1, p, _, rfl, rfl, by omega, by go_num, by rw [HN.out]; exact hO, by rw [HN.out]; exact hp⟩
        case measure => simp [intOf]; omega
    · obtain rfl : k = cs.length := by omega
      obtain ⟨a1, k1, hv, ho, hbf⟩ := hO.out.list hB0.out (by omega)
      rw [HM.out] at ho hv
      obtain rfl : v = .slice a1 m k1 := by simpa using hv
      have HO := hide ho
      have HBF := hide hbf
      have hmk := run_make_row' (P := Try.prog) 22 2 (.int .i64 0) 8 Try.underlying22 Try.info2 rfl .i64 .i64 p (by omega) (by omega)
      clear hO ho hbf hv hp
      go_wp2_with fail
      go_region_with fail
      all_goals go_wp2_with fail
      all_goals go_ret2
      all_goals exact ⟨a1, k1, _, rfl, ownsRow_keep HO.out (by (with_reducible (repeat (first | exact Below.refl _ _ | refine Below.drew ?_ | refine below_drewN ?_ _ | refine Below.alloc' ?_ _)))), Below.trans' HBF.out (by (with_reducible (repeat (first | exact Below.refl _ _ | refine Below.drew ?_ | refine below_drewN ?_ _ | refine Below.alloc' ?_ _))))⟩


set_option maxRecDepth 100000 in
set_option maxHeartbeats 1000000 in
theorem ownCells_any (b off n c : Nat) (zs : List Int) (w : World) (hl : zs.length = n) (hn : n ≤ 1000) (ha : IntsAt w (some ⟨b, off, none⟩) zs) :
    Calls Try.prog 54 #[.slice (some ⟨b, off, none⟩) n c] w fun e w' => ∃ g k, e = .returned (.slice (some ⟨g, 0, none⟩) n k) ∧ w'.ownsRow w.heap.size 2 1 (.slice (some ⟨g, 0, none⟩) n k) n (zs.map intV) ∧ Below w.heap.size w w' := by
  subst hl
  obtain ⟨i0, hi, hz0, hz1, hz2⟩ := info_parts Try.info2
  have hB0 : Below w.heap.size w (w.alloc (.cells #[] 2)) := (Below.refl _ _).alloc (Nat.le_refl _) _
  have hown : (w.alloc (.cells #[] 2)).ownsRow w.heap.size 2 1 (.slice (some ⟨w.heap.size, 0, none⟩) 0 0) 0 [] := ⟨rfl, .inr ⟨w.heap.size, 0, #[], rfl, Nat.le_refl _, heap_alloc_new w _, Nat.le_refl _, Nat.zero_le _, rfl, rfl⟩⟩
  have HN : Hid (∀ j u, (zs.map intV)[j]? = some u → (w.alloc (.cells #[] 2)).cell? ((⟨b, off, none⟩ : Addr).add j) = some u) := hide (fun j u hu => by
    have hj : j < (zs.map intV).length := by
      by_cases e : j < (zs.map intV).length
      · exact e
      · rw [List.getElem?_eq_none (by omega)] at hu; cases hu
    obtain ⟨b', o', e, hcc⟩ := (ha.keep hB0) (by intro e; rw [e] at hj; simp at hj)
    cases e
    have h := hcc j hj
    rw [hu] at h
    simp only [Addr.add]
    split
    · rename_i e0; subst e0; simpa using h
    · exact h)
  clear ha
  go_enter Try.func54, Try.ntmps54
  go_wp2_with (at_builtin; refine wpList_append_own _ rfl _ _ 22 rfl w.heap.size 2 i0 (.int .i64 0) 1 8 Try.underlying22 hi hz0 hz1 hz2 rfl (by decide) _ _ _ rfl hown ⟨b, off, none⟩ zs.length c (zs.map intV) rfl (by simp) HN.out (by simp [intV, Value.oneCell']) (by unfold maxLen; omega) (by omega) (by simp) ?_)
  intro v' w4 hown' hgrow hnil
  have hne : v' ≠ .slice none 0 0 := by intro e; first | exact hnil e | (have := hnil.1 e; simp at this)
  obtain ⟨g', c', rfl⟩ : ∃ g c, v' = .slice (some ⟨g, 0, none⟩) (0 + zs.length) c := by
    rcases hown'.2 with ⟨h0, _⟩ | ⟨g, cap, cur, rfl, _⟩
    · exact absurd h0 hne
    · exact ⟨g, cap, by rw [Nat.zero_add]⟩
  have hfin : Hid (∃ g k, (Ending.returned (.slice (some ⟨g', 0, none⟩) (0 + zs.length) c')) = .returned (.slice (some ⟨g, 0, none⟩) zs.length k) ∧ w4.ownsRow w.heap.size 2 1 (.slice (some ⟨g, 0, none⟩) zs.length k) zs.length (zs.map intV) ∧ Below w.heap.size w w4) := by
    refine hide ⟨g', c', by rw [Nat.zero_add], ?_, hB0.grown hgrow (by simp) (fun j hj => (hown.lt j hj).1)⟩
    simpa using hown'
  clear hown' hgrow hnil hne hown
  go_wp2_with fail
  go_ret
  simpa using hfin.out
theorem FillTo.upd {cs es : List Int} {f : Nat → Bool} {X : List Int} {e : Int} {i : Nat} (h : FillTo cs es f es.length X) (he : es[i]? = some e) (hin : ∀ e ∈ es, 0 ≤ e ∧ e < cs.length) (hnd : ∀ (i j : Nat) (x : Int), es[i]? = some x → es[j]? = some x → i = j) (b : Bool) : FillTo cs es (updB f i b) es.length (X.set e.toNat (bitI b)) := by
  obtain ⟨h0, h1⟩ := hin e (List.mem_of_getElem? he)
  have hl := h.len
  have hs := fun c hc => hexAt_set (X := X) (z := bitI b) h0 (by omega) c hc
  refine ⟨by rw [List.length_set]; exact hl, fun c hc hne => ?_, fun j hj x hx => ?_⟩
  · rw [hs c hc, if_neg (fun e' => hne (by rw [e']; exact List.mem_of_getElem? he))]
    exact h.out c hc hne
  · obtain ⟨x0, _⟩ := hin x (List.mem_of_getElem? hx)
    rw [hs x x0]
    unfold updB
    by_cases e' : x = e
    · subst e'
      rw [if_pos rfl, if_pos (hnd j i x hx he)]
    · rw [if_neg e', if_neg (fun ej => by subst ej; rw [he] at hx; cases hx; exact e' rfl)]
      exact h.bit j hj x hx
end Go.Proofs.Ytogfoahejgmfgaa
