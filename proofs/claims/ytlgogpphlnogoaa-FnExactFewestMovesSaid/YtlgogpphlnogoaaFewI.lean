/-
  FewestMoves: both texts against one plain function.
-/
import Derived.Test.YtlgogpphlnogoaaPick
import Derived.StillTailTactics
namespace Go.Proofs.Ytlgogpphlnogoaa.F
open Go.RowKit Go.Shelf

theorem stL_zero {β : Type} {z : β} {R : List β → β} {xss : List (List Int)} {n : Nat} : ∀ (k : Nat) (h : k ≤ n) (i : Nat), i < n - k → stL z R xss (downs n k h) i = z
  | 0, _, _, _ => rfl
  | k + 1, h, i, hi => by
    rw [downs, stL_snoc]
    unfold upd
    have : ¬ i = n - 1 - k := by omega
    show (if i = n - 1 - k then _ else _) = z
    rw [if_neg this]
    exact stL_zero k (by omega) i (by omega)
theorem afterOf_snoc {β : Type} (st : Nat → β) {zs : List Int} {j q : Nat} (h : zs[j]? = some (q : Int)) : afterOf st (zs.take (j + 1)) = afterOf st (zs.take j) ++ [st q] := by
  rw [List.take_add_one, h]
  simp [afterOf]

theorem pickBd (lo hi : Int) (vs : List Int) (h0 : vs ≠ []) (h : ∀ x ∈ vs, lo ≤ x ∧ x ≤ hi) : lo ≤ minL vs ∧ minL vs ≤ hi := minL_bd h0 h
theorem chk_same (xss : List (List Int)) : chkR (oneMoreW minL) xss = chkR (oneMore minL) xss := by
  unfold chkR
  by_cases h : isGameB xss = true
  · rw [if_pos h, if_pos h, valsL_same (R2 := oneMore minL) (by have := game_len h; omega) (fun k vs hk hv => oneMore_same pickBd k vs hk hv)]
  · rw [if_neg h, if_neg h]

set_option maxRecDepth 100000 in
set_option maxHeartbeats 1000000 in
theorem impl_any (a : Option Addr) (c : Nat) (xss : List (List Int)) (w : World) (ha : RowsAt w a xss) (hs : Small xss) :
    Calls Try.prog 13 #[.agg #[.slice a xss.length c]] w (NewList (chkR (oneMore minL) xss) w) := by
  rw [← chk_same]
  have hB0 : Below w.heap.size w (w.alloc (.cells #[.slice a xss.length c] 29)) := (Below.refl _ _).alloc (Nat.le_refl _) _
  have hbox : (w.alloc (.cells #[.slice a xss.length c] 29)).cell? ⟨w.heap.size, 0, none⟩ = some (.slice a xss.length c) := by simp [go_sem]
  have hBW : Below w.heap.size w (((w.alloc (.cells #[.slice a xss.length c] 29)).alloc (.cells #[.func (.func 55) #[] #[]] 63)).drew) := ((((Below.refl _ _).alloc (Nat.le_refl _) _).alloc (by simp) _).drew)
  have hcf : (((w.alloc (.cells #[.slice a xss.length c] 29)).alloc (.cells #[.func (.func 55) #[] #[]] 63)).drew).cell? ⟨w.heap.size + 1, 0, none⟩ = some (.func (.func 55) #[] #[]) := by simp [go_sem]
  have hcall := checkedValues_any 93 #[.pointer (some ⟨w.heap.size + 1, 0, none⟩)] (oneMoreW minL) (fun _ => True) a c xss (((w.alloc (.cells #[.slice a xss.length c] 29)).alloc (.cells #[.func (.func 55) #[] #[]] 63)).drew) (ha.keep hBW) hs (enters_of Try.func93 (by kernel_rfl) rfl) trivial (fun _ _ _ => trivial) (fun a c vs W hW hi hl _ => by
    have := fewRule_any (w.heap.size + 1) a c vs W hi hl (cell_keep hW hcf)
    simpa using this)
  have HCALL := hide hcall
  have HBW := hide hBW
  clear hcall hcf hBW
  have hfin : ∀ (e : Ending) (w1 w' : World), Below w.heap.size w w1 → NewList (chkR (oneMoreW minL) xss) w1 e w' → ∃ v1 v2, e = .returned (.tuple #[v1, .int .i64 v2]) ∧ NewList (chkR (oneMoreW minL) xss) w (.returned (.tuple #[v1, .int .i64 v2])) w' := by
    rintro e w1 w' hB ⟨a', c', rfl, ho, hB'⟩
    exact ⟨_, _, rfl, _, _, rfl, ownsRow_base ho hB.size, Below.trans' hB hB'⟩
  have HF := hide hfin
  clear hfin
  go_enter Try.func13, Try.ntmps13
  go_wp2_with fail
  go_region_with (first | (go_at_call 54; (with_reducible refine (movesBy_any _ _).mono ?_); rintro e w1 ⟨rfl, rfl⟩) | (go_at_call 53; refine HCALL.out.mono ?_; intro e w2 hN; obtain ⟨v1, v2, rfl, hfin⟩ := HF.out e _ w2 HBW.out hN; have HFIN := hide hfin; clear hN hfin))
  all_goals
    go_wp2_with fail
    go_ret2
    exact HFIN.out
end Go.Proofs.Ytlgogpphlnogoaa.F
