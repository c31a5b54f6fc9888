/-
  LengthsOf: the program's text against the plain function.
-/
import Derived.Test.YtlgogpphlnogoaaLens
import Derived.Test.YtlgogpphlnogoaaRuled
namespace Go.Proofs.Ytlgogpphlnogoaa.L
open Go.RowKit Go.Shelf

theorem chk_same (xss : List (List Int)) : chkR lenW xss = chkR lenV xss := by
  unfold chkR
  by_cases h : isGameB xss = true
  · rw [if_pos h, if_pos h, valsL_same (R2 := lenV) (by have := game_len h; omega) len_same]
  · rw [if_neg h, if_neg h]

set_option maxRecDepth 100000 in
set_option maxHeartbeats 2000000 in
theorem lenRule_any (a : Option Addr) (c : Nat) (vs : List Int) (w : World) (ha : IntsAt w a vs) (hl : vs.length ≤ 40) :
    Calls Try.prog 60 #[.slice a vs.length c] w fun e w' => e = .returned (.int .i64 (lenW vs)) ∧ Below w.heap.size w w' := by
  have hfin : ∀ l g : Int, l = (lenF vs).1 → g = (lenF vs).2 → (0 ≤ l → lenW vs = wrap64 (1 + l)) ∧ (¬ 0 ≤ l → lenW vs = wrap64 (1 + g)) := by
    rintro l g rfl rfl
    unfold lenW
    exact ⟨fun h => by rw [if_pos h], fun h => by rw [if_neg h]⟩
  have HF := hide hfin
  obtain ⟨rv, hrv⟩ : ∃ rv, rv = lenW vs := ⟨_, rfl⟩
  rw [← hrv]
  have HRV := hide hrv
  clear hfin hrv
  go_enter Try.func60, Try.ntmps60
  go_wp2
  go_loopw [3, 4, 9] (fun l g i wr => ∃ (k : Nat) (x y : Int), k ≤ vs.length ∧ l = .int .i64 x ∧ g = .int .i64 y ∧ i = .int .i64 k ∧ Hid (x = (lenF (vs.take k)).1) ∧ Hid (y = (lenF (vs.take k)).2) ∧ Below w.heap.size w wr) (fun _ _ i _ => vs.length - (intOf i).toNat)
  case atStart => exact ⟨0, -1, -1, Nat.zero_le _, rfl, rfl, rfl, rfl, rfl, Below.refl _ _⟩
  case round =>
    obtain ⟨k, x, y, hk, rfl, rfl, rfl, hX, hY, hB⟩ := hrel
    by_cases hlt : k < vs.length
    · obtain ⟨b2, o2, z, rfl, h2, hz⟩ := (ha.keep hB).one hlt
      have hE : Hid (lenF (vs.take (k + 1)) = lenStep (x, y) z) := by
        refine hide ?_
        rw [List.take_add_one, hz.out, hX.out, hY.out]
        exact lenF_snoc _ _
      have hE2 : Hid ((if y < z then z else y) = (lenF (vs.take (k + 1))).2) := by
        refine hide ?_
        rw [hE.out]
        show _ = max y z
        split <;> omega
      clear ha
      by_cases he : z.tmod 2 = 0
      · by_cases hx : x < 0
        · have hE1 : Hid (z = (lenF (vs.take (k + 1))).1) := by refine hide ?_; rw [hE.out]; unfold lenStep; dsimp only; rw [if_pos ⟨he, .inl hx⟩]
          go_wp2
          go_roundw
          case rel => exact ⟨k + 1, _, _, by omega, rfl, rfl, by go_num, hE1, hE2, hB⟩
          case measure => simp [intOf]; omega
        · by_cases hzx : z < x
          · have hE1 : Hid (z = (lenF (vs.take (k + 1))).1) := by refine hide ?_; rw [hE.out]; unfold lenStep; dsimp only; rw [if_pos ⟨he, .inr hzx⟩]
            go_wp2
            go_roundw
            case rel => exact ⟨k + 1, _, _, by omega, rfl, rfl, by go_num, hE1, hE2, hB⟩
            case measure => simp [intOf]; omega
          · have hE1 : Hid (x = (lenF (vs.take (k + 1))).1) := by refine hide ?_; rw [hE.out]; unfold lenStep; dsimp only; rw [if_neg (by rintro ⟨_, h | h⟩ <;> omega)]
            go_wp2
            go_roundw
            case rel => exact ⟨k + 1, _, _, by omega, rfl, rfl, by go_num, hE1, hE2, hB⟩
            case measure => simp [intOf]; omega
      · have he' : (z.tmod 2 == 0) = false := by simpa using he
        have hE1 : Hid (x = (lenF (vs.take (k + 1))).1) := by refine hide ?_; rw [hE.out]; unfold lenStep; dsimp only; rw [if_neg (by rintro ⟨h, _⟩; exact he h)]
        go_wp2
        go_roundw
        case rel => exact ⟨k + 1, _, _, by omega, rfl, rfl, by go_num, hE1, hE2, hB⟩
        case measure => simp [intOf]; omega
    · obtain rfl : k = vs.length := by omega
      have h1 := hX.out
      have h2 := hY.out
      rw [List.take_length] at h1 h2
      have hf := HF.out x y h1 h2
      have HFF := hide hf
      clear h1 h2 hf ha
      by_cases hx : 0 ≤ x
      · go_wp2
        go_ret
        exact ⟨ret_int (by rw [HRV.out, HFF.out.1 hx]), hB⟩
      · go_wp2
        go_ret
        exact ⟨ret_int (by rw [HRV.out, HFF.out.2 hx]), hB⟩

set_option maxRecDepth 100000 in
theorem impl_any (a : Option Addr) (c : Nat) (xss : List (List Int)) (w : World) (ha : RowsAt w a xss) (hs : Small xss) :
    Calls Try.prog 22 #[.agg #[.slice a xss.length c]] w (NewList (chkR lenV xss) w) := by
  rw [← chk_same]
  have hB0 : Below w.heap.size w (w.alloc (.cells #[.slice a xss.length c] 29)) := (Below.refl _ _).alloc (Nat.le_refl _) _
  have hfin : ∀ (e : Ending) (w' : World), NewList (chkR lenW xss) (w.alloc (.cells #[.slice a xss.length c] 29)) e w' → ∃ v1 v2, e = .returned (.tuple #[v1, .int .i64 v2]) ∧ NewList (chkR lenW xss) w (.returned (.tuple #[v1, .int .i64 v2])) w' := by
    rintro e w' ⟨a', c', rfl, ho, hB'⟩
    exact ⟨_, _, rfl, _, _, rfl, ownsRow_base ho (by simp), Below.trans' hB0 hB'⟩
  have HF := hide hfin
  clear hfin
  go_enter Try.func22, Try.ntmps22
  go_wp2_with fail
  refine (checkedValues_any 60 #[] lenW (fun _ => True) a c xss _ (ha.keep hB0) hs (enters_of Try.func60 (by kernel_rfl) rfl) trivial (fun _ _ _ => trivial) (fun a c vs W _ hi hl _ => by rw [Array.append_empty]; exact lenRule_any a c vs W hi hl)).mono ?_
  intro e w2 hN
  obtain ⟨v1, v2, rfl, hfin⟩ := HF.out e w2 hN
  have HFIN := hide hfin
  clear hN hfin
  go_wp2_with fail
  go_ret2
  exact HFIN.out
end Go.Proofs.Ytlgogpphlnogoaa.L
