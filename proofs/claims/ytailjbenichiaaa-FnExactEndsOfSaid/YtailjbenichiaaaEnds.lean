/-
  EndsOf: the program's text and the model's, against one plain function.
-/
import Derived.Test.YtailjbenichiaaaIsGame
import Derived.Test.YtailjbenichiaaaEnds0
namespace Go.Proofs.Ytailjbenichiaaa
open Go.RowKit

def endsTo (xss : List (List Int)) (k : Nat) : List Int := ((List.range k).filter (fun p : Nat => decide (xss[p]?.getD [] = []))).map (fun p : Nat => (p : Int))
theorem endsTo_yes {xss : List (List Int)} {k : Nat} (h : xss[k]? = some []) : endsTo xss (k + 1) = endsTo xss k ++ [(k : Int)] := by
  simp [endsTo, List.range_succ, h]
theorem endsTo_no {xss : List (List Int)} {k : Nat} {zs : List Int} (h : xss[k]? = some zs) (hz : zs ≠ []) : endsTo xss (k + 1) = endsTo xss k := by
  simp [endsTo, List.range_succ, h, hz]
theorem endsTo_le (xss : List (List Int)) (k : Nat) : (endsTo xss k).length ≤ k := by
  unfold endsTo
  rw [List.length_map]
  exact Nat.le_trans (List.length_filter_le _ _) (by simp)
def endsR (xss : List (List Int)) : List Int × Int := if isGameB xss then (endsTo xss xss.length, 0) else ([], 1)

theorem endsR_le (xss : List (List Int)) (hs : Small xss) : (endsR xss).1.length ≤ 1048576 := by
  unfold endsR
  split
  · have := endsTo_le xss xss.length
    have := hs.1
    show (endsTo xss xss.length).length ≤ 1048576
    omega
  · simp

set_option maxRecDepth 100000 in
set_option maxHeartbeats 1000000 in
theorem implEnds_any (a : Option Addr) (c : Nat) (xss : List (List Int)) (w : World) (ha : RowsAt w a xss) (hs : Small xss) :
    Calls Try.prog 24 #[.agg #[.slice a xss.length c]] w (NewList (endsR xss) w) := by
  have hl := hs.1
  obtain ⟨i0, hi, hz0, hz1, hz2⟩ := info_parts Try.info2
  have hB0 : Below w.heap.size w (w.alloc (.cells #[.slice a xss.length c] 26)) := (Below.refl _ _).alloc (Nat.le_refl _) _
  unfold endsR
  cases hg : isGameB xss
  · have hfin : ∀ w' : World, Below w.heap.size w w' → NewList (if false = true then (endsTo xss xss.length, 0) else ([], 1)) w (.returned (.tuple #[.slice none 0 0, .int .i64 1])) w' := fun w' h => ⟨none, 0, rfl, World.ownsRow_nil _ _ _ _, h⟩
    go_enter Try.func24, Try.ntmps24
    go_wp2_with fail
    refine (implIsGame_any _ _ xss _ (ha.keep hB0) hs).mono ?_
    rw [hg]
    rintro e w1 ⟨rfl, hB1⟩
    go_wp2_with fail
    go_ret2
    exact hfin _ (Below.trans' hB0 hB1)
  · have HG := hide hg
    clear hg
    have hfin : ∀ (v : Value) (w' : World), w'.ownsRow (w.heap.size + 1) 2 1 v (endsTo xss xss.length).length ((endsTo xss xss.length).map intV) → Below w.heap.size w w' → NewList (if true = true then (endsTo xss xss.length, 0) else ([], 1)) w (.returned (.tuple #[v, .int .i64 0])) w' := by
      intro v w' h1 h2
      obtain ⟨a', c', rfl⟩ := own_form h1
      exact ⟨a', c', rfl, ownsRow_base h1 (by omega), h2⟩
    have HF := hide hfin
    clear hfin
    have hbox : (w.alloc (.cells #[.slice a xss.length c] 26)).cell? ⟨w.heap.size, 0, none⟩ = some (.slice a xss.length c) := by simp [go_sem]
    go_enter Try.func24, Try.ntmps24
    go_wp2_with fail
    refine (implIsGame_any _ _ xss _ (ha.keep hB0) hs).mono ?_
    rw [HG.out]
    rintro e w1 ⟨rfl, hB1⟩
    have hb1 := cell_keep hB1 hbox
    have hBB := Below.trans' hB0 hB1
    have hsz1 : w.heap.size + 1 ≤ w1.heap.size := by have := hB1.size; simp at this; omega
    clear hbox hB1
    go_wp2_with fail
    go_loopw [4, 13] (fun v i wr => ∃ (k : Nat) (v0 : Value), v0 = v ∧ k ≤ xss.length ∧ i = .int .i64 k ∧ wr.ownsRow (w.heap.size + 1) 2 1 v (endsTo xss k).length ((endsTo xss k).map intV) ∧ w.heap.size + 1 ≤ wr.heap.size ∧ Below w.heap.size w wr) (fun _ i _ => xss.length - (intOf i).toNat)
    case atStart => exact ⟨0, _, rfl, Nat.zero_le _, rfl, World.ownsRow_nil _ _ _ _, hsz1, hBB⟩
    case round =>
      obtain ⟨k, v, rfl, hk, rfl, hown, hsz, hB⟩ := hrel
      by_cases hlt : k < xss.length
      · obtain ⟨b, off, ai, ci, zs, rfl, hcell, hz, hgk⟩ := (ha.keep hB).one hlt
        have hel := endsTo_le xss k
        clear ha hs hb1 hBB
        by_cases h0 : zs.length = 0
        · obtain rfl : zs = [] := List.eq_nil_of_length_eq_zero h0
          have HE : Hid (endsTo xss (k + 1) = endsTo xss k ++ [(k : Int)]) := endsTo_yes hgk.out
          clear h0
          go_wp2_with (at_builtin; refine wpList_append_own _ rfl _ _ 29 rfl (w.heap.size + 1) 2 i0 (.int .i64 0) 1 8 Try.underlying29 hi hz0 hz1 hz2 rfl (by decide) _ _ _ rfl (hown.alloc _) ⟨wr.heap.size, 0, none⟩ 1 1 [.int .i64 k] rfl rfl (cell_one_new _ _ _) (by simp [Value.oneCell']) (by unfold maxLen; omega) (by omega) (by simp; omega) ?_)
          intro v' w2 hown' hgrow _
          have hB2 : Below w.heap.size w w2 := (hB.alloc hB.size _).grown hgrow (by have := hB.size; simp; omega) (fun j hj => by have := (hown.alloc (.cells #[Value.int .i64 k] 2)).lt j hj; omega)
          have hsz2 : w.heap.size + 1 ≤ w2.heap.size := by have := hgrow.size; simp at this; omega
          have ho2 : Hid (w2.ownsRow (w.heap.size + 1) 2 1 v' (endsTo xss (k + 1)).length ((endsTo xss (k + 1)).map intV)) := by
            refine hide ?_
            rw [HE.out]
            simpa [intV] using hown'
          clear hown' hgrow hown hB
          go_wp2_with fail
          go_roundw
          case rel => exact ⟨k + 1, _, rfl, by omega, by go_num, ho2.out, hsz2, hB2⟩
          case measure => simp [intOf]; omega
        · have hne : zs ≠ [] := fun e => h0 (by rw [e]; rfl)
          have ho2 : Hid (wr.ownsRow (w.heap.size + 1) 2 1 v (endsTo xss (k + 1)).length ((endsTo xss (k + 1)).map intV)) := by
            rw [endsTo_no hgk.out hne]; exact hown
          clear hne hown
          go_wp2_with fail
          go_roundw
          case rel => exact ⟨k + 1, _, rfl, by omega, by go_num, ho2.out, hsz, hB⟩
          case measure => simp [intOf]; omega
      · obtain rfl : k = xss.length := by omega
        have hf := HF.out v wr hown hB
        clear hown
        go_wp2_with fail
        go_ret2
        exact hf

set_option maxRecDepth 100000 in
set_option maxHeartbeats 1000000 in
theorem specEnds_any (a : Option Addr) (c : Nat) (xss : List (List Int)) (w : World) (ha : RowsAt w a xss) (hs : Small xss) :
    Calls Try.prog 47 #[.agg #[.slice a xss.length c]] w (NewList (endsR xss) w) := by
  have hl := hs.1
  obtain ⟨i0, hi, hz0, hz1, hz2⟩ := info_parts Try.info2
  have hB0 : Below w.heap.size w (w.alloc (.cells #[.slice a xss.length c] 26)) := (Below.refl _ _).alloc (Nat.le_refl _) _
  unfold endsR
  cases hg : isGameB xss
  · have hfin : ∀ w' : World, Below w.heap.size w w' → NewList (if false = true then (endsTo xss xss.length, 0) else ([], 1)) w (.returned (.tuple #[.slice none 0 0, .int .i64 1])) w' := fun w' h => ⟨none, 0, rfl, World.ownsRow_nil _ _ _ _, h⟩
    go_enter Try.func47, Try.ntmps47
    go_wp2_with fail
    refine (l01Is_any _ _ xss _ (ha.keep hB0) hs).mono ?_
    rw [hg]
    rintro e w1 ⟨rfl, hB1⟩
    go_wp2_with fail
    go_ret2
    exact hfin _ (Below.trans' hB0 hB1)
  · have HG := hide hg
    clear hg
    have hfin : ∀ (v : Value) (w' : World), w'.ownsRow (w.heap.size + 1) 2 1 v (endsTo xss xss.length).length ((endsTo xss xss.length).map intV) → Below w.heap.size w w' → NewList (if true = true then (endsTo xss xss.length, 0) else ([], 1)) w (.returned (.tuple #[v, .int .i64 0])) w' := by
      intro v w' h1 h2
      obtain ⟨a', c', rfl⟩ := own_form h1
      exact ⟨a', c', rfl, ownsRow_base h1 (by omega), h2⟩
    have HF := hide hfin
    clear hfin
    have hbox : (w.alloc (.cells #[.slice a xss.length c] 26)).cell? ⟨w.heap.size, 0, none⟩ = some (.slice a xss.length c) := by simp [go_sem]
    have HBX := hide hbox
    go_enter Try.func47, Try.ntmps47
    go_wp2_with fail
    refine (l01Is_any _ _ xss _ (ha.keep hB0) hs).mono ?_
    rw [HG.out]
    rintro e w1 ⟨rfl, hB1⟩
    have hD1 : Below (w.heap.size + 1) (w.alloc (.cells #[.slice a xss.length c] 26)) w1 := by simpa using hB1
    have hsz1 : w.heap.size + 1 ≤ w1.heap.size := by have := hB1.size; simp at this; omega
    clear hbox hB1
    go_wp2_with fail
    go_loopw [4, 5] (fun v i wr => ∃ (k : Nat) (v0 : Value), v0 = v ∧ k ≤ xss.length ∧ i = .int .i64 k ∧ wr.ownsRow (w.heap.size + 1) 2 1 v (endsTo xss k).length ((endsTo xss k).map intV) ∧ w.heap.size + 1 ≤ wr.heap.size ∧ Below (w.heap.size + 1) (w.alloc (.cells #[.slice a xss.length c] 26)) wr) (fun _ i _ => xss.length - (intOf i).toNat)
    case atStart => exact ⟨0, _, rfl, Nat.zero_le _, rfl, World.ownsRow_made w1 #[] 0 hsz1 (Nat.zero_le _) rfl, by simp; omega, hD1.alloc hsz1 _⟩
    case round =>
      obtain ⟨k, v, rfl, hk, rfl, hown, hsz, hD⟩ := hrel
      have hbx := (hD.cell (p := ⟨w.heap.size, 0, none⟩) (by simp)).trans HBX.out
      have hBw : Below w.heap.size w wr := hB0.trans (hD.mono (by omega))
      go_wp2_with fail
      refine (l01N_any _ _ _ _).mono ?_
      rintro e w2 ⟨rfl, hB2⟩
      have hown2 := ownsRow_keep hown hB2
      have hsz2 : w.heap.size + 1 ≤ w2.heap.size := Nat.le_trans hsz hB2.size
      have hD2 := hD.trans (hB2.mono hsz)
      have hbx2 := cell_keep hB2 hbx
      have hBw2 : Below w.heap.size w w2 := hB0.trans (hD2.mono (by omega))
      clear hown hsz hD hbx hBw hB2
      by_cases hlt : k < xss.length
      · obtain ⟨b, off, ai, ci, zs, rfl, hcell, hz, hgk⟩ := (ha.keep hBw2).one hlt
        have hel := endsTo_le xss k
        clear ha hs
        by_cases h0 : zs.length = 0
        · obtain rfl : zs = [] := List.eq_nil_of_length_eq_zero h0
          have HE : Hid (endsTo xss (k + 1) = endsTo xss k ++ [(k : Int)]) := endsTo_yes hgk.out
          clear h0
          go_wp2_with (at_builtin; refine wpList_append_own _ rfl _ _ 29 rfl (w.heap.size + 1) 2 i0 (.int .i64 0) 1 8 Try.underlying29 hi hz0 hz1 hz2 rfl (by decide) _ _ _ rfl (hown2.alloc _) ⟨w2.heap.size, 0, none⟩ 1 1 [.int .i64 k] rfl rfl (cell_one_new _ _ _) (by simp [Value.oneCell']) (by unfold maxLen; omega) (by omega) (by simp; omega) ?_)
          intro v' w3 hown' hgrow _
          have hD3 : Below (w.heap.size + 1) (w.alloc (.cells #[.slice (some ⟨b, off, none⟩) xss.length c] 26)) w3 := (hD2.alloc hsz2 _).grown hgrow (by simp; omega) (fun j hj => by have := (hown2.alloc (.cells #[Value.int .i64 k] 2)).lt j hj; omega)
          have hsz3 : w.heap.size + 1 ≤ w3.heap.size := by have := hgrow.size; simp at this; omega
          have ho3 : Hid (w3.ownsRow (w.heap.size + 1) 2 1 v' (endsTo xss (k + 1)).length ((endsTo xss (k + 1)).map intV)) := by
            refine hide ?_
            rw [HE.out]
            simpa [intV] using hown'
          clear hown' hgrow hown2 hD2 hBw2
          go_wp2_with fail
          go_roundw
          case rel => exact ⟨k + 1, _, rfl, by omega, by go_num, ho3.out, hsz3, hD3⟩
          case measure => simp [intOf]; omega
        · have hne : zs ≠ [] := fun e => h0 (by rw [e]; rfl)
          have ho3 : Hid (w2.ownsRow (w.heap.size + 1) 2 1 v (endsTo xss (k + 1)).length ((endsTo xss (k + 1)).map intV)) := by
            refine hide ?_
            rw [endsTo_no hgk.out hne]
            exact hown2
          clear hne hown2 hBw2
          go_wp2_with fail
          go_roundw
          case rel => exact ⟨k + 1, _, rfl, by omega, by go_num, ho3.out, hsz2, hD2⟩
          case measure => simp [intOf]; omega
      · obtain rfl : k = xss.length := by omega
        have hf := HF.out v w2 hown2 hBw2
        clear hown2
        go_wp2_with fail
        go_ret2
        exact hf
end Go.Proofs.Ytailjbenichiaaa
