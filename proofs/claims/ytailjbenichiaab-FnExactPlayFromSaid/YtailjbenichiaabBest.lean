/-
  BestMoves: both texts against one plain function.
-/
import Derived.Test.YtailjbenichiaabWonG
import Derived.Test.YtailjbenichiaabPlace
namespace Go.Proofs.Ytailjbenichiaab.B
open Go.RowKit Go.Shelf

/-- Those of the places that are lost. -/
def lostL (st : Nat → Bool) (zs : List Int) : List Int := zs.filter fun q => !st q.toNat
theorem lostL_yes (st : Nat → Bool) {zs : List Int} {j q : Nat} (h : zs[j]? = some (q : Int)) (hs : st q = false) : lostL st (zs.take (j + 1)) = lostL st (zs.take j) ++ [(q : Int)] := by
  rw [List.take_add_one, h]
  simp [lostL, hs]
theorem lostL_no (st : Nat → Bool) {zs : List Int} {j q : Nat} (h : zs[j]? = some (q : Int)) (hs : st q = true) : lostL st (zs.take (j + 1)) = lostL st (zs.take j) := by
  rw [List.take_add_one, h]
  simp [lostL, hs]
theorem lostL_le (st : Nat → Bool) (zs : List Int) : (lostL st zs).length ≤ zs.length := List.length_filter_le _ _

def NewL (zs : List Int) (w : World) (e : Ending) (w' : World) : Prop :=
  ∃ a c, e = .returned (.slice a zs.length c) ∧ w'.ownsRow w.heap.size 2 1 (.slice a zs.length c) zs.length (zs.map intV) ∧ Below w.heap.size w w'

set_option maxRecDepth 100000 in
set_option maxHeartbeats 1000000 in
theorem lostAmong_any (a b : Option Addr) (c d n : Nat) (zs : List Int) (ws : List Bool) (w : World) (ha : IntsAt w a zs) (hb : BoolsAt w b ws) (hn : ws.length = n) (hl : zs.length ≤ 40) (hz : ∀ z ∈ zs, 0 ≤ z ∧ z < n) :
    Calls Try.prog 45 #[.slice a zs.length c, .slice b n d] w (NewL (lostL (fun i => ws[i]?.getD false) zs) w) := by
  obtain ⟨i0, hi, hz0, hz1, hz2⟩ := info_parts Try.info2
  obtain ⟨st, hst⟩ : ∃ st : Nat → Bool, st = fun i => ws[i]?.getD false := ⟨_, rfl⟩
  rw [← hst]
  have HST := hide hst
  have HN := hide hn
  have hfin : ∀ (v : Value) (w' : World), w'.ownsRow w.heap.size 2 1 v (lostL st zs).length ((lostL st zs).map intV) → Below w.heap.size w w' → NewL (lostL st zs) w (.returned v) w' := by
    intro v w' h1 h2
    obtain ⟨a', c', rfl⟩ := own_form h1
    exact ⟨a', c', rfl, h1, h2⟩
  have HF := hide hfin
  have HZ := hide hz
  clear hst hn hfin hz
  go_enter Try.func45, Try.ntmps45
  go_wp2_with fail
  go_loopw [5, 10] (fun v i wr => ∃ (j : Nat) (v0 : Value), v0 = v ∧ j ≤ zs.length ∧ i = .int .i64 j ∧ wr.ownsRow w.heap.size 2 1 v (lostL st (zs.take j)).length ((lostL st (zs.take j)).map intV) ∧ Below w.heap.size w wr) (fun _ i _ => zs.length - (intOf i).toNat)
  case atStart => exact ⟨0, _, rfl, Nat.zero_le _, rfl, by simpa [lostL] using World.ownsRow_nil w w.heap.size 2 1, Below.refl _ _⟩
  case round =>
    obtain ⟨j, v, rfl, hj, rfl, hown, hB⟩ := hrel
    by_cases hlt : j < zs.length
    · obtain ⟨bz, oz, z, rfl, hcz, hzj⟩ := (ha.keep hB).one hlt
      have hzr := HZ.out z (mem_of_get hzj.out)
      obtain ⟨q, rfl⟩ := Int.eq_ofNat_of_zero_le hzr.1
      have hqn : q < n := by omega
      obtain ⟨bw, ow, x, rfl, hcw, hwq⟩ := (hb.keep hB).one (k := q) (by rw [HN.out]; exact hqn)
      have hsq : st q = x := by rw [HST.out]; simp [hwq.out]
      have hel : (lostL st (zs.take j)).length ≤ j := Nat.le_trans (lostL_le _ _) (by simp; omega)
      clear ha hb
      cases x
      · have hE := hide (lostL_yes st hzj.out hsq)
        clear hsq
        go_wp2_with (at_builtin; refine wpList_append_own _ rfl _ _ 26 rfl w.heap.size 2 i0 (.int .i64 0) 1 8 Try.underlying26 hi hz0 hz1 hz2 rfl (by decide) _ _ _ rfl (hown.alloc _) ⟨wr.heap.size, 0, none⟩ 1 1 [.int .i64 q] rfl rfl (cell_one_new _ _ _) (by simp [Value.oneCell']) (by unfold maxLen; omega) (by omega) (by have := hB.size; simp; omega) ?_)
        intro v' w4 hown' hgrow _
        have hB4 : Below w.heap.size w w4 := (hB.alloc hB.size _).grown hgrow (by have := hB.size; simp; omega) (fun j hj => ((hown.alloc (.cells #[Value.int .i64 q] 2)).lt j hj).1)
        have ho4 : Hid (w4.ownsRow w.heap.size 2 1 v' (lostL st (zs.take (j + 1))).length ((lostL st (zs.take (j + 1))).map intV)) := by
          refine hide ?_
          rw [hE.out]
          simpa [intV] using hown'
        clear hown' hgrow hown hB
        go_wp2_with fail
        go_roundw
        case rel => exact ⟨j + 1, _, rfl, by omega, by go_num, ho4.out, hB4⟩
        case measure => simp [intOf]; omega
      · have ho4 : Hid (wr.ownsRow w.heap.size 2 1 v (lostL st (zs.take (j + 1))).length ((lostL st (zs.take (j + 1))).map intV)) := by
          refine hide ?_
          rw [lostL_no st hzj.out hsq]
          exact hown
        clear hown hsq
        go_wp2_with fail
        go_roundw
        case rel => exact ⟨j + 1, _, rfl, by omega, by go_num, ho4.out, hB⟩
        case measure => simp [intOf]; omega
    · obtain rfl : j = zs.length := by omega
      rw [List.take_length] at hown
      have hf := hide (HF.out v wr hown hB)
      clear hown
      go_wp2_with fail
      go_ret
      exact hf.out
end Go.Proofs.Ytailjbenichiaab.B
