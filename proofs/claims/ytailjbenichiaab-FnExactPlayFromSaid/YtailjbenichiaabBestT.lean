/-
  BestMoves: the exported functions.
-/
import Derived.Test.YtailjbenichiaabBestS
namespace Go.Proofs.Ytailjbenichiaab.B
open Go.RowKit Go.Shelf

theorem valsL_length {β : Type} (z : β) (R : List β → β) (xss : List (List Int)) : (valsL z R xss).length = xss.length := by simp [valsL]

def bestR (xss : List (List Int)) (p : Int) : List Int × Int :=
  if placeCode xss p = 0 then (lostL (fun i => (valsL false (wonV false) xss)[i]?.getD false) (rowOf xss p.toNat), 0) else ([], placeCode xss p)

theorem bestR_le (xss : List (List Int)) (p : Int) (hs : Small xss) : (bestR xss p).1.length ≤ 1048576 := by
  unfold bestR
  split
  · dsimp only
    refine Nat.le_trans (lostL_le _ _) ?_
    unfold rowOf
    cases h : xss[p.toNat]? with
    | none => simp
    | some zs => exact hs.2 zs (mem_of_get h)
  · simp

set_option maxRecDepth 100000 in
set_option maxHeartbeats 2000000 in
theorem implBest_any (a : Option Addr) (c : Nat) (xss : List (List Int)) (p : Int) (w : World) (ha : RowsAt w a xss) (hs : Small xss) (_hp : (Lit.int .i64 p).wf = true) :
    Calls Try.prog 22 #[.agg #[.slice a xss.length c], .int .i64 p] w (NewList (bestR xss p) w) := by
  have hB0 : Below w.heap.size w (w.alloc (.cells #[.slice a xss.length c] 29)) := (Below.refl _ _).alloc (Nat.le_refl _) _
  have hbox : (w.alloc (.cells #[.slice a xss.length c] 29)).cell? ⟨w.heap.size, 0, none⟩ = some (.slice a xss.length c) := by simp [go_sem]
  by_cases hc : placeCode xss p = 0
  · obtain ⟨hg, h0, h1⟩ := placeCode_zero hc
    obtain ⟨pn, rfl⟩ := Int.eq_ofNat_of_zero_le h0
    have hpn : pn < xss.length := by omega
    obtain ⟨bp, op, ai, ci, zs, rfl, hcell0, hzz, hgk⟩ := ha.one hpn
    have hR : bestR xss (pn : Int) = (lostL (fun i => (valsL false (wonV false) xss)[i]?.getD false) zs, 0) := by
      unfold bestR
      rw [if_pos hc, Int.toNat_natCast]
      unfold rowOf
      rw [hgk.out]
      rfl
    rw [hR]
    have HG := hide hg
    have HC := hide hc
    have hzl := game_row_len hg hgk.out
    have hrow := hide (fun (z : Int) (hz : z ∈ zs) => show 0 ≤ z ∧ z < ((valsL false (wonV false) xss).length : Int) by
      rw [valsL_length]
      have := game_row hg hgk.out z hz
      omega)
    have hfin : ∀ (v : Value) (w2 w' : World), w.heap.size ≤ w2.heap.size → Below w.heap.size w w2 → NewL (lostL (fun i => (valsL false (wonV false) xss)[i]?.getD false) zs) w2 (.returned v) w' → NewList (lostL (fun i => (valsL false (wonV false) xss)[i]?.getD false) zs, 0) w (.returned (.tuple #[v, .int .i64 0])) w' := by
      rintro v w2 w' hsz hB ⟨g, c', he, ho, hB'⟩
      obtain rfl : v = _ := by simpa using he
      exact ⟨_, _, rfl, ownsRow_base ho hsz, Below.trans' hB hB'⟩
    have HF := hide hfin
    clear hR hg hc hfin
    go_enter Try.func22, Try.ntmps22
    go_wp2_with fail
    refine (checkPlace_any _ _ xss _ _ (ha.keep hB0) hs).mono ?_
    rw [HC.out]
    rintro e w1 ⟨rfl, hB1⟩
    have hb1 := cell_keep hB1 hbox
    have hBB := Below.trans' hB0 hB1
    have hc1 := cell_keep hBB hcell0
    clear hbox hB1
    go_wp2_with fail
    have hd1 : Below w1.heap.size w1 w1.drew := Below.drew (Below.refl _ _)
    have hBd := Below.trans' hBB hd1
    have hbd := cell_keep hd1 hb1
    have hcd := cell_keep hd1 hc1
    have haw := ha.keep hBd
    have hzw := hzz.keep hBd
    clear ha hzz hcell0 hB0 hb1 hc1 hd1
    go_region_held3 (fun W => W.cell? ⟨w.heap.size, 0, none⟩ = some (.slice (some ⟨bp, op, none⟩) xss.length c) ∧ W.cell? ⟨bp, op + pn, none⟩ = some (.slice ai zs.length ci) ∧ Below w.heap.size w W) (first | (exact ⟨hbd, hcd, hBd⟩) | (exact ⟨cell_keep hB2 hbd, cell_keep hB2 hcd, Below.trans' hBd hB2⟩) | (exact ⟨cell_keep hB3 (cell_keep hB2 hbd), cell_keep hB3 (cell_keep hB2 hcd), Below.trans' (Below.trans' hBd hB2) hB3⟩)) (first | (go_at_call 46; refine (valuesBy_any 47 #[] (wonV false) (fun _ => True) _ c xss _ haw hs HG.out (enters_of Try.func47 (by kernel_rfl) rfl) trivial (fun _ _ _ => trivial) (fun a c vs W _ hi hl _ => by rw [Array.append_empty]; exact wonRule_any a c vs W hi hl)).mono ?_; rintro e w2 ⟨a2, c2, rfl, ho2, hB2⟩) | (go_at_call 45; refine (lostAmong_any _ _ ci c2 _ zs (valsL false (wonV false) xss) _ (hzw.keep hB2) (boolsAt_of_ownsRow ho2) rfl hzl hrow.out).mono ?_; rintro e w3 ⟨a3, c3, rfl, ho3, hB3⟩))
    have hf := hide (HF.out _ w2 w3 (Nat.le_trans hBd.size hB2.size) (Below.trans' hBd hB2) ⟨_, _, rfl, ho3, hB3⟩)
    clear ho3 ho2
    go_wp2_with fail
    go_ret2
    exact hf.out
  · have hR : bestR xss p = ([], placeCode xss p) := by unfold bestR; rw [if_neg hc]
    rw [hR]
    have hcc := placeCode_cases xss p
    obtain ⟨cd, hcd⟩ : ∃ cd, cd = placeCode xss p := ⟨_, rfl⟩
    rw [← hcd] at hc hcc ⊢
    have HCD := hide hcd
    clear hR hcd
    have hne : ((cd : Int) != 0) = true := by simpa using hc
    have hfin : ∀ w' : World, Below w.heap.size w w' → NewList ([], cd) w (.returned (.tuple #[.slice none 0 0, .int .i64 cd])) w' := fun w' h => ⟨none, 0, rfl, World.ownsRow_nil _ _ _ _, h⟩
    have HF := hide hfin
    clear hfin hc hcc
    go_enter Try.func22, Try.ntmps22
    go_wp2_with fail
    refine (checkPlace_any _ _ xss _ _ (ha.keep hB0) hs).mono ?_
    rw [← HCD.out]
    rintro e w1 ⟨rfl, hB1⟩
    go_wp2_with fail
    go_ret2
    exact HF.out _ (Below.trans' hB0 hB1)
set_option maxRecDepth 100000 in
set_option maxHeartbeats 2000000 in
theorem specBest_any (a : Option Addr) (c : Nat) (xss : List (List Int)) (p : Int) (w : World) (ha : RowsAt w a xss) (hs : Small xss) (_hp : (Lit.int .i64 p).wf = true) :
    Calls Try.prog 21 #[.agg #[.slice a xss.length c], .int .i64 p] w (NewList (bestR xss p) w) := by
  have hB0 : Below w.heap.size w (w.alloc (.cells #[.slice a xss.length c] 29)) := (Below.refl _ _).alloc (Nat.le_refl _) _
  have hbox : (w.alloc (.cells #[.slice a xss.length c] 29)).cell? ⟨w.heap.size, 0, none⟩ = some (.slice a xss.length c) := by simp [go_sem]
  by_cases hc : placeCode xss p = 0
  · obtain ⟨hg, h0, h1⟩ := placeCode_zero hc
    obtain ⟨pn, rfl⟩ := Int.eq_ofNat_of_zero_le h0
    have hpn : pn < xss.length := by omega
    obtain ⟨bp, op, ai, ci, zs, rfl, hcell0, hzz, hgk⟩ := ha.one hpn
    have hR : bestR xss (pn : Int) = (lostL (fun i => (valsL false (wonV false) xss)[i]?.getD false) zs, 0) := by
      unfold bestR
      rw [if_pos hc, Int.toNat_natCast]
      unfold rowOf
      rw [hgk.out]
      rfl
    rw [hR]
    have HG := hide hg
    have HC := hide hc
    have hzl := game_row_len hg hgk.out
    have hrow := hide (fun (z : Int) (hz : z ∈ zs) => show 0 ≤ z ∧ z < ((valsL false (wonV false) xss).length : Int) by
      rw [valsL_length]
      have := game_row hg hgk.out z hz
      omega)
    have hfin : ∀ (v : Value) (w2 w' : World), w.heap.size ≤ w2.heap.size → Below w.heap.size w w2 → NewL (lostL (fun i => (valsL false (wonV false) xss)[i]?.getD false) zs) w2 (.returned v) w' → NewList (lostL (fun i => (valsL false (wonV false) xss)[i]?.getD false) zs, 0) w (.returned (.tuple #[v, .int .i64 0])) w' := by
      rintro v w2 w' hsz hB ⟨g, c', he, ho, hB'⟩
      obtain rfl : v = _ := by simpa using he
      exact ⟨_, _, rfl, ownsRow_base ho hsz, Below.trans' hB hB'⟩
    have HF := hide hfin
    clear hR hg hc hfin
    go_enter Try.func21, Try.ntmps21
    go_wp2_with fail
    refine (l01Place_any _ _ xss _ _ (ha.keep hB0) hs).mono ?_
    rw [HC.out]
    rintro e w1 ⟨rfl, hB1⟩
    have hb1 := cell_keep hB1 hbox
    have hBB := Below.trans' hB0 hB1
    clear hbox hB1
    go_wp2_with fail
    have hd1 : Below w1.heap.size w1 w1.drew := Below.drew (Below.refl _ _)
    have hBd := Below.trans' hBB hd1
    have hbd := cell_keep hd1 hb1
    have haw := ha.keep hBd
    clear ha hzz hcell0 hB0 hb1 hd1
    go_region_held3 (fun W => W.cell? ⟨w.heap.size, 0, none⟩ = some (.slice (some ⟨bp, op, none⟩) xss.length c) ∧ Below w.heap.size w W) (first | (exact ⟨hbd, hBd⟩) | (exact ⟨cell_keep hB2 hbd, Below.trans' hBd hB2⟩) | (exact ⟨cell_keep hB3 (cell_keep hB2 hbd), Below.trans' (Below.trans' hBd hB2) hB3⟩)) (first | (go_at_call 44; refine (l01Won_f _ c xss _ haw hs HG.out).mono ?_; rintro e w2 ⟨a2, c2, rfl, ho2, hB2⟩) | (go_at_call 43; refine (l01Best_any _ _ c c2 pn _ xss zs (valsL false (wonV false) xss) _ (haw.keep hB2) (boolsAt_of_ownsRow ho2) rfl hgk.out hzl hrow.out).mono ?_; rintro e w3 ⟨a3, c3, rfl, ho3, hB3⟩))
    have hf := hide (HF.out _ w2 w3 (Nat.le_trans hBd.size hB2.size) (Below.trans' hBd hB2) ⟨_, _, rfl, ho3, hB3⟩)
    clear ho3 ho2
    go_wp2_with fail
    go_ret2
    exact hf.out
  · have hR : bestR xss p = ([], placeCode xss p) := by unfold bestR; rw [if_neg hc]
    rw [hR]
    have hcc := placeCode_cases xss p
    obtain ⟨cd, hcd⟩ : ∃ cd, cd = placeCode xss p := ⟨_, rfl⟩
    rw [← hcd] at hc hcc ⊢
    have HCD := hide hcd
    clear hR hcd
    have hne : ((cd : Int) != 0) = true := by simpa using hc
    have hfin : ∀ w' : World, Below w.heap.size w w' → NewList ([], cd) w (.returned (.tuple #[.slice none 0 0, .int .i64 cd])) w' := fun w' h => ⟨none, 0, rfl, World.ownsRow_nil _ _ _ _, h⟩
    have HF := hide hfin
    clear hfin hc hcc
    go_enter Try.func21, Try.ntmps21
    go_wp2_with fail
    refine (l01Place_any _ _ xss _ _ (ha.keep hB0) hs).mono ?_
    rw [← HCD.out]
    rintro e w1 ⟨rfl, hB1⟩
    go_wp2_with fail
    go_ret2
    exact HF.out _ (Below.trans' hB0 hB1)
end Go.Proofs.Ytailjbenichiaab.B
