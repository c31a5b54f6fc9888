/-
  slices.Grow, Concat of two lists; a list made an array (placedFrom).
-/
import Derived.Test.YtkekanllfpdeaaaDoorWt
import Derived.Test.YtkekanllfpdeaaaDoorSg
import Derived.Test.YtkekanllfpdeaaaDoorPu
namespace Go.Proofs.YtkekanllfpdeaaaDoor
open Go.RowKit Go.Shelf
set_option linter.unusedVariables false

theorem grow_any (n : Nat) (w : World) (h0 : 1 ≤ n) (h1 : n ≤ 100) : Calls Tryd.prog 181 #[.slice none 0 0, .int .i64 n] w fun e w' => ∃ v', e = .returned v' ∧ Owns w.heap.size w w' v' [] := by
  obtain ⟨i0, hi0, hz0, hz1, hz2⟩ := info_parts Tryd.info2
  have hg := Any8.slices_Grow_grow Tryd.laysGrow i0 (.int .i64 0) hi0 hz0 (by rw [hz1]; decide) none 0 0 n [] w (Nat.le_refl _) (by omega) (by rw [hz2]; omega) (by omega) (by simp) (fun _ => rfl) (fun a h => by cases h)
  refine hg.mono ?_
  rintro e w' ⟨rfl, rfl⟩
  have hc := grownCap_ge w (0 + n) 0 (Tryd.laysGrow_ren.t 25)
  have hm := grownCap_le_maxLen w (0 + n) 0 (Tryd.laysGrow_ren.t 25) (by unfold maxLen; omega)
  obtain ⟨G, hG⟩ : ∃ G, G = grownCap w (0 + n) 0 (Tryd.laysGrow_ren.t 25) := ⟨_, rfl⟩
  rw [← hG] at hc hm ⊢
  refine ⟨_, rfl, ⟨rfl, .inr ⟨w.heap.size, G, _, rfl, Nat.le_refl _, heap_alloc_new w.drew _, Nat.zero_le _, hm, ?_, rfl⟩⟩, (Below.drew (Below.refl _ _)).alloc (by simp) _, by simp⟩
  simp [Builtin.zeroCells, Value.cells]
  omega

theorem ints_at_off {w : World} {b o : Nat} {zs : List Int} (h : IntsAt w (some ⟨b, o, none⟩) zs) : ∀ j u, (zs.map intV)[j]? = some u → w.cell? ((⟨b, o, none⟩ : Addr).add j) = some u := by
  intro j u hu
  have hj : j < zs.length := by have := (List.getElem?_eq_some_iff.1 hu).1; simpa using this
  obtain ⟨b', o', z, he, hc, hz⟩ := h.one hj
  cases he
  rw [List.getElem?_map, hz.out] at hu
  cases hu
  simp only [Addr.add]
  split
  · rename_i e; subst e; simpa [intV] using hc
  · exact hc

set_option maxRecDepth 100000 in
set_option maxHeartbeats 4000000 in
theorem concat_any (G b1 o1 c1 b2 o2 c2 : Nat) (xs ys : List Int) (w : World) (g0 : w.cell? ⟨G, 0, none⟩ = some (.slice (some ⟨b1, o1, none⟩) xs.length c1)) (g1 : w.cell? ⟨G, 1, none⟩ = some (.slice (some ⟨b2, o2, none⟩) ys.length c2))
    (hx : IntsAt w (some ⟨b1, o1, none⟩) xs) (hy : IntsAt w (some ⟨b2, o2, none⟩) ys) (x1 : 1 ≤ xs.length) (x2 : xs.length ≤ 40) (y2 : ys.length ≤ 40) :
    Calls Tryd.prog 134 #[.slice (some ⟨G, 0, none⟩) 2 2] w (NewL (xs ++ ys) w) := by
  obtain ⟨i0, hi0, hz0, hz1, hz2⟩ := info_parts Tryd.info2
  obtain ⟨n, hn⟩ : ∃ n, n = xs.length := ⟨_, rfl⟩
  obtain ⟨m, hm⟩ : ∃ m, m = ys.length := ⟨_, rfl⟩
  have HGR : Hid (∀ W : World, Calls Tryd.prog 181 #[.slice none 0 0, .int .i64 ((n : Int) + (m : Int))] W fun e w' => ∃ v', e = .returned v' ∧ Owns W.heap.size W w' v' []) := hide (fun W => by rw [← Int.natCast_add]; exact grow_any (n + m) W (by omega) (by omega))
  have HX := hide hx
  have HY := hide hy
  have HG0 := hide g0
  have HG1 := hide g1
  have e0 : wrap64 (0 + (n : Int)) = (n : Int) := by unfold wrap64; omega
  have e1 : wrap64 ((n : Int) + (m : Int)) = ((n + m : Nat) : Int) := by unfold wrap64; omega
  have e2 : decide ((((n + m : Nat) : Int)) < 0) = false := decide_eq_false (by omega)
  rw [← hn] at g0 x1 x2 HG0
  rw [← hm] at g1 y2 HG1
  have hnm := hide (And.intro hn hm)
  clear hx hy hn hm
  go_enter Tryd.func134, Tryd.ntmps134
  go_wp2_with fail
  refine wp_loop_rounds 3 ?_
  rw [rounds_succ]
  go_wp2_with fail
  rw [rounds_succ]
  go_wp2_with fail
  rw [rounds_succ]
  go_wp2_with fail
  refine (HGR.out _).mono ?_
  rintro e w1 ⟨v1, rfl, ho1⟩
  obtain ⟨a1, k1, rfl⟩ := own_form ho1.own
  have hO1 := hide ho1
  have HX1 := hide (ints_at_off (HX.out.keep ho1.old))
  have g10 := cell_keep ho1.old HG0.out
  have g11 := cell_keep ho1.old HG1.out
  have hown1 : w1.ownsRow w.heap.size 2 1 (.slice a1 0 k1) 0 [] := ho1.own
  have hsz1 := ho1.size
  clear ho1 g0 g1 e0 e1 e2
  go_wp2_with fail
  refine wp_loop_rounds 3 ?_
  rw [rounds_succ]
  go_wp2_with (at_builtin; refine wpList_append_own _ rfl _ _ 22 rfl (w.heap.size) 2 i0 (.int .i64 0) 1 8 Tryd.underlying22 hi0 hz0 hz1 hz2 rfl (by decide) _ _ _ rfl hown1 ⟨b1, o1, none⟩ n c1 (xs.map intV) rfl (by have := hnm.out.1; rw [List.length_map]; omega) HX1.out (fun u h => by obtain ⟨z, _, rfl⟩ := List.mem_map.1 h; rfl) (by unfold maxLen; omega) (by omega) (by omega) ?_)
  intro v2 w2 hown2 hgrow2 _
  obtain ⟨a2, k2, rfl⟩ := own_form hown2
  have hB2 : Below w.heap.size w w2 := hO1.out.old.grown hgrow2 hO1.out.size (fun j hj => (hO1.out.own.lt j hj).1)
  have hO2 : Hid (Owns w.heap.size w w2 (.slice a2 n k2) xs) := hide ⟨by rw [← hnm.out.1]; simpa using hown2, hB2, hB2.size⟩
  have HY2 := hide (ints_at_off (HY.out.keep hB2))
  have g21 := cell_keep hB2 HG1.out
  have hsz2 := hB2.size
  have hown3 := hO2.out.own
  rw [← hnm.out.1] at hown3
  clear hown1 hown2 hgrow2 g10 g11 hB2 hsz1
  go_wp2_with fail
  rw [rounds_succ]
  go_wp2_with (at_builtin; refine wpList_append_own _ rfl _ _ 22 rfl (w.heap.size) 2 i0 (.int .i64 0) 1 8 Tryd.underlying22 hi0 hz0 hz1 hz2 rfl (by decide) _ _ _ rfl hown3 ⟨b2, o2, none⟩ m c2 (ys.map intV) rfl (by have := hnm.out.2; rw [List.length_map]; omega) HY2.out (fun u h => by obtain ⟨z, _, rfl⟩ := List.mem_map.1 h; rfl) (by unfold maxLen; omega) (by omega) (by omega) ?_)
  intro v3 w3 hown4 hgrow4 _
  obtain ⟨a3, k3, rfl⟩ := own_form hown4
  have hB3 : Below w.heap.size w w3 := hO2.out.old.grown hgrow4 hO2.out.size (fun j hj => (hO2.out.own.lt j hj).1)
  have hO3 : Hid (Owns w.heap.size w w3 (.slice a3 (n + m) k3) (xs ++ ys)) := hide ⟨by rw [List.length_append, ← hnm.out.1, ← hnm.out.2, List.map_append]; exact hown4, hB3, hB3.size⟩
  clear hown3 hown4 hgrow4 g21 hB3 hsz2
  go_wp2_with fail
  rw [rounds_succ]
  go_wp2_with fail
  go_ret
  exact hO3.out.list (Below.refl _ _) (Nat.le_refl _)

theorem arrayAt_any (a : Option Addr) (n c : Nat) (h : 3 ≤ n) (w : World) : (Instr.arrayAt 112 (.slice a n c)).run Tryd.prog w = .ok (.pointer a) w := by
  have : ¬ (n < 3) := by omega
  simp [Instr.arrayAt, run_underlying Tryd.underlying112, this]
theorem st3_box {w : World} {b : Nat} {t : T3} {ty : TypeId} (x y z : Int) (h : w.heap[b]? = some (.cells (cellsT t) ty (0, 0))) : (((w.setCell ⟨b, 0, none⟩ (.int .i64 x)).setCell ⟨b, 1, none⟩ (.int .i64 y)).setCell ⟨b, 2, none⟩ (.int .i64 z)).heap[b]? = some (.cells (cellsT (x, y, z)) ty (0, 0)) :=
  boxT_set (k := 2) z (boxT_set (k := 1) y (boxT_set (k := 0) x h (by omega)) (by omega)) (by omega)
theorem list3 {f : List Int} (h1 : 1 ≤ f.length) (h3 : f.length ≤ 3) : ∃ rest, f ++ [0, 0, 0] = (padF f).1 :: (padF f).2.1 :: (padF f).2.2 :: rest := by
  match f, h1, h3 with
  | [a], _, _ => exact ⟨[0], rfl⟩
  | [a, b], _, _ => exact ⟨[0, 0], rfl⟩
  | [a, b, c], _, _ => exact ⟨[0, 0, 0], rfl⟩

set_option maxRecDepth 100000 in
set_option maxHeartbeats 4000000 in
theorem placedFrom_any (b o c : Nat) (f : List Int) (w : World) (hf : IntsAt w (some ⟨b, o, none⟩) f) (f1 : 1 ≤ f.length) (f3 : f.length ≤ 3) :
    Calls Tryd.prog 85 #[.slice (some ⟨b, o, none⟩) f.length c] w (RetB (valT (padF f)) w) := by
  have HF := hide hf
  obtain ⟨w0, hw0⟩ : ∃ w0, w0 = w.alloc (.cells #[.int .i64 0, .int .i64 0, .int .i64 0] 112) := ⟨_, rfl⟩
  have hB0 : Hid (Below w.heap.size w w0) := by rw [hw0]; exact hide (below_alloc _ _)
  have hr0 : Hid (w0.heap[w.heap.size]? = some (.cells (cellsT (0, 0, 0)) 112 (0, 0))) := by rw [hw0]; exact hide (heap_alloc_new _ _)
  clear hf
  go_enter Tryd.func85, Tryd.ntmps85
  go_wp2_with (at_make; refine wpList_make_fresh _ rfl _ _ 22 rfl 2 (.int .i64 0) 8 Tryd.underlying22 Tryd.info2 rfl .i64 .i64 3 rfl rfl (by omega) (by omega) ?_; intro w2 hr2 hB2)
  have hB2' : Below w.heap.size w w2 := Below.trans' (below_alloc _ _) hB2
  have hs2 : w.heap.size + 1 ≤ w2.heap.size := by have := hB2.size; simpa using this
  obtain ⟨w3, hw3⟩ : ∃ w3, w3 = w2.alloc (.cells #[.slice (some ⟨b, o, none⟩) f.length c, .slice (some ⟨w.heap.size + 1, 0, none⟩) 3 3] 22) := ⟨_, rfl⟩
  have hr2' : w2.rowIs (w.heap.size + 1) 2 3 (fun _ => .int .i64 0) := by simpa using hr2
  have hz := rowIs_owns (base := w.heap.size + 1) (vs := [(0 : Int), 0, 0].map intV) hr2' (Nat.le_refl _) (by unfold maxLen; omega) rfl (fun i hi => by
    have : i = 0 ∨ i = 1 ∨ i = 2 := by omega
    rcases this with h | h | h <;> subst h <;> rfl)
  have hb23 : Below w2.heap.size w2 w3 := by rw [hw3]; exact below_alloc _ _
  have hZ3 := hide (intsAt_of_ownsRow (ownsRow_keep hz hb23))
  have hF3 := hide (HF.out.keep (Below.trans' hB2' hb23))
  have hB3 := hide (Below.trans' hB2' hb23)
  have hr3 : Hid (w3.heap[w.heap.size]? = some (.cells (cellsT (0, 0, 0)) 112 (0, 0))) := hide (by
    have h1 : (w.alloc (.cells #[.int .i64 0, .int .i64 0, .int .i64 0] 112)).heap[w.heap.size]? = some (.cells (cellsT (0, 0, 0)) 112 (0, 0)) := heap_alloc_new _ _
    exact box_keep (box_keep h1 hB2) hb23)
  have q0 : w3.cell? ⟨w2.heap.size, 0, none⟩ = some (.slice (some ⟨b, o, none⟩) f.length c) := by rw [hw3]; simp [go_sem]
  have q1 : w3.cell? ⟨w2.heap.size, 1, none⟩ = some (.slice (some ⟨w.heap.size + 1, 0, none⟩) 3 3) := by rw [hw3]; simp [go_sem]
  rw [← hw3]
  clear hw3 hr2 hr2' hz hb23 hB2 hB2' hw0 hB0 hr0
  refine (concat_any _ b o c (w.heap.size + 1) 0 3 f [0, 0, 0] w3 q0 q1 hF3.out hZ3.out f1 (by omega) (by decide)).mono ?_
  rintro e w4 ⟨a4, c4, rfl, ho4, hb4⟩
  obtain ⟨rest, hrest⟩ := list3 f1 f3
  have hlen : 3 ≤ (f ++ [(0 : Int), 0, 0]).length := by simp
  have hI4 := intsAt_of_ownsRow ho4
  have hB4 := hide (Below.trans' hB3.out hb4)
  have hr4 := hide (box_keep hr3.out hb4)
  have hcap := own_cap ho4
  rw [hrest] at hI4 hcap hlen ⊢
  obtain ⟨x, y, z, hp⟩ : ∃ x y z : Int, padF f = (x, y, z) := ⟨_, _, _, rfl⟩
  have hv : valT (padF f) = .agg #[.int .i64 x, .int .i64 y, .int .i64 z] := by rw [hp]; rfl
  rw [hv]
  rw [hp] at hI4 hcap hlen ⊢
  dsimp only at hI4 hcap hlen ⊢
  obtain ⟨b4, o4, x', rfl, k0, h0⟩ := hI4.one (k := 0) (by simp)
  obtain ⟨b5, o5, y', he5, k1, h1⟩ := hI4.one (k := 1) (by simp)
  cases he5
  obtain ⟨b6, o6, z', he6, k2, h2⟩ := hI4.one (k := 2) (by simp)
  cases he6
  have hx' := h0.out
  have hy' := h1.out
  have hz' := h2.out
  simp at hx' hy' hz'
  subst hx' hy' hz'
  rw [Nat.add_zero] at k0
  obtain ⟨r0, r1, r2, t0, t1, t2⟩ := boxT hr4.out
  obtain ⟨N, hN⟩ : ∃ N, N = (x :: y :: z :: rest).length := ⟨_, rfl⟩
  rw [← hN] at hcap hlen ⊢
  have hat := fun w => arrayAt_any (some ⟨b4, o4, none⟩) N c4 hlen w
  clear ho4 hb4 hI4 hrest h0 h1 h2 hN q0 q1 hp
  go_wp2_with fail
  have hz1 := st3_box x y z hr4.out
  obtain ⟨j0, j1, j2, _⟩ := boxT hz1
  dsimp only at j0 j1 j2
  exact bodyPost_ret (v := .agg #[.int .i64 x, .int .i64 y, .int .i64 z]) (by simp [results, Tryd.results85, go_sem, j0, j1, j2]) rfl ⟨rfl, ((hB4.out.setCell (p := ⟨w.heap.size, 0, none⟩) (Nat.le_refl _) _).setCell (p := ⟨w.heap.size, 1, none⟩) (Nat.le_refl _) _).setCell (p := ⟨w.heap.size, 2, none⟩) (Nat.le_refl _) _⟩
end Go.Proofs.YtkekanllfpdeaaaDoor
