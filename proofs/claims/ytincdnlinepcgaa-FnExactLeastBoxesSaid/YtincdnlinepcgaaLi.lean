/-
  Dots and boxes: slices.Index, Contains and MinFunc at positions.
-/
import Derived.Test.YtincdnlinepcgaaLo
import Derived.Test.YtincdnlinepcgaaBxK
import Derived.Deep.LoopGhost
import Derived.Laws.StructEq
namespace Go.Proofs.Ytincdnlinepcgaa
open Go.RowKit
set_option linter.unusedVariables false

/-- The row of positions of one grid in block g. -/
def BoxesAt (W : World) (g : Nat) (w h : Int) (fs : List Int) : Prop :=
  ∀ (k : Nat) (x : Int), fs[k]? = some x → W.cell? ⟨g, k * 3, none⟩ = some (.int .i64 w) ∧ W.cell? ⟨g, k * 3 + 1, none⟩ = some (.int .i64 h) ∧ W.cell? ⟨g, k * 3 + 2, none⟩ = some (.int .i64 x)
theorem BoxesAt.keep {W W' : World} {g : Nat} {w h : Int} {fs : List Int} (hx : BoxesAt W g w h fs) (hb : Below W.heap.size W W') : BoxesAt W' g w h fs :=
  fun k x hk => ⟨cell_keep hb (hx k x hk).1, cell_keep hb (hx k x hk).2.1, cell_keep hb (hx k x hk).2.2⟩

set_option maxRecDepth 100000 in
set_option maxHeartbeats 2000000 in
theorem index_any (w h x : Int) (g : Nat) (c : Nat) (fs : List Int) (W : World) (hf : BoxesAt W g w h fs) (hl : fs.length ≤ 8) :
    Calls Try.prog 66 #[.slice (some ⟨g, 0, none⟩) fs.length c, .agg #[.int .i64 w, .int .i64 h, .int .i64 x]] W
      (fun e W' => ∃ r : Int, e = .returned (.int .i64 r) ∧ ((0 ≤ r ∧ x ∈ fs) ∨ (r = -1 ∧ x ∉ fs)) ∧ Below W.heap.size W W') := by
  obtain ⟨n, hn⟩ : ∃ n, n = fs.length := ⟨_, rfl⟩
  rw [← hn] at hl ⊢
  have HN := hide hn
  clear hn
  obtain ⟨W0, hW0⟩ : ∃ W0, W0 = W.alloc (.cells #[.int .i64 w, .int .i64 h, .int .i64 x] 25) := ⟨_, rfl⟩
  have hX0 : Hid (BoxIn W0 W.heap.size w h x) := by rw [hW0]; exact hide (boxIn_new _ _ _ _ _)
  have hB0 : Hid (Below W.heap.size W W0) := by rw [hW0]; exact hide (below_alloc _ _)
  have hF0 := hide (hf.keep hB0.out)
  clear hf
  go_enter Try.func66, Try.ntmps66
  go_wp2_with fail
  rw [← hW0]
  clear hW0
  go_loopg [8] n (fun g2 i wr => ∃ k : Nat, k + g2 = n ∧ i = .int .i64 k ∧ Below W0.heap.size W0 wr ∧ x ∉ fs.take k)
  case atStart => exact ⟨0, by omega, rfl, Below.refl _ _, by simp⟩
  case round =>
    obtain ⟨k, hk, rfl, hB, hnot⟩ := hrel
    cases gk with
    | zero =>
      obtain rfl : k = n := by omega
      have hfin : Hid (x ∉ fs ∧ Below W.heap.size W wr) := hide ⟨by rw [HN.out, List.take_length] at hnot; exact hnot, Below.trans' hB0.out hB⟩
      clear hnot hB
      go_wp2_with fail
      go_ret
      exact ⟨-1, rfl, .inr ⟨rfl, hfin.out.1⟩, hfin.out.2⟩
    | succ g2 =>
      have hlt : k < n := by omega
      obtain ⟨y, hy⟩ : ∃ y, fs[k]? = some y := ⟨_, List.getElem?_eq_getElem (by rw [← HN.out]; exact hlt)⟩
      obtain ⟨d0, d1, d2⟩ := (hF0.out.keep hB) k y hy
      have e0 : ∀ p : Past wr, p.to.cell? ⟨g, k * 3, none⟩ = some (.int .i64 w) := fun p => p.cell d0
      have e1 : ∀ p : Past wr, p.to.cell? ⟨g, k * 3 + 1, none⟩ = some (.int .i64 h) := fun p => p.cell d1
      have e2 : ∀ p : Past wr, p.to.cell? ⟨g, k * 3 + 2, none⟩ = some (.int .i64 y) := fun p => p.cell d2
      have hk0 : (0 : Int) ≤ k := by omega
      have hkn : (k : Int) < n := by omega
      obtain ⟨c0, c1, c2⟩ := (hX0.out.keep hB).past
      have HY := hide hy
      have HNOT := hide hnot
      have HBW := hide hB
      clear hy hnot hB d0 d1 d2
      by_cases hxy : x = y
      · subst hxy
        go_wp2_with fail
        refine wp_region_past (by kernel_rfl) (by kernel_rfl) ?_
        repeat (first | go_big_quiet_step (fail) | quiet_step (fail))
        refine wpQuiet_nil ?_
        rintro _ ⟨pq, rfl⟩
        have hfin : Hid (x ∈ fs ∧ Below W.heap.size W pq.to) := hide ⟨List.mem_of_getElem? HY.out, Below.trans' (Below.trans' hB0.out HBW.out) pq.old⟩
        go_wp2_with fail
        go_ret
        exact ⟨k, rfl, .inl ⟨by omega, hfin.out.1⟩, hfin.out.2⟩
      · have hne : (x == y) = false := by simpa using hxy
        go_wp2_with fail
        refine wp_region_past (by kernel_rfl) (by kernel_rfl) ?_
        repeat (first | go_big_quiet_step (fail) | quiet_step (fail))
        refine wpQuiet_nil ?_
        rintro _ ⟨pq, rfl⟩
        have hn2 : Hid (x ∉ fs.take (k + 1)) := hide (by
          rw [List.take_add_one, HY.out]
          simp only [Option.toList_some, List.mem_append, List.mem_singleton, not_or]
          exact ⟨HNOT.out, hxy⟩)
        have hB2 := hide (Below.trans' HBW.out pq.old)
        go_wp2_with fail
        go_roundg g2
        case rel => exact ⟨k + 1, by omega, by go_num, hB2.out, hn2.out⟩
        case measure => omega

set_option maxRecDepth 100000 in
set_option maxHeartbeats 2000000 in
theorem contains_any (w h x : Int) (g : Nat) (c : Nat) (fs : List Int) (W : World) (hf : BoxesAt W g w h fs) (hl : fs.length ≤ 8) :
    Calls Try.prog 58 #[.slice (some ⟨g, 0, none⟩) fs.length c, .agg #[.int .i64 w, .int .i64 h, .int .i64 x]] W
      (RetB (.bool (decide (x ∈ fs))) W) := by
  obtain ⟨r, hr⟩ : ∃ r, r = decide (x ∈ fs) := ⟨_, rfl⟩
  rw [← hr]
  have HR := hide hr
  obtain ⟨n, hn⟩ : ∃ n, n = fs.length := ⟨_, rfl⟩
  rw [← hn]
  have HN := hide hn
  clear hr hn
  obtain ⟨W0, hW0⟩ : ∃ W0, W0 = W.alloc (.cells #[.int .i64 w, .int .i64 h, .int .i64 x] 25) := ⟨_, rfl⟩
  have hX0 : Hid (BoxIn W0 W.heap.size w h x) := by rw [hW0]; exact hide (boxIn_new _ _ _ _ _)
  have hB0 : Hid (Below W.heap.size W W0) := by rw [hW0]; exact hide (below_alloc _ _)
  have hF0 := hide (hf.keep hB0.out)
  clear hf
  obtain ⟨c0, c1, c2⟩ := hX0.out
  go_enter Try.func58, Try.ntmps58
  go_wp2_with fail
  rw [← hW0]
  clear hW0
  go_wp2_with fail
  rw [HN.out]
  refine (index_any w h x g c fs _ hF0.out hl).mono ?_
  rw [← HN.out]
  rintro e W' ⟨q, rfl, hq, hb⟩
  have hB1 := hide (Below.trans' hB0.out hb)
  clear hb c0 c1 c2
  rcases hq with ⟨hq, hm⟩ | ⟨rfl, hm⟩
  · have hrt : Hid (r = true) := hide (by rw [HR.out]; simpa using hm)
    clear hm
    go_wp2_with fail
    go_ret
    exact ⟨by rw [hrt.out]; rfl, hB1.out⟩
  · have hrt : Hid (r = false) := hide (by rw [HR.out]; simpa using hm)
    clear hm
    go_wp2_with fail
    go_ret
    exact ⟨by rw [hrt.out]; rfl, hB1.out⟩

set_option maxRecDepth 100000 in
theorem nan_any (x : Int) (W : World) : Calls Try.prog 67 #[.int .i64 x] W (RetB (.bool false) W) := by
  go_enter Try.func67, Try.ntmps67
  go_wp2_with fail
  go_ret
  exact ⟨rfl, Below.refl _ _⟩
def cmpI (x y : Int) : Int := if x < y then -1 else if y < x then 1 else 0
set_option maxRecDepth 100000 in
set_option maxHeartbeats 2000000 in
theorem compare_any (x y : Int) (W : World) : Calls Try.prog 61 #[.int .i64 x, .int .i64 y] W (RetB (.int .i64 (cmpI x y)) W) := by
  obtain ⟨r, hr⟩ : ∃ r, r = cmpI x y := ⟨_, rfl⟩
  rw [← hr]
  unfold cmpI at hr
  have HR := hide hr
  clear hr
  go_enter Try.func61, Try.ntmps61
  go_wp2_with fail
  refine (nan_any x _).mono ?_
  rintro e w1 ⟨rfl, hb1⟩
  have hB1 := hide hb1
  clear hb1
  go_wp2_with fail
  refine (nan_any y _).mono ?_
  rintro e w2 ⟨rfl, hb2⟩
  have hB2 := hide (Below.trans' hB1.out hb2)
  clear hb2
  by_cases h1 : x < y
  · have hrt : Hid (r = -1) := hide (by rw [HR.out, if_pos h1])
    go_wp2_with fail
    go_ret
    exact ⟨by rw [hrt.out]; rfl, hB2.out⟩
  · by_cases h2 : y < x
    · have hrt : Hid (r = 1) := hide (by rw [HR.out, if_neg h1, if_pos h2])
      go_wp2_with fail
      go_ret
      exact ⟨by rw [hrt.out]; rfl, hB2.out⟩
    · have hrt : Hid (r = 0) := hide (by rw [HR.out, if_neg h1, if_neg h2])
      go_wp2_with fail
      go_ret
      exact ⟨by rw [hrt.out]; rfl, hB2.out⟩
set_option maxRecDepth 100000 in
set_option maxHeartbeats 2000000 in
theorem cmpBoxes_any (w h x y : Int) (W : World) : Calls Try.prog 60 #[.agg #[.int .i64 w, .int .i64 h, .int .i64 x], .agg #[.int .i64 w, .int .i64 h, .int .i64 y]] W (RetB (.int .i64 (cmpI x y)) W) := by
  obtain ⟨W0, hW0⟩ : ∃ W0, W0 = (W.alloc (.cells #[.int .i64 w, .int .i64 h, .int .i64 x] 25)).alloc (.cells #[.int .i64 w, .int .i64 h, .int .i64 y] 25) := ⟨_, rfl⟩
  have hB0 : Hid (Below W.heap.size W W0) := by rw [hW0]; exact hide ((below_alloc _ _).alloc (by simp) _)
  go_enter Try.func60, Try.ntmps60
  go_wp2_with fail
  rw [← hW0]
  clear hW0
  refine (compare_any x y _).mono ?_
  rintro e w1 ⟨rfl, hb1⟩
  have hB1 := hide (Below.trans' hB0.out hb1)
  clear hb1
  obtain ⟨r, hr⟩ : ∃ r, r = cmpI x y := ⟨_, rfl⟩
  rw [← hr]
  have HRC := hide hr
  clear hr
  go_wp2_with fail
  go_ret
  exact ⟨ret_int HRC.out, hB1.out⟩
end Go.Proofs.Ytincdnlinepcgaa
