/-
  Ends of dots and boxes: slices.Index and slices.Delete at strands; one strand by its kind.
-/
import Derived.Test.YtbfpbkbhikogiaaAns
import Derived.Test.YtbfpbkbhikogiaaOw
import Derived.Deep.RegionLaw
import Derived.Deep.LoopGhost
import Derived.Lib.SliceRun
namespace Go.Proofs.Ytbfpbkbhikogiaa
open Go.RowKit
set_option linter.unusedVariables false

set_option maxHeartbeats 400000 in
theorem strandOf_any (lp : Bool) (b : Int) (W : World) : Calls Try.prog 54 #[.bool lp, .int .i64 b] W (RetB (.agg #[.int .i64 (match lp with | true => 1 | false => 0), .int .i64 b]) W) := by
  have hB := hide (((below_alloc W (.cells #[.int .i64 0, .int .i64 0] 65)).setCell (p := ⟨W.heap.size, 0, none⟩) (Nat.le_refl _) (.int .i64 0)).setCell (p := ⟨W.heap.size, 1, none⟩) (Nat.le_refl _) (.int .i64 b))
  have hr := hide (heap_alloc_new W (.cells #[.int .i64 1, .int .i64 b] 65 (0, 0)))
  have hr0 := hide (heap_alloc_new W (.cells #[.int .i64 0, .int .i64 b] 65 (0, 0)))
  cases lp
  · go_enter Try.func54, Try.ntmps54
    go_wp2
    obtain ⟨j0, j1, _⟩ := row2' hr0.out
    exact bodyPost_ret (v := .agg #[.int .i64 0, .int .i64 b]) (by simp [results, Try.results54, go_sem, j0, j1]) rfl ⟨rfl, below_alloc _ _⟩
  · go_enter Try.func54, Try.ntmps54
    go_wp2
    obtain ⟨j0, j1, _⟩ := row2' hr.out
    exact bodyPost_ret (v := .agg #[.int .i64 1, .int .i64 b]) (by simp [results, Try.results54, go_sem, j0, j1]) rfl ⟨rfl, below_alloc _ _⟩

/-- The first place of a strand. -/
def ixQ (ss : List (Int × Int)) (s : Int × Int) : Option Nat := ss.findIdx? (fun y => decide (y = s))
set_option maxRecDepth 100000 in
set_option maxHeartbeats 2000000 in
theorem indexS_any (a : Option Addr) (c : Nat) (ss : List (Int × Int)) (x y : Int) (W : World) (hs : SliceS W a ss) (hl : ss.length ≤ 8) :
    Calls Try.prog 61 #[.slice a ss.length c, .agg #[.int .i64 x, .int .i64 y]] W
      (fun e W' => ((∃ k : Nat, e = .returned (.int .i64 k) ∧ k < ss.length ∧ ss[k]? = some (x, y) ∧ (∀ j, j < k → ss[j]? ≠ some (x, y))) ∨ (e = .returned (.int .i64 (-1)) ∧ (x, y) ∉ ss)) ∧ Below W.heap.size W W') := by
  obtain ⟨n, hn⟩ : ∃ n, n = ss.length := ⟨_, rfl⟩
  rw [← hn] at hl ⊢
  have HN := hide hn
  clear hn
  obtain ⟨W0, hW0⟩ : ∃ W0, W0 = W.alloc (.cells #[.int .i64 x, .int .i64 y] 65) := ⟨_, rfl⟩
  have hB0 : Hid (Below W.heap.size W W0) := by rw [hW0]; exact hide (below_alloc _ _)
  have hR0 : Hid (W0.heap[W.heap.size]? = some (.cells #[.int .i64 x, .int .i64 y] 65 (0, 0))) := by rw [hW0]; exact hide (heap_alloc_new W _)
  have hS0 := hide (hs.keep hB0.out)
  clear hs
  go_enter Try.func61, Try.ntmps61
  go_wp2_with fail
  rw [← hW0]
  clear hW0
  go_loopg [8] n (fun g2 i wr => ∃ k : Nat, k + g2 = n ∧ i = .int .i64 k ∧ Below W0.heap.size W0 wr ∧ Hid (∀ j, j < k → ss[j]? ≠ some (x, y)))
  case atStart => exact ⟨0, by omega, rfl, Below.refl _ _, hide (fun j hj => by omega)⟩
  case round =>
    obtain ⟨k, hk, rfl, hB, hnot⟩ := hrel
    cases gk with
    | zero =>
      obtain rfl : k = n := by omega
      have hfin : Hid ((x, y) ∉ ss ∧ Below W.heap.size W wr) := hide ⟨fun hm => by
        obtain ⟨j, hj⟩ := List.mem_iff_getElem?.1 hm
        have := (List.getElem?_eq_some_iff.1 hj).1
        exact hnot.out j (by rw [HN.out]; exact this) hj, Below.trans' hB0.out hB⟩
      clear hB
      go_wp2_with fail
      go_ret
      exact ⟨.inr ⟨rfl, hfin.out.1⟩, hfin.out.2⟩
    | succ g2 =>
      have hlt : k < n := by omega
      obtain ⟨g, u, v, rfl, d0, d1, hz⟩ := (hS0.out.keep hB).one (k := k) (by rw [← HN.out]; exact hlt)
      have e0 : ∀ p : Past wr, p.to.cell? ⟨g, k * 2, none⟩ = some (.int .i64 u) := fun p => p.cell d0
      have e1 : ∀ p : Past wr, p.to.cell? ⟨g, k * 2 + 1, none⟩ = some (.int .i64 v) := fun p => p.cell d1
      have hk0 : (0 : Int) ≤ k := by omega
      have hkn : (k : Int) < n := by omega
      obtain ⟨b0, b1, _⟩ := row2' (box_keep hR0.out hB)
      have c0 : ∀ p : Past wr, p.to.cell? ⟨W.heap.size, 0, none⟩ = some (.int .i64 x) := fun p => p.cell b0
      have c1 : ∀ p : Past wr, p.to.cell? ⟨W.heap.size, 1, none⟩ = some (.int .i64 y) := fun p => p.cell b1
      have HBW := hide hB
      clear hB d0 d1 b0 b1
      by_cases hxu : x = u
      · subst hxu
        by_cases hyv : y = v
        · subst hyv
          go_wp2_with fail
          refine wp_region_past (by kernel_rfl) (by kernel_rfl) ?_
          repeat (first | go_big_quiet_step (fail) | quiet_step (fail))
          refine wpQuiet_nil ?_
          rintro _ ⟨pq, rfl⟩
          have hfin : Hid (Below W.heap.size W pq.to) := hide (Below.trans' (Below.trans' hB0.out HBW.out) pq.old)
          go_wp2_with fail
          go_ret
          exact ⟨.inl ⟨k, rfl, hlt, hz.out, hnot.out⟩, hfin.out⟩
        · have hne : (y == v) = false := by simpa using hyv
          have hn2 : Hid (∀ j, j < k + 1 → ss[j]? ≠ some (x, y)) := hide (fun j hj h => by
            rcases Nat.lt_or_ge j k with h2 | h2
            · exact hnot.out j h2 h
            · obtain rfl : j = k := by omega
              rw [hz.out] at h
              cases h
              exact hyv rfl)
          go_wp2_with fail
          refine wp_region_past (by kernel_rfl) (by kernel_rfl) ?_
          repeat (first | go_big_quiet_step (fail) | quiet_step (fail))
          refine wpQuiet_nil ?_
          rintro _ ⟨pq, rfl⟩
          have hB2 := hide (Below.trans' HBW.out pq.old)
          go_wp2_with fail
          go_roundg g2
          case rel => exact ⟨k + 1, by omega, by go_num, hB2.out, hn2⟩
          case measure => omega
      · have hne : (x == u) = false := by simpa using hxu
        have hn2 : Hid (∀ j, j < k + 1 → ss[j]? ≠ some (x, y)) := hide (fun j hj h => by
          rcases Nat.lt_or_ge j k with h2 | h2
          · exact hnot.out j h2 h
          · obtain rfl : j = k := by omega
            rw [hz.out] at h
            cases h
            exact hxu rfl)
        go_wp2_with fail
        refine wp_region_past (by kernel_rfl) (by kernel_rfl) ?_
        repeat (first | go_big_quiet_step (fail) | quiet_step (fail))
        refine wpQuiet_nil ?_
        rintro _ ⟨pq, rfl⟩
        have hB2 := hide (Below.trans' HBW.out pq.old)
        go_wp2_with fail
        go_roundg g2
        case rel => exact ⟨k + 1, by omega, by go_num, hB2.out, hn2⟩
        case measure => omega

/-! ### slices.Delete -/
theorem zeroS (w : World) : (zeroValue 65).run Try.prog w = .ok (.agg #[.int .i64 0, .int .i64 0]) w := by kernel_rfl
theorem run_clear_one (w : World) (ty : TypeId) (b o c : Nat) (hc : ∀ j, j < 2 → (w.cell? ⟨b, o + j, none⟩).isSome = true) (hf : ∀ j, j < 2 → w.frozen? ⟨b, o + j, none⟩ = false) :
    (Builtin.clear_ #[76] ty #[.slice (some ⟨b, o, none⟩) 1 c]).run Try.prog w = .ok (.tuple #[]) (w.setCells b o [.int .i64 0, .int .i64 0]) := by
  have hzc : (Builtin.zeroCells (Value.agg #[.int .i64 0, .int .i64 0]).cells 1).toList = [.int .i64 0, .int .i64 0] := by kernel_rfl
  have hst := run_storeCells_cells (P := Try.prog) b o [.int .i64 0, .int .i64 0] 0 w (by simpa using hc) (by simpa using hf) (by intro v hv; simp at hv; subst hv; rfl)
  simp only [Nat.add_zero] at hst
  simp [Builtin.clear_, run_underlying Try.underlying76, hzc, hst]
theorem setCells_below {B : Nat} {g : Nat} (hg : B ≤ g) : ∀ (vs : List Value) (o : Nat) (w0 w : World), Below B w0 w → Below B w0 (w.setCells g o vs)
  | [], _, _, _, h => h
  | v :: r, o, w0, w, h => setCells_below hg r (o + 1) w0 _ (h.setCell (p := ⟨g, o, none⟩) hg v)

set_option maxRecDepth 100000 in
set_option maxHeartbeats 4000000 in
theorem deleteS_any (B g n cap i : Nat) (ss : List (Int × Int)) (W : World) (hn : n = ss.length) (ho : W.ownsRow B 65 2 (.slice (some ⟨g, 0, none⟩) n cap) n (flatS ss)) (hi : i < n) (hn8 : n ≤ 8) :
    Calls Try.prog 63 #[.slice (some ⟨g, 0, none⟩) n cap, .int .i64 i, .int .i64 ((i : Int) + 1)] W
      (fun e W' => e = .returned (.slice (some ⟨g, 0, none⟩) (n - 1) cap) ∧ SliceS W' (some ⟨g, 0, none⟩) (ss.eraseIdx i) ∧ Below B W W') := by
  obtain ⟨i0, hi0, hz0, hz1, hz2⟩ := info_parts infoStrand
  rcases ho.2 with ⟨hv, _⟩ | ⟨g', cap', cur, hv, hg, hr, hnc, hcm, hcs, ht⟩
  · simp at hv
  simp only [Value.slice.injEq, Option.some.injEq, Addr.mk.injEq, and_true, true_and] at hv
  obtain ⟨rfl, rfl⟩ := hv
  have hfl : (flatS ss).length = n * 2 := by rw [flatS_len, hn]
  have hcell : ∀ j, j < n * 2 → W.cell? ⟨g, j, none⟩ = (flatS ss)[j]? := fun j hj => by
    rw [cell_of_row _ _ j _ _ (0, 0) hr, ← ht, List.getElem?_take, if_pos hj, Array.getElem?_toList]
  have hfz : ∀ j, W.frozen? ⟨g, j, none⟩ = false := fun j => frozen_of_row _ _ j _ _ hr
  have hsome : ∀ j, j < n * 2 → (W.cell? ⟨g, j, none⟩).isSome = true := fun j hj => by
    rw [hcell j hj, List.getElem?_eq_getElem (by omega)]
    rfl
  obtain ⟨news, hnews⟩ : ∃ news, news = flatS (ss.drop (i + 1)) := ⟨_, rfl⟩
  have hlen : news.length = (n - (i + 1)) * 2 := by rw [hnews, flatS_len, List.length_drop, hn]
  have hdrop : news = (flatS ss).drop ((i + 1) * 2) := by
    rw [hnews]
    have : ∀ (l : List (Int × Int)) (k : Nat), flatS (l.drop k) = (flatS l).drop (k * 2) := by
      intro l
      induction l with
      | nil => intro k; simp [flatS]
      | cons a r ih =>
        intro k
        cases k with
        | zero => simp
        | succ k =>
          rw [List.drop_succ_cons, ih k]
          show _ = ([_, _] ++ flatS r).drop ((k + 1) * 2)
          rw [show (k + 1) * 2 = 2 + k * 2 by omega, ← List.drop_drop]
          rfl
    exact this ss (i + 1)
  obtain ⟨A, hA, hsrc⟩ : ∃ A : Addr, (if cap = i + 1 then (some ⟨g, 0, none⟩ : Option Addr) else some ⟨g, (i + 1) * 2, none⟩) = some A ∧ Hid (∀ t u, news[t]? = some u → W.drew.cell? (A.add t) = some u) := by
    by_cases h : cap = i + 1
    · refine ⟨⟨g, 0, none⟩, by simp [h], hide (fun t u hu => ?_)⟩
      have h0 : news.length = 0 := by rw [hlen]; omega
      rw [List.length_eq_zero_iff.1 h0] at hu
      simp at hu
    · refine ⟨⟨g, (i + 1) * 2, none⟩, by simp [h], hide (fun t u hu => ?_)⟩
      have htl : t < (n - (i + 1)) * 2 := by
        have := (List.getElem?_eq_some_iff.1 hu).1
        rwa [hlen] at this
      rw [hdrop, List.getElem?_drop] at hu
      rw [Addr.add_lit]
      exact (hcell ((i + 1) * 2 + t) (by omega)).trans hu
  have s1 : Hid (news.length = (n - (i + 1)) * 2) := hide hlen
  have s2 : Hid (∀ u ∈ news, u.oneCell' = true) := hide (by
    intro u hu
    rw [hnews] at hu
    simp only [flatS, List.mem_flatMap, List.mem_cons, List.not_mem_nil, or_false] at hu
    obtain ⟨s, _, rfl | rfl⟩ := hu <;> rfl)
  have s3 : Hid (∀ t, t < news.length → (W.drew.cell? ⟨g, 0 + i * 2 + t, none⟩).isSome = true ∧ W.drew.frozen? ⟨g, 0 + i * 2 + t, none⟩ = false) := hide (by
    intro t htl
    rw [hlen] at htl
    rw [Nat.zero_add]
    exact ⟨hsome (i * 2 + t) (by omega), hfz _⟩)
  obtain ⟨W1, hW1⟩ : ∃ W1, W1 = W.drew.setCells g (0 + i * 2) news := ⟨_, rfl⟩
  have hW1' : W1 = W.drew.setCells g (i * 2) news := by rw [hW1, Nat.zero_add]
  have hc1 : ∀ j, j < n * 2 → (W1.cell? ⟨g, j, none⟩).isSome = true := fun j hj => by
    rw [hW1']
    by_cases h : j < i * 2 ∨ i * 2 + news.length ≤ j
    · rw [World.cell?_setCells_out g news (i * 2) _ ⟨g, j, none⟩ (fun _ _ => h)]
      exact hsome j hj
    · have h3 := World.cell?_setCells_in g news (i * 2) W.drew (fun t htl => hsome (i * 2 + t) (by omega)) (j - i * 2) (by omega)
      rw [show i * 2 + (j - i * 2) = j by omega] at h3
      rw [h3]
      rfl
  have hcl : ∀ ty, (Builtin.clear_ #[76] ty #[.slice (some ⟨g, (i + (n - (i + 1))) * 2, none⟩) (n - (i + (n - (i + 1)))) (cap - (i + (n - (i + 1))))]).run Try.prog W1 = .ok (.tuple #[]) (W1.setCells g ((i + (n - (i + 1))) * 2) [.int .i64 0, .int .i64 0]) := fun ty => by
    rw [show n - (i + (n - (i + 1))) = 1 by omega]
    exact run_clear_one W1 ty g _ _ (fun j hj => hc1 _ (by omega)) (fun j hj => by rw [hW1', World.frozen?_setCells]; exact hfz _)
  have HW : Hid (W1 = W.drew.setCells g (0 + i * 2) news) := hide hW1
  have hfin : Hid (SliceS (W1.setCells g ((i + (n - (i + 1))) * 2) [.int .i64 0, .int .i64 0]) (some ⟨g, 0, none⟩) (ss.eraseIdx i) ∧ Below B W (W1.setCells g ((i + (n - (i + 1))) * 2) [.int .i64 0, .int .i64 0])) := hide ⟨fun _ => ⟨g, rfl, fun k s hk => by
    have hkl := (List.getElem?_eq_some_iff.1 hk).1
    rw [List.length_eraseIdx, if_pos (by omega)] at hkl
    have hko : ∀ o, o < 2 → (W1.setCells g ((i + (n - (i + 1))) * 2) [.int .i64 0, .int .i64 0]).cell? ⟨g, k * 2 + o, none⟩ = W1.cell? ⟨g, k * 2 + o, none⟩ := fun o ho2 =>
      World.cell?_setCells_out g _ _ _ ⟨g, k * 2 + o, none⟩ (fun _ _ => .inl (by show k * 2 + o < _; omega))
    have h0 := hko 0 (by omega)
    have h1 := hko 1 (by omega)
    simp only [Nat.add_zero] at h0
    rw [h0, h1, hW1']
    rw [List.getElem?_eraseIdx] at hk
    by_cases hki : k < i
    · rw [if_pos hki] at hk
      obtain ⟨f0, f1⟩ := flatS_get ss k s hk
      rw [World.cell?_setCells_out g news (i * 2) _ ⟨g, k * 2, none⟩ (fun _ _ => .inl (by show k * 2 < _; omega)), World.cell?_setCells_out g news (i * 2) _ ⟨g, k * 2 + 1, none⟩ (fun _ _ => .inl (by show k * 2 + 1 < _; omega))]
      exact ⟨(hcell _ (by omega)).trans f0, (hcell _ (by omega)).trans f1⟩
    · rw [if_neg hki] at hk
      obtain ⟨f0, f1⟩ := flatS_get ss (k + 1) s hk
      have hin := fun t (h : t < news.length) => World.cell?_setCells_in g news (i * 2) W.drew (fun t htl => hsome (i * 2 + t) (by omega)) t h
      have g0 := hin ((k - i) * 2) (by omega)
      have g1 := hin ((k - i) * 2 + 1) (by omega)
      have x0 : news[(k - i) * 2]? = some (.int .i64 s.1) := by rw [hdrop, List.getElem?_drop, show (i + 1) * 2 + (k - i) * 2 = (k + 1) * 2 by omega, f0]
      have x1 : news[(k - i) * 2 + 1]? = some (.int .i64 s.2) := by rw [hdrop, List.getElem?_drop, show (i + 1) * 2 + ((k - i) * 2 + 1) = (k + 1) * 2 + 1 by omega, f1]
      rw [← List.getElem?_eq_getElem, x0, show i * 2 + (k - i) * 2 = k * 2 by omega] at g0
      rw [← List.getElem?_eq_getElem, x1, show i * 2 + ((k - i) * 2 + 1) = k * 2 + 1 by omega] at g1
      exact ⟨g0, g1⟩⟩, setCells_below hg _ _ _ _ (by rw [hW1]; exact setCells_below hg _ _ _ _ (Below.drew (Below.refl _ _)))⟩
  have hic : i ≤ cap := by omega
  have hjc : i + 1 ≤ cap := by omega
  have hm : cap ≤ 9223372036854775807 := hcm
  have hi1 : (0 : Int) ≤ (i : Int) + 1 := by omega
  have hi2 : (i : Int) + 1 ≤ (n : Int) := by omega
  clear hW1 hW1' hc1 hsome hcell hfz hdrop hlen hnews hfl ho hr hcs ht hn
  go_enter Try.func63, Try.ntmps63
  go_wp2_with fail
  go_region_law (refine step_append_room rfl (.tmp 22) (.tmp 25) 76 rfl 65 i0 2 Try.underlying76 hi0 hz1 g 0 i cap (by simp [Act.eval, Act.put]) A (n - (i + 1)) (cap - (i + 1)) news (by simp [Act.eval, Act.put]) s1.out hsrc.out s2.out (by omega) s3.out ?_; rw [← HW.out])
  go_wp2
  go_ret
  exact ⟨by rw [show n - 1 = i + (n - (i + 1)) by omega]; rfl, hfin.out⟩
end Go.Proofs.Ytbfpbkbhikogiaa
