/-
  Lists of shots: what came in, and the laws' helpers on them.
-/
import Derived.Test.YthcnilbgjaahfaaAo
import Derived.Test.YthcnilbgjaahfaaSk
import Derived.Deep.SlicePairs
namespace Go.Proofs.Ythcnilbgjaahfaa
open Go.ChangeShapes Go.WideShapes Go.ChangeAt Go.RowKit Go.Deep Go.Joins
set_option linter.unusedVariables false

/-- The slice of shots at 'a' reads as 'ps'. -/
def ShotsAt (w : World) (a : Option Addr) (ps : List (Int × Int)) : Prop :=
  ps ≠ [] → ∃ b o, a = some ⟨b, o, none⟩ ∧ ∀ k x y, ps[k]? = some (x, y) → w.cell? ⟨b, o + k * 2, none⟩ = some (.int .i64 x) ∧ w.cell? ⟨b, o + k * 2 + 1, none⟩ = some (.int .i64 y)
theorem ShotsAt.keep {w w' : World} {a : Option Addr} {ps : List (Int × Int)} (h : ShotsAt w a ps) (hb : Below w.heap.size w w') : ShotsAt w' a ps := by
  intro hne
  obtain ⟨b, o, ha, hc⟩ := h hne
  exact ⟨b, o, ha, fun k x y hk => ⟨cell_keep hb (hc k x y hk).1, cell_keep hb (hc k x y hk).2⟩⟩
theorem ShotsAt.one {w : World} {a : Option Addr} {ps : List (Int × Int)} (h : ShotsAt w a ps) {k : Nat} (hk : k < ps.length) :
    ∃ b o x y, a = some ⟨b, o, none⟩ ∧ w.cell? ⟨b, o + k * 2, none⟩ = some (.int .i64 x) ∧ w.cell? ⟨b, o + k * 2 + 1, none⟩ = some (.int .i64 y) ∧ Hid (ps[k]? = some (x, y)) := by
  obtain ⟨b, o, ha, hc⟩ := h (by intro e; rw [e] at hk; simp at hk)
  have hg : ps[k]? = some ((ps[k]).1, (ps[k]).2) := List.getElem?_eq_getElem hk
  exact ⟨b, o, _, _, ha, (hc k _ _ hg).1, (hc k _ _ hg).2, hide hg⟩

section
variable {H : Type} {enc : TypeId × Value → H}
set_option maxRecDepth 100000 in
theorem open_shots {W : World} {base : Nat} {v : Value} {d : DataW H} {p : List MemPlace} (hv : Value.okWide Try.prog W .any base 50 v)
    (h : DataW.Trod enc Try.prog W 0 (fun _ => true) true 50 v d p) : ∃ a c ps, v = .slice a ps.length c ∧ ShotsAt W a ps ∧ ps.length ≤ 9223372036854775807 := by
  obtain ⟨a0, len0, cap0, rfl⟩ := okWide_slice Try.underlying50 hv
  obtain ⟨fuel, hf⟩ := h
  rcases open_slice_pairs Try.underlying50 Try.underlying84 (by kernel_rfl) rfl rfl (by kernel_rfl) (by kernel_rfl) hf with ⟨hcs, _⟩ | ⟨x, l, c, m, n, V0, V1, D0, D1, P0, P1, hcs, _, hl, hm, hmm, _, hx⟩
  · simp [Value.cells] at hcs
    obtain ⟨rfl, rfl, rfl⟩ := hcs
    exact ⟨none, 0, [], rfl, fun h => absurd rfl h, by simp⟩
  · simp [Value.cells] at hcs
    obtain ⟨rfl, rfl, rfl⟩ := hcs
    simp only [if_true] at hmm
    subst hmm
    have hint : ∀ i, i < m → V0 i = .int .i64 (intOf (V0 i)) ∧ V1 i = .int .i64 (intOf (V1 i)) := fun i hi => by
      obtain ⟨y0, h0, _⟩ := DataW.trod_int Try.underlying2 (hx i hi).2.2.1
      obtain ⟨y1, h1, _⟩ := DataW.trod_int Try.underlying2 (hx i hi).2.2.2
      simp at h0 h1
      rw [h0, h1]
      exact ⟨rfl, rfl⟩
    have hlen : ((List.range len0).map fun i => (intOf (V0 i), intOf (V1 i))).length = len0 := by simp
    refine ⟨some x, m, (List.range len0).map fun i => (intOf (V0 i), intOf (V1 i)), by rw [hlen], fun hne => ?_, by rw [hlen]; unfold maxLen at hm; omega⟩
    have hpos : 0 < len0 := by
      rcases Nat.eq_zero_or_pos len0 with e | e
      · subst e; simp at hne
      · exact e
    obtain ⟨b, off, spot⟩ := x
    have hspot : spot = none := by simpa [Addr.add] using World.cell?_spot (hx 0 (by omega)).1
    subst hspot
    refine ⟨b, off, rfl, fun k y z hk => ?_⟩
    have hkl : k < len0 := by have := (List.getElem?_eq_some_iff.1 hk).1; simpa using this
    simp [hkl] at hk
    obtain ⟨g0, g1, _, _⟩ := hx k (by omega)
    obtain ⟨i0, i1⟩ := hint k (by omega)
    rw [hk.1] at i0
    rw [hk.2] at i1
    rw [i0] at g0
    rw [i1] at g1
    refine ⟨?_, ?_⟩
    · rw [← g0]; simp only [Addr.add]; split
      · rename_i e; rw [e]; simp
      · rfl
    · rw [← g1]; simp only [Addr.add]; split
      · rename_i e; omega
      · rfl
end

theorem szShotS_any (a : Option Addr) (n c : Nat) (l : Int) (w : World) (hl : 0 ≤ l) (hl2 : l ≤ 1048576) (hn : n ≤ 9223372036854775807) :
    Calls Try.prog 35 #[.slice a n c, .int .i64 l] w fun e w' => e = .returned (.int .i64 (if l - (n : Int) < 0 then -1 else l - (n : Int))) ∧ w = w' := by
  by_cases h : l - (n : Int) < 0
  · rw [if_pos h]
    go_enter Try.func35, Try.ntmps35
    go_wp2
    go_ret
    exact ⟨rfl, rfl⟩
  · rw [if_neg h]
    go_enter Try.func35, Try.ntmps35
    go_wp2
    go_ret
    exact ⟨rfl, rfl⟩

set_option maxHeartbeats 1000000 in
theorem toShot_any (x y : Int) (W : World) : Calls Try.prog 66 #[.agg #[.int .i64 x, .int .i64 y]] W (RetB (.agg #[.int .i64 x, .int .i64 y]) W) := by
  go_enter Try.func66, Try.ntmps66
  go_wp2_with fail
  exact bodyPost_ret (v := .agg #[.int .i64 x, .int .i64 y]) (by simp [results, Try.results66, go_sem]) rfl ⟨rfl, (((below_alloc _ _).alloc (by simp) _).alloc (by simp; omega) _)⟩

set_option maxHeartbeats 1000000 in
theorem eqShot_same (x y : Int) (W : World) : Calls Try.prog 69 #[.agg #[.int .i64 x, .int .i64 y], .agg #[.int .i64 x, .int .i64 y]] W (RetB (.bool true) W) := by
  have hne : (x != x) = false := by simp
  have hne2 : (y != y) = false := by simp
  go_enter Try.func69, Try.ntmps69
  go_wp2_with fail
  go_ret
  exact ⟨rfl, (below_alloc _ _).alloc (by simp) _⟩

theorem infoS : (Try.prog.info? 82).map (fun i => (i.zero, i.size, i.bytes)) = some (some (.agg #[.int .i64 0, .int .i64 0]), 2, 16) := by kernel_rfl
def copiedS (ps : List (Int × Int)) (k : Nat) : Nat → Value := fun j => .int .i64 (if j / 2 < k then (if j % 2 = 0 then (ps.getD (j / 2) (0, 0)).1 else (ps.getD (j / 2) (0, 0)).2) else 0)
theorem copiedS_set {w : World} {b : Nat} {t : TypeId} {n : Nat} {ps : List (Int × Int)} {k : Nat} {x y : Int} (h : w.rowIs b t n (copiedS ps k)) (hz : ps[k]? = some (x, y)) :
    ((w.setCell ⟨b, k * 2, none⟩ (.int .i64 x)).setCell ⟨b, k * 2 + 1, none⟩ (.int .i64 y)).rowIs b t n (copiedS ps (k + 1)) := by
  refine ((h.set (k * 2) (.int .i64 x)).set (k * 2 + 1) (.int .i64 y)).congr ?_
  intro i _
  have hg : ps.getD k (0, 0) = (x, y) := by rw [List.getD_eq_getElem?_getD, hz]; rfl
  show (if i = k * 2 + 1 then Value.int .i64 y else if i = k * 2 then Value.int .i64 x else copiedS ps k i) = copiedS ps (k + 1) i
  by_cases e1 : i = k * 2 + 1
  · have h1 : i / 2 = k := by omega
    have h2 : ¬ (i % 2 = 0) := by omega
    rw [if_pos e1]
    unfold copiedS
    rw [h1, if_pos (by omega), if_neg h2, hg]
  · by_cases e2 : i = k * 2
    · have h1 : i / 2 = k := by omega
      have h2 : i % 2 = 0 := by omega
      rw [if_neg e1, if_pos e2]
      unfold copiedS
      rw [h1, if_pos (by omega), if_pos h2, hg]
    · rw [if_neg e1, if_neg e2]
      unfold copiedS
      by_cases h1 : i / 2 < k
      · rw [if_pos h1, if_pos (show i / 2 < k + 1 by omega)]
      · rw [if_neg h1, if_neg (show ¬ i / 2 < k + 1 by omega)]
theorem shotsAt_row {w : World} {b : Nat} {t : TypeId} {ps : List (Int × Int)} (h : w.rowIs b t (ps.length * 2) (copiedS ps ps.length)) : ShotsAt w (some ⟨b, 0, none⟩) ps := by
  intro _
  refine ⟨b, 0, rfl, fun k x y hk => ?_⟩
  have hkl := (List.getElem?_eq_some_iff.1 hk).1
  have hg : ps.getD k (0, 0) = (x, y) := by rw [List.getD_eq_getElem?_getD, hk]; rfl
  have c0 := h.cell (i := k * 2) (by omega)
  have c1 := h.cell (i := k * 2 + 1) (by omega)
  unfold copiedS at c0 c1
  rw [show k * 2 / 2 = k by omega, if_pos hkl, if_pos (by omega), hg] at c0
  rw [show (k * 2 + 1) / 2 = k by omega, if_pos hkl, if_neg (by omega), hg] at c1
  rw [Nat.zero_add]
  exact ⟨c0, c1⟩
def NewShots (ps : List (Int × Int)) (W : World) (e : Ending) (W' : World) : Prop :=
  ∃ g, e = .returned (.slice (some ⟨g, 0, none⟩) ps.length ps.length) ∧ ShotsAt W' (some ⟨g, 0, none⟩) ps ∧ Below W.heap.size W W'
theorem madeS (w : World) (n : Nat) (t : TypeId) (ps : List (Int × Int)) : (w.alloc (.cells (madeCells #[.int .i64 0, .int .i64 0] (n * 2)) t)).rowIs w.heap.size t (n * 2) (copiedS ps 0) :=
  ⟨_, blk_alloc_new _ _, size_madeCells _ _, fun i hi => by
    have : i % 2 = 0 ∨ i % 2 = 1 := by omega
    rcases this with h | h <;> simp [madeCells, hi, h, copiedS]⟩

set_option maxRecDepth 100000 in
set_option maxHeartbeats 1000000 in
theorem toShotS_any (a : Option Addr) (c : Nat) (ps : List (Int × Int)) (w : World) (ha : ShotsAt w a ps) (hl : ps.length ≤ 1048576) :
    Calls Try.prog 37 #[.slice a ps.length c] w (NewShots ps w) := by
  obtain ⟨i0, hi0, hzz⟩ := Option.map_eq_some_iff.1 infoS
  simp only [Prod.mk.injEq] at hzz
  obtain ⟨hz, hsz, hby⟩ := hzz
  obtain ⟨n, hn⟩ : ∃ n, n = ps.length := ⟨_, rfl⟩
  have hmk : ∀ w : World, (Instr.makeSlice 53 (.int .i64 (n : Int)) (.int .i64 (n : Int))).run Try.prog w = .ok (.slice (some ⟨w.heap.size, 0, none⟩) n n) (w.alloc (.cells (madeCells #[.int .i64 0, .int .i64 0] (n * 2)) 82)) := fun w => by
    have h := run_make (P := Try.prog) w 53 82 i0 _ Try.underlying53 hi0 hz .i64 .i64 n n (by omega) (Int.le_refl _) (by rw [hby]; omega) (by omega)
    rw [hsz, Int.toNat_natCast] at h
    exact h
  have h0 := madeS w n 82 ps
  have HA := hide ha
  have HN := hide hn
  rw [← hn] at hl ⊢
  clear ha hn hi0 hz hsz hby
  go_enter Try.func37, Try.ntmps37
  go_wp2_with fail
  go_loopw [4] (fun i wr => ∃ k : Nat, k ≤ n ∧ i = .int .i64 k ∧ Hid (wr.rowIs w.heap.size 82 (n * 2) (copiedS ps k)) ∧ Below w.heap.size w wr) (fun i _ => n - (intOf i).toNat)
  case atStart => exact ⟨0, Nat.zero_le _, rfl, hide h0, (Below.refl _ _).alloc (Nat.le_refl _) _⟩
  case round =>
    clear h0
    obtain ⟨k, hk, rfl, hr, hB⟩ := hrel
    by_cases hlt : k < n
    · obtain ⟨b1, o1, x, y, rfl, ex, ey, hg⟩ := (HA.out.keep hB).one (k := k) (by rw [← HN.out]; exact hlt)
      have HB := hide hB
      clear hB
      go_wp2_with fail
      refine (toShot_any x y _).mono ?_
      rintro e w5 ⟨rfl, hb5⟩
      have hr5 := hr.out.of_block (hb5.block _ hr.out.lt)
      have e0 := hr5.cell (i := k * 2) (by omega)
      have e1 := hr5.cell (i := k * 2 + 1) (by omega)
      have f0 := hr5.frozen (k * 2)
      have f1 := hr5.frozen (k * 2 + 1)
      have HR6 := hide (copiedS_set hr5 hg.out)
      have HB6 := hide (((Below.trans' HB.out hb5).setCell (p := ⟨w.heap.size, k * 2, none⟩) (Nat.le_refl _) (.int .i64 x)).setCell (p := ⟨w.heap.size, k * 2 + 1, none⟩) (Nat.le_refl _) (.int .i64 y))
      clear hr hb5 hr5 ex ey
      go_wp2_with fail
      go_roundw
      case rel => exact ⟨k + 1, by omega, by go_num, HR6, HB6.out⟩
      case measure => simp [intOf]; omega
    · obtain rfl : k = n := by omega
      have hfin : Hid (NewShots ps w (.returned (.slice (some ⟨w.heap.size, 0, none⟩) k k)) wr) := hide (by
        have hr' := hr.out
        have hn := HN.out
        subst hn
        exact ⟨w.heap.size, rfl, shotsAt_row hr', hB⟩)
      clear hr hB
      go_wp2_with fail
      go_ret
      exact hfin.out

set_option maxRecDepth 100000 in
set_option maxHeartbeats 1000000 in
theorem eqShotS_same (a b : Option Addr) (c d : Nat) (ps : List (Int × Int)) (w : World) (ha : ShotsAt w a ps) (hb : ShotsAt w b ps) (hl : ps.length ≤ 1048576) :
    Calls Try.prog 39 #[.slice a ps.length c, .slice b ps.length d] w (RetB (.bool true) w) := by
  have HA := hide ha
  have HB := hide hb
  have hne : ((ps.length : Int) != (ps.length : Int)) = false := by simp
  clear ha hb
  go_enter Try.func39, Try.ntmps39
  go_wp2_with fail
  clear hne
  go_loopw [5] (fun i wr => ∃ k : Nat, k ≤ ps.length ∧ i = .int .i64 k ∧ Below w.heap.size w wr) (fun i _ => ps.length - (intOf i).toNat)
  case atStart => exact ⟨0, Nat.zero_le _, rfl, Below.refl _ _⟩
  case round =>
    obtain ⟨k, hk, rfl, hB⟩ := hrel
    have HBB := hide hB
    by_cases hlt : k < ps.length
    · obtain ⟨b1, o1, x, y, rfl, ex, ey, hg⟩ := (HA.out.keep hB).one hlt
      obtain ⟨b2, o2, x2, y2, rfl, ex2, ey2, hg2⟩ := (HB.out.keep hB).one hlt
      have heq := hg2.out
      rw [hg.out] at heq
      simp only [Option.some.injEq, Prod.mk.injEq] at heq
      obtain ⟨rfl, rfl⟩ := heq
      have qx : ∀ p : Past wr, p.to.cell? ⟨b1, o1 + k * 2, none⟩ = some (.int .i64 x) := fun p => p.cell ex
      have qy : ∀ p : Past wr, p.to.cell? ⟨b1, o1 + k * 2 + 1, none⟩ = some (.int .i64 y) := fun p => p.cell ey
      have rx : ∀ p : Past wr, p.to.cell? ⟨b2, o2 + k * 2, none⟩ = some (.int .i64 x) := fun p => p.cell ex2
      have ry : ∀ p : Past wr, p.to.cell? ⟨b2, o2 + k * 2 + 1, none⟩ = some (.int .i64 y) := fun p => p.cell ey2
      clear hB hg hg2
      go_wp2_with fail
      refine wp_region_past (by kernel_rfl) (by kernel_rfl) ?_
      repeat (first | go_big_quiet_step ((go_at_call 69; (with_reducible exact ret_past (eqShot_same _ _ _)))) | quiet_step ((go_at_call 69; (with_reducible exact ret_past (eqShot_same _ _ _)))))
      refine wpQuiet_nil ?_
      rintro _ ⟨pq, rfl⟩
      have hB3 := hide (Below.trans' HBB.out pq.old)
      clear qx qy rx ry ex ey ex2 ey2
      go_wp2_with fail
      go_roundw
      case rel => exact ⟨k + 1, by omega, by go_num, hB3.out⟩
      case measure => simp [intOf]; omega
    · obtain rfl : k = ps.length := by omega
      clear hB
      go_wp2_with fail
      go_ret
      exact ⟨rfl, HBB.out⟩
end Go.Proofs.Ythcnilbgjaahfaa
