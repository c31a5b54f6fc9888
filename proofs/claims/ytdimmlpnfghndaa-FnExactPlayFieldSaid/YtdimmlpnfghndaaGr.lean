/-
  Col and snort: the best points, the model's text, beside its table.
-/
import Derived.Test.YtdimmlpnfghndaaGn
import Derived.Test.YtdimmlpnfghndaaGa
namespace Go.Proofs.Ytdimmlpnfghndaa
open Go.RowKit Go.Maps
set_option linter.unusedVariables false

theorem ButB.cell {B n : Nat} {a b : World} (h : ButB B n a b) {p : Addr} {v : Value} (hc : a.cell? p = some v) (hk : p.block < B) (hn : p.block ≠ n) : b.cell? p = some v :=
  (World.cell?_of_block (h.block _ hk hn)).trans hc
theorem OwnB.made {B n : Nat} {W0 w : World} (h : ButB B n W0 w) (hs : B ≤ w.heap.size) : OwnB B n W0 (w.alloc (.cells #[] 2)) (.slice (some ⟨w.heap.size, 0, none⟩) 0 0) [] := by
  refine ⟨⟨rfl, .inr ⟨w.heap.size, 0, #[], rfl, hs, heap_alloc_new w _, Nat.le_refl _, by unfold maxLen; omega, rfl, rfl⟩⟩, h.alloc hs _, by simp; omega⟩

set_option maxRecDepth 100000 in
set_option maxHeartbeats 4000000 in
theorem specBest_any (N L game : Int) (bK M : Nat) (hM : (M : Int) = 2 * pow3 N.toNat) (R B pl : Int) (hok : okT N L R B pl) (W : World) (hT : KnT (valW N L game) N L bK W) :
    Calls Try.prog 64 #[.agg #[.int .i64 N, .int .i64 L, .int .i64 R, .int .i64 B], .int .i64 game, .int .i64 pl, .slice (some ⟨bK, 0, none⟩) M M] W (NewLM bK (KnT (valW N L game) N L bK) (best N L R B game pl) W) := by
  obtain ⟨i0, hi0, hz0, hz1, hz2⟩ := info_parts Try.info2
  obtain ⟨W0, hW0⟩ : ∃ W0, W0 = W.alloc (.cells #[.int .i64 N, .int .i64 L, .int .i64 R, .int .i64 B] 25) := ⟨_, rfl⟩
  have hB0 : Hid (Below W.heap.size W W0) := by rw [hW0]; exact hide (below_alloc _ _)
  have hX0 : Hid (FieldIn W0 W.heap.size N L R B) := by rw [hW0]; exact hide (fieldIn_new _ _ _ _ _ _)
  have hbK : bK < W.heap.size := hT.lt
  have HT0 := hide (hT.keep hB0.out)
  have HOT := hide hok
  have HM := hide hM
  have hN8 := (okF_nums hok.1).2.1
  obtain ⟨zb, hzb⟩ : ∃ zb, zb = best N L R B game pl := ⟨_, rfl⟩
  rw [← hzb]
  have HZB := hide hzb
  obtain ⟨pl0, pl1⟩ := hok.2
  have HPT : Hid (∀ V : World, Calls Try.prog 52 #[.agg #[.int .i64 N, .int .i64 L, .int .i64 R, .int .i64 B], .int .i64 game, .int .i64 pl] V (NewL (pts N L R B game pl) V)) := hide (fun V => specPoints_any N L R B game pl HOT.out.1 V)
  obtain ⟨X0, X1, X2, X3⟩ := hX0.out
  have hs0 := hX0.out.lt
  clear hT hok hM hzb
  go_enter Try.func64, Try.ntmps64
  go_wp2_with fail
  rw [← hW0]
  clear hW0
  (try go_wp2_with fail)
  refine (HPT.out _).mono ?_
  rintro e w2 ⟨al, cl, rfl, ho2, hb2⟩
  obtain ⟨zs, hzs⟩ : ∃ zs, zs = pts N L R B game pl := ⟨_, rfl⟩
  rw [← hzs] at ho2 ⊢
  have HZS := hide hzs
  have hzl : zs.length ≤ 8 := by rw [hzs]; exact pts_le hN8
  have HT2 := HT0.out.keep hb2
  have hX2 := hX0.out.keep hb2
  have hB2 := Below.trans' hB0.out hb2
  have hs2 := hX2.lt
  obtain ⟨w3, hw3⟩ : ∃ w3, w3 = w2.alloc (.cells #[] 2) := ⟨_, rfl⟩
  have hb3 : Below w2.heap.size w2 w3 := by rw [hw3]; exact below_alloc _ _
  have hO3 : Hid (OwnB w2.heap.size bK w2 w3 (.slice (some ⟨w2.heap.size, 0, none⟩) 0 0) []) := by rw [hw3]; exact hide (OwnB.made (ButB.refl _ _ _) (Nat.le_refl _))
  have HI2 := hide (intsAt_of_ownsRow ho2)
  have HFAR : Hid (∀ g off, al = some ⟨g, off, none⟩ → g < w2.heap.size ∧ g ≠ bK) := hide (fun g off e => by
    refine ⟨?_, own_far ho2 (show bK < W0.heap.size by omega) g off e⟩
    rcases ho2.2 with ⟨hv, _⟩ | ⟨g', cap, cur, hv, hgg, hh, _⟩
    · simp only [Value.slice.injEq] at hv
      rw [e] at hv
      cases hv.1
    · simp only [Value.slice.injEq] at hv
      rw [e] at hv
      have e2 := hv.1
      simp only [Option.some.injEq, Addr.mk.injEq] at e2
      have hlt := (Array.getElem?_eq_some_iff.1 hh).1
      omega)
  have HT3 := hide (HT2.keep hb3)
  have HX2 := hide hX2
  have hX3 := hide (hX2.keep hb3)
  have hB2 := hide hB2
  obtain ⟨n, hn⟩ : ∃ n, n = zs.length := ⟨_, rfl⟩
  have HN := hide hn
  rw [← hn] at hzl ⊢
  obtain ⟨q, hq⟩ : ∃ q, q = qB N L game R B pl := ⟨_, rfl⟩
  have HQ := hide hq
  clear ho2 hb2 hb3 hzs hn hq X0 X1 X2 X3 HT2 hX2
  go_wp2_with fail
  rw [← hw3]
  clear hw3
  obtain ⟨X0, X1, X2, X3⟩ := hX3.out
  (try go_wp2_with fail)
  go_loopw [10, 11] (fun v5 i wr => ∃ (j : Nat) (v0 : Value), v0 = v5 ∧ j ≤ n ∧ i = .int .i64 j ∧ OwnB w2.heap.size bK w2 wr v5 ((zs.take j).filter q) ∧ KnT (valW N L game) N L bK wr) (fun _ i _ => n - (intOf i).toNat)
  case atStart => exact ⟨0, _, rfl, Nat.zero_le _, rfl, by rw [List.take_zero]; exact hO3.out, HT3.out⟩
  case round =>
    clear hO3 X0 X1 X2 X3
    obtain ⟨j, v5, rfl, hj, rfl, hO, hKr⟩ := hrel
    have HO := hide hO
    have HKR := hide hKr
    by_cases hlt : j < n
    · obtain ⟨b, off, z, rfl, cz, hz⟩ := (hO.old.ints HI2.out HFAR.out).one (k := j) (by rw [← HN.out]; exact hlt)
      have hmem : z ∈ pts N L R B game pl := by rw [← HZS.out]; exact mem_of_get hz.out
      obtain ⟨z0, z1, z2, z3⟩ := pts_mem hmem
      obtain ⟨h1, _, h3⟩ := move_of_pts HOT.out.1 hmem
      obtain ⟨x, hx⟩ : ∃ x, x = win N L (mvR R pl z) (mvB B pl z) game (1 - pl) := ⟨_, rfl⟩
      have hqz : Hid (q z = !x) := hide (by rw [HQ.out, hx]; rfl)
      obtain ⟨_, _, _, _, r0, r1, b0, b1⟩ := okF_nums HOT.out.1
      obtain ⟨r, hr⟩ : ∃ r, r = mvR R pl z := ⟨_, rfl⟩
      obtain ⟨bb, hbb⟩ : ∃ bb, bb = mvB B pl z := ⟨_, rfl⟩
      have HMV : Hid (∀ V : World, Calls Try.prog 55 #[.agg #[.int .i64 N, .int .i64 L, .int .i64 R, .int .i64 B], .int .i64 pl, .int .i64 z] V (RetB (.agg #[.int .i64 N, .int .i64 L, .int .i64 r, .int .i64 bb]) V)) := hide (fun V => by rw [hr, hbb]; exact specMove_any N L R B pl z r0 r1 b0 b1 z0 (by omega) V)
      have HWI : Hid (∀ V : World, KnT (valW N L game) N L bK V → Calls Try.prog 60 #[.agg #[.int .i64 N, .int .i64 L, .int .i64 r, .int .i64 bb], .int .i64 game, .int .i64 (1 - pl), .slice (some ⟨bK, 0, none⟩) M M] V (RetK bK (KnT (valW N L game) N L bK) (.bool x) V)) := hide (fun V hk => by rw [hr, hbb, hx]; exact specWins_any N L game bK M HM.out _ _ _ _ V ⟨h1, by omega, by omega⟩ rfl hk)
      have nX : W.heap.size ≠ bK := by omega
      obtain ⟨X0, X1, X2, X3⟩ := HX2.out
      have q0 : ∀ p : PB bK (KnT (valW N L game) N L bK) wr, p.to.cell? ⟨W.heap.size, 0, none⟩ = some (.int .i64 N) := fun p => p.cell (hO.old.cell X0 hs2 nX) nX
      have q1 : ∀ p : PB bK (KnT (valW N L game) N L bK) wr, p.to.cell? ⟨W.heap.size, 1, none⟩ = some (.int .i64 L) := fun p => p.cell (hO.old.cell X1 hs2 nX) nX
      have q2 : ∀ p : PB bK (KnT (valW N L game) N L bK) wr, p.to.cell? ⟨W.heap.size, 2, none⟩ = some (.int .i64 R) := fun p => p.cell (hO.old.cell X2 hs2 nX) nX
      have q3 : ∀ p : PB bK (KnT (valW N L game) N L bK) wr, p.to.cell? ⟨W.heap.size, 3, none⟩ = some (.int .i64 B) := fun p => p.cell (hO.old.cell X3 hs2 nX) nX
      have cz' : ∀ p : PB bK (KnT (valW N L game) N L bK) wr, p.to.cell? ⟨b, off + j, none⟩ = some (.int .i64 z) := fun p => p.cell cz (HFAR.out b off rfl).2
      have hj0 : (0 : Int) ≤ (j : Int) := by omega
      have hjn : (j : Int) < (n : Int) := by omega
      have hlj : ((zs.take j).filter q).length ≤ 8 := by have h1 := List.length_filter_le q (zs.take j); have h2 := List.length_take_le j zs; omega
      clear hO hKr hmem hx hr hbb X0 X1 X2 X3 cz r0 r1 b0 b1 h1 h3
      go_wp2_with fail
      refine wp_region_pb (bK) (KnT (valW N L game) N L bK) (fun _ _ h k => KnT.keep h k) (by kernel_rfl) (by kernel_rfl) ?_
      repeat (first | fail | go_big_quiet_step ((first | (go_at_call 55; with_reducible exact retB_pb (fun _ _ h k => KnT.keep h k) (HMV.out _)) | (go_at_call 60; with_reducible exact retK_pb (HWI.out _ (PB.inv _ HKR.out))))) | quiet_step ((first | (go_at_call 55; with_reducible exact retB_pb (fun _ _ h k => KnT.keep h k) (HMV.out _)) | (go_at_call 60; with_reducible exact retK_pb (HWI.out _ (PB.inv _ HKR.out))))))
      refine wpQuiet_nil ?_
      rintro _ ⟨pq, rfl⟩
      have hO2 := HO.out.keep (by omega) pq.old
      have HK2 := hide (pq.inv HKR.out)
      have hown2 := hO2.own
      have hsz := hO2.size
      have HO2 := hide hO2
      have cz := cz' pq
      clear hO2 q0 q1 q2 q3 cz'
      cases x
      · have hnew := hide (fil_yes (q := q) hz.out (by rw [hqz.out]; rfl))
        go_wp2_with (at_builtin; refine wpList_append_own _ rfl _ _ 33 rfl (w2.heap.size) 2 i0 (.int .i64 0) 1 8 Try.underlying33 hi0 hz0 hz1 hz2 rfl (by decide) _ _ _ rfl (hown2.alloc _) ⟨pq.to.heap.size, 0, none⟩ 1 1 [.int .i64 z] rfl rfl (cell_one_new _ _ _) (by simp [Value.oneCell']) (by unfold maxLen; omega) (by omega) (by simp; omega) ?_)
        intro v' w7 hown' hgrow _
        have HO7 := hide (HO2.out.snoc (by simpa using hown') hgrow)
        have HK7 := hide (HK2.out.turn (HO2.out.blockOf (by omega) (by have := HK2.out.lt; exact this) hgrow))
        clear hown' hgrow hown2 cz
        go_wp2_with fail
        go_roundw
        case rel => exact ⟨j + 1, _, rfl, by omega, by go_num, by rw [hnew.out]; exact HO7.out, HK7.out⟩
        case measure => simp [intOf]; omega
      · have hnew := hide (fil_no (q := q) hz.out (by rw [hqz.out]; rfl))
        go_wp2_with fail
        go_roundw
        case rel => exact ⟨j + 1, _, rfl, by omega, by go_num, by rw [hnew.out]; exact HO2.out, HK2.out⟩
        case measure => simp [intOf]; omega
    · obtain rfl : j = n := by omega
      rw [show zs.take j = zs by rw [HN.out, List.take_length]] at hO
      have HFIN : Hid (NewLM bK (KnT (valW N L game) N L bK) zb W (.returned v5) wr) := hide ⟨by rw [HZB.out, best_q, ← HZS.out, ← HQ.out]; exact hO.list (But.of_below hB2.out) (by omega), HKR.out⟩
      clear hO hKr
      go_wp2_with fail
      go_ret
      exact HFIN.out
end Go.Proofs.Ytdimmlpnfghndaa
