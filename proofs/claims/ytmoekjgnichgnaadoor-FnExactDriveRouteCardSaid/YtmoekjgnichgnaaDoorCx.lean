/-
  Crossed squares, the program's text: the function value that crossed hands back, for every loop body that keeps what it reads.
-/
import Derived.RangeFuncNested
import Derived.RangeFuncBound
import Derived.RangeFuncCalls
import Derived.RangeFuncLeaves
import Derived.RangeFuncFrom
import Derived.RangeFuncBox
import Derived.Shelf.Abstract
import Derived.Shelf.RegionOpen
import Derived.OwnWalkIn
import Derived.TacticsInMore
import Derived.LoopNIn
import Derived.LoopIn
import Derived.Test.YtmoekjgnichgnaaDoorQw
import Derived.Test.YtmoekjgnichgnaaDoorTm
namespace Go.Proofs.YtmoekjgnichgnaaDoor
open Go.RowKit Go.Shelf
attribute [local go_sem] Oper.semAt_some
set_option linter.unusedVariables false

/-- What a round must leave alone: what lay below n₀, and two boxes. -/
def KeepB (n₀ B1 B2 : Nat) (W W' : World) : Prop := Below n₀ W W' ∧ W'.heap[B1]? = W.heap[B1]? ∧ W'.heap[B2]? = W.heap[B2]?
theorem KeepB.refl (n₀ B1 B2 : Nat) (W : World) : KeepB n₀ B1 B2 W W := ⟨Below.refl _ _, rfl, rfl⟩
theorem KeepB.trans {n₀ B1 B2 : Nat} {A B C : World} (h : KeepB n₀ B1 B2 A B) (k : KeepB n₀ B1 B2 B C) : KeepB n₀ B1 B2 A C := ⟨h.1.trans k.1, k.2.1.trans h.2.1, k.2.2.trans h.2.2⟩
theorem KeepB.of_below {n₀ B1 B2 : Nat} {A B : World} (h : Below A.heap.size A B) (hn : n₀ ≤ A.heap.size) (hb : B1 < A.heap.size) (hb2 : B2 < A.heap.size) : KeepB n₀ B1 B2 A B := ⟨h.mono hn, h.block _ hb, h.block _ hb2⟩
theorem keepB_b {n₀ B1 B2 : Nat} {w : World} (hn : n₀ ≤ w.heap.size) (hb : B1 < w.heap.size) (hb2 : B2 < w.heap.size) (W : World) (l : Nat) (o o' : Obj) (hl : w.heap.size ≤ l) (h : W.heap[l]? = some o) (h1 : o.isCells = false) (h2 : o.isWalk = false) : KeepB n₀ B1 B2 W (W.putObj l o') :=
  ⟨belowK_b hn W l o o' hl h h1 h2, World.putObj_heap_other (by omega), World.putObj_heap_other (by omega)⟩
/-- What speaks of blocks below the loop's own is the loop's to keep. -/
theorem ownFrom_of_below {β : Type} {B : Nat} {I : β → World → Prop} (hsz : ∀ s W, I s W → B ≤ W.heap.size) (h : ∀ s W W', I s W → Below B W W' → I s W') : OwnFrom B I := fun s W W' row hs hg hr =>
  h s W W' hs ⟨hg.os, hg.tape, hg.output, hg.size, fun k hk => hg.block k (by have := hsz s W hs; omega) (fun e => by have := (hr k e.symm).1; omega)⟩
theorem keepsOthers_below {W W' : World} (h : Below W.heap.size W W') : KeepsOthers W W' := ⟨h.size, fun k _ hk _ => (h.block k (Array.getElem?_eq_some_iff.1 hk).1).trans hk⟩
theorem leadAny {K : Prop} (o : Option FuncId) (h : K) : (∀ f : FuncId, o = some f → Fence.wide.fn f) ∧ K := ⟨fun _ _ => trivial, h⟩
theorem noLead {F : Fence} {K : Prop} (h : K) : (∀ f : FuncId, none = some f → F.fn f) ∧ K := ⟨fun _ h => (by cases h), h⟩
theorem row1 {w : World} {b : Nat} {x : Value} {t : TypeId} (h : w.heap[b]? = some (.cells #[x] t (0, 0))) : w.cell? ⟨b, 0, none⟩ = some x ∧ w.frozen? ⟨b, 0, none⟩ = false :=
  ⟨(cell_of_row _ _ 0 _ _ (0, 0) h).trans rfl, frozen_of_row _ _ 0 _ _ h⟩

/-- The squares that a car crosses with some speeds, as items. -/
abbrev Cs (x y u v : Int) := { p : Int × Int // p ∈ crs x y u v }
theorem spd_cases (u v : Int) : (spd u v = u ∧ -u ≤ u ∧ v ≤ u ∧ -v ≤ u) ∨ (spd u v = -u ∧ u ≤ -u ∧ v ≤ -u ∧ -v ≤ -u) ∨ (spd u v = v ∧ u ≤ v ∧ -u ≤ v ∧ -v ≤ v) ∨ (spd u v = -v ∧ u ≤ -v ∧ -u ≤ -v ∧ v ≤ -v) := by
  unfold spd
  omega
theorem spd_nonneg (u v : Int) : 0 ≤ spd u v := by rcases spd_cases u v with h | h | h | h <;> omega
theorem spd_le {u v : Int} (hu : -6 ≤ u ∧ u ≤ 6) (hv : -6 ≤ v ∧ v ≤ 6) : spd u v ≤ 6 := by rcases spd_cases u v with h | h | h | h <;> omega
theorem crs_len (x y u v : Int) : (crs x y u v).length = (spd u v - 1).toNat := by simp [crs]
theorem crs_get {x y u v : Int} {k : Nat} (h : ((k : Int) + 1) < spd u v) : (crs x y u v)[k]? = some (x + stp ((k : Int) + 1) u (spd u v), y + stp ((k : Int) + 1) v (spd u v)) := by
  unfold crs
  rw [List.getElem?_map, List.getElem?_range (by omega)]
  rfl
theorem stp_range {k u m : Int} (hk0 : 1 ≤ k) (hk : k < m) (hm : m ≤ 6) (hu : -6 ≤ u ∧ u ≤ 6) : -40 ≤ k * u ∧ k * u ≤ 40 ∧ -100 ≤ stp k u m ∧ stp k u m ≤ 100 := by
  have hk6 : k = 1 ∨ k = 2 ∨ k = 3 ∨ k = 4 ∨ k = 5 := by omega
  have h1 : -40 ≤ k * u ∧ k * u ≤ 40 := by rcases hk6 with rfl | rfl | rfl | rfl | rfl <;> omega
  refine ⟨h1.1, h1.2, ?_⟩
  unfold stp
  obtain ⟨p, hp⟩ : ∃ p, p = k * u := ⟨_, rfl⟩
  rw [← hp] at h1 ⊢
  have hm6 : m = 2 ∨ m = 3 ∨ m = 4 ∨ m = 5 ∨ m = 6 := by omega
  rcases hm6 with rfl | rfl | rfl | rfl | rfl <;> omega

theorem max4 (ts : Array TypeId) (t : TypeId) (u v : Int) (w : World) : (Builtin.max_ ts t #[.int .i64 u, .int .i64 (-u), .int .i64 v, .int .i64 (-v)]).run Tryd.prog w = .ok (.int .i64 (spd u v)) w := by
  have h : (Builtin.max_ ts t #[.int .i64 u, .int .i64 (-u), .int .i64 v, .int .i64 (-v)]).run Tryd.prog w = .ok (.int .i64 (if -v > (if v > (if -u > u then -u else u) then v else (if -u > u then -u else u)) then -v else (if v > (if -u > u then -u else u) then v else (if -u > u then -u else u)))) w := by
    simp [Builtin.max_, Builtin.max2]
  rw [h]
  congr 2
  unfold spd
  (repeat split) <;> omega
set_option maxRecDepth 100000 in
theorem crossed_any (x y u v mv : Int) (w : World) :
    Calls Tryd.prog 62 #[.agg #[.int .i64 x, .int .i64 y, .int .i64 u, .int .i64 v], .int .i64 mv] w fun e w' => e = .returned (.func (.func 107) #[] #[.pointer (some ⟨w.heap.size, 0, none⟩), .pointer (some ⟨w.heap.size + 1, 0, none⟩)]) ∧ (w.alloc (.cells #[.int .i64 x, .int .i64 y, .int .i64 u, .int .i64 v] 28)).alloc (.cells #[.int .i64 mv] 2) = w' := by
  go_enter Tryd.func62, Tryd.ntmps62
  go_wp2
  go_ret
  exact ⟨rfl, rfl⟩

set_option maxRecDepth 100000 in
set_option maxHeartbeats 8000000 in
theorem crs_in (m : Nat) (hm : 1 ≤ m) (l Bc Bm n₀ : Nat) (x y u v mv nu nv : Int) (hx : Rg x) (hy : Rg y) (hu : -5 ≤ u ∧ u ≤ 5) (hv : -5 ≤ v ∧ v ≤ 5) (h0 : 0 ≤ mv) (h8 : mv ≤ 8) (hnu : (⟨x, y, u, v⟩ : Cr).nu mv = nu) (hnv : (⟨x, y, u, v⟩ : Cr).nv mv = nv)
    (J Jx : List (Cs x y nu nv) → World → Prop) (hJ : ∀ s A C, J s A → Below A.heap.size A C → J s C)
    (hY : ∀ pre z W, J pre W → pre.length < 6 → YieldAt Fence.wide (m - 1) Tryd.prog l #[.int .i64 z.1.1, .int .i64 z.1.2] W fun e W' =>
      (e = .returned (.bool true) ∧ J (pre ++ [z]) W' ∧ KeepB n₀ Bc Bm W W') ∨ (e = .returned (.bool false) ∧ Jx (pre ++ [z]) W'))
    (W : World) (hBc : W.heap[Bc]? = some (.cells #[.int .i64 x, .int .i64 y, .int .i64 u, .int .i64 v] 28 (0, 0))) (hBm : W.heap[Bm]? = some (.cells #[.int .i64 mv] 2 (0, 0))) (hn₀ : n₀ ≤ W.heap.size) (hJ0 : J [] W) :
    CallsIn Fence.wide m Tryd.prog 107 #[.func (.yield l) #[] #[], .pointer (some ⟨Bc, 0, none⟩), .pointer (some ⟨Bm, 0, none⟩)] W fun e W' => (∃ v, e = .returned v) ∧
      ((∃ ys : List (Cs x y nu nv), ys.map (·.1) = crs x y nu nv ∧ J ys W') ∨ (∃ pre, True ∧ Jx pre W')) := by
  have hnu6 : -6 ≤ nu ∧ nu ≤ 6 := by rw [← hnu]; unfold Cr.nu; dsimp only; omega
  have hnv6 : -6 ≤ nv ∧ nv ≤ 6 := by rw [← hnv]; unfold Cr.nv; dsimp only; omega
  have HBH : Hid (∀ V : World, Calls Tryd.prog 68 #[.agg #[.int .i64 x, .int .i64 y, .int .i64 u, .int .i64 v], .int .i64 mv] V (RetB (.agg #[.int .i64 (x + nu), .int .i64 (y + nv), .int .i64 nu, .int .i64 nv]) V)) := hide (fun V => by
    have h := behind_any x y u v mv hx hy (by unfold Rg; omega) (by unfold Rg; omega) h0 h8 V
    unfold crV Cr.go at h
    rw [hnu, hnv] at h
    exact h)
  obtain ⟨hx0, hx1⟩ := hx
  obtain ⟨hy0, hy1⟩ := hy
  have HY := hide hY
  have HJ := hide hJ
  have HBc := hide hBc
  have HBm := hide hBm
  have hBcl : Hid (Bc < W.heap.size) := hide (block_lt hBc)
  have hBml : Hid (Bm < W.heap.size) := hide (block_lt hBm)
  obtain ⟨c0, c1, c2, c3⟩ := row4 hBc
  obtain ⟨m0, _⟩ := row1 hBm
  clear hY hJ hBc hBm hnu hnv
  refine callsIn_of_wp Tryd.func107 rfl trivial ?_ rfl
  simp only [Tryd.ntmps107, List.size_toArray, List.length_cons, List.length_nil, Nat.reduceAdd, Nat.reduceSub, Array.replicate_succ, Array.replicate_zero, List.push_toArray, List.append_toArray, List.nil_append, List.cons_append]
  gi_wp2_with (refine ⟨trivial, ?_⟩; gi_at_call 68; refine (callsIn_wide.2 (HBH.out _)).mono ?_; rintro e w1 ⟨rfl, hb1⟩)
  obtain ⟨V1, hV1⟩ : ∃ V1, V1 = w1.alloc (.cells #[.int .i64 (x + nu), .int .i64 (y + nv), .int .i64 nu, .int .i64 nv] 28) := ⟨_, rfl⟩
  have hbV1 : Below W.heap.size W V1 := by rw [hV1]; exact Below.alloc' hb1 _
  have hrV1 : V1.heap[w1.heap.size]? = some (.cells #[.int .i64 (x + nu), .int .i64 (y + nv), .int .i64 nu, .int .i64 nv] 28 (0, 0)) := by rw [hV1]; exact row_new _ _ _
  have p2 : ∀ p : Past V1, p.to.cell? ⟨w1.heap.size, 2, none⟩ = some (.int .i64 nu) := fun p => p.cell (row4 hrV1).2.2.1
  have p3 : ∀ p : Past V1, p.to.cell? ⟨w1.heap.size, 3, none⟩ = some (.int .i64 nv) := fun p => p.cell (row4 hrV1).2.2.2
  rw [← hV1]
  clear hV1 hrV1 hb1 c0 c1 c2 c3 m0
  refine wpIn_region_pastW (by kernel_rfl) (by kernel_rfl) (by kernel_rfl) ?_
  repeat (first | go_big_quiet_step (fail) | quiet_step (fail))
  refine wpQuiet_nil ?_
  rintro _ ⟨pq, rfl⟩
  have hb2 : Below W.heap.size W pq.to := hbV1.trans (pq.old.mono hbV1.size)
  clear hbV1 p2 p3
  obtain ⟨K, hK⟩ : ∃ K, K = spd nu nv := ⟨_, rfl⟩
  have hK6 : 0 ≤ K ∧ K ≤ 6 := by rw [hK]; exact ⟨spd_nonneg _ _, spd_le hnu6 hnv6⟩
  obtain ⟨hK0, hK1⟩ := hK6
  obtain ⟨nu0, nu1⟩ := hnu6
  obtain ⟨nv0, nv1⟩ := hnv6
  have HK := hide hK
  have HB2 := hide hb2
  have HJ2 := hide (HJ.out _ _ _ hJ0 hb2)
  obtain ⟨w2, hw2⟩ : ∃ w2, w2 = pq.to := ⟨_, rfl⟩
  rw [← hw2] at HB2 HJ2 ⊢
  have hmx : ∀ V : World, (Builtin.max_ #[2, 2, 2, 2] 2 #[.int .i64 nu, .int .i64 (-nu), .int .i64 nv, .int .i64 (-nv)]).run Tryd.prog V = .ok (.int .i64 K) V := fun V => by rw [HK.out]; exact max4 _ _ _ _ _
  clear hw2 hb2 hJ0 hK
  gi_wp2
  clear hmx
  gi_loopw [8] (fun v8 wr => ∃ (k : Nat) (ys : List (Cs x y nu nv)), v8 = .int .i64 k ∧ 1 ≤ k ∧ (k = 1 ∨ k ≤ K) ∧ Hid (ys.map (·.1) = (crs x y nu nv).take (k - 1)) ∧ Hid (J ys wr) ∧ Hid (KeepB n₀ Bc Bm W wr) ∧ Hid (W.heap.size ≤ wr.heap.size))
    (fun v8 _ => K.toNat + 1 - (intOf v8).toNat)
  case atStart => exact ⟨1, [], rfl, Nat.le_refl _, .inl rfl, hide rfl, HJ2, hide (KeepB.of_below HB2.out hn₀ hBcl.out hBml.out), hide HB2.out.size⟩
  case round =>
    obtain ⟨k, ys, rfl, hk1, hkK, hys, hJs, hKB, hS⟩ := hrel
    by_cases hlt : (k : Int) < K
    · have hrc : wr.heap[Bc]? = some (.cells #[.int .i64 x, .int .i64 y, .int .i64 u, .int .i64 v] 28 (0, 0)) := by rw [hKB.out.2.1]; exact HBc.out
      have hBcr : Hid (Bc < wr.heap.size) := hide (block_lt hrc)
      have hBmr : Hid (Bm < wr.heap.size) := hide (by have := hS.out; have := hBml.out; omega)
      have hnr : Hid (n₀ ≤ wr.heap.size) := hide (by have := hS.out; omega)
      obtain ⟨d0, d1, _, _⟩ := row4 hrc
      have p0 : ∀ p : Past wr, p.to.cell? ⟨Bc, 0, none⟩ = some (.int .i64 x) := fun p => p.cell d0
      have p1 : ∀ p : Past wr, p.to.cell? ⟨Bc, 1, none⟩ = some (.int .i64 y) := fun p => p.cell d1
      obtain ⟨r1, r2, r3, r4⟩ := stp_range (k := (k : Int)) (u := nu) (m := K) (by omega) hlt hK1 ⟨nu0, nu1⟩
      obtain ⟨t1, t2, t3, t4⟩ := stp_range (k := (k : Int)) (u := nv) (m := K) (by omega) hlt hK1 ⟨nv0, nv1⟩
      obtain ⟨pu, hpu⟩ : ∃ pu, (k : Int) * nu = pu := ⟨_, rfl⟩
      obtain ⟨pv, hpv⟩ : ∃ pv, (k : Int) * nv = pv := ⟨_, rfl⟩
      obtain ⟨su, hsu⟩ : ∃ su, stp k nu K = su := ⟨_, rfl⟩
      obtain ⟨sv, hsv⟩ : ∃ sv, stp k nv K = sv := ⟨_, rfl⟩
      rw [hpu] at r1 r2
      rw [hpv] at t1 t2
      have HN1 : Hid (∀ V : World, Calls Tryd.prog 108 #[.int .i64 pu, .int .i64 K] V (RetB (.int .i64 su) V)) := hide (fun V => by
        have h := nearestTo_any pu K (by omega) (by omega) (by omega) (by omega) V
        rw [← hsu]
        unfold stp
        rw [hpu]
        exact h)
      have HN2 : Hid (∀ V : World, Calls Tryd.prog 108 #[.int .i64 pv, .int .i64 K] V (RetB (.int .i64 sv) V)) := hide (fun V => by
        have h := nearestTo_any pv K (by omega) (by omega) (by omega) (by omega) V
        rw [← hsv]
        unfold stp
        rw [hpv]
        exact h)
      have hget : (crs x y nu nv)[k - 1]? = some (x + su, y + sv) := by
        have h := crs_get (x := x) (y := y) (u := nu) (v := nv) (k := k - 1) (by rw [← HK.out]; omega)
        rw [← HK.out, show (((k - 1 : Nat) : Int) + 1) = (k : Int) by omega, hsu, hsv] at h
        exact h
      have hmem : (x + su, y + sv) ∈ crs x y nu nv := List.mem_of_getElem? hget
      have hnx : Hid ((crs x y nu nv).take (k + 1 - 1) = (crs x y nu nv).take (k - 1) ++ [(x + su, y + sv)]) := hide (by
        rw [show k + 1 - 1 = (k - 1) + 1 by omega, List.take_add_one, hget]
        rfl)
      rw [hsu] at r3 r4
      rw [hsv] at t3 t4
      have hlen : ys.length < 6 := by
        have h1 := congrArg List.length hys.out
        rw [List.length_map, List.length_take] at h1
        omega
      have HPQ := hide (And.intro hsu hsv)
      clear hrc d0 d1 hget hsu hsv hkK
      gi_wp2
      refine wpIn_region_pastW_tail 17 (by kernel_rfl) (by kernel_rfl) (by kernel_rfl) ?_
      simp only [List.take_succ_cons, List.take_zero, List.drop_succ_cons, List.drop_zero]
      repeat (first | go_big_quiet_step ((go_at_call 108; (with_reducible first | exact ret_past (HN1.out _) | exact ret_past (HN2.out _)))) | quiet_step ((go_at_call 108; (with_reducible first | exact ret_past (HN1.out _) | exact ret_past (HN2.out _)))))
      refine wpQuiet_nil ?_
      rintro _ ⟨pq, rfl⟩
      have hb1 := pq.old
      have hJ3 := HJ.out _ _ _ hJs.out hb1
      have hK2 := hide (hKB.out.trans (KeepB.of_below hb1 hnr.out hBcr.out hBmr.out))
      have hS2 : Hid (W.heap.size ≤ pq.to.heap.size) := hide (Nat.le_trans hS.out hb1.size)
      obtain ⟨fn, tmps, assign, body, hy, hR⟩ := HY.out _ ⟨(x + su, y + sv), hmem⟩ pq.to hJ3 hlen
      dsimp only at hy
      clear hb1 hJ3 p0 p1 HN1 HN2 hpu hpv
      gi_wp2_with (with_reducible refine noLead ?_)
      all_goals
        refine hR.mono ?_
        rintro e W3 (⟨rfl, hJ3, hk3⟩ | ⟨rfl, hJx3⟩)
        · have hK3 := hide (hK2.out.trans hk3)
          have hS3 : Hid (W.heap.size ≤ W3.heap.size) := hide (Nat.le_trans hS2.out hk3.1.size)
          have HJ3 := hide hJ3
          clear hJ3 hk3 hy
          gi_wp2
          go_roundw
          case rel => exact ⟨k + 1, ys ++ [⟨(x + su, y + sv), hmem⟩], by go_num, by omega, .inr (by omega), hide (by rw [hnx.out, List.map_append, hys.out]; rfl), HJ3, hK3, hS3⟩
          case measure => simp [intOf]; omega
        · gi_wp2
          refine bodyPost_ret (results_none rfl _ _ _) rfl ?_
          exact ⟨⟨_, rfl⟩, .inr ⟨_, trivial, hJx3⟩⟩
    · have hfin : Hid ((crs x y nu nv).take (k - 1) = crs x y nu nv) := hide (List.take_of_length_le (by rw [crs_len, ← HK.out]; omega))
      gi_wp2
      go_end0
      exact ⟨⟨_, rfl⟩, .inl ⟨ys, hys.out.trans hfin.out, hJs.out⟩⟩
end Go.Proofs.YtmoekjgnichgnaaDoor
