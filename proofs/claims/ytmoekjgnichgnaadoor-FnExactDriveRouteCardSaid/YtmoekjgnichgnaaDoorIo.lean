/-
  Open moves, the program's text: isOpen.
-/
import Derived.Test.YtmoekjgnichgnaaDoorCx
namespace Go.Proofs.YtmoekjgnichgnaaDoor
open Go.RowKit Go.Shelf
attribute [local go_sem] Oper.semAt_some
set_option linter.unusedVariables false

theorem crs_stops (m : Nat) (hm : 1 ≤ m) (Bc Bm n₀ : Nat) (x y u v mv nu nv : Int) (hx : Rg x) (hy : Rg y) (hu : -5 ≤ u ∧ u ≤ 5) (hv : -5 ≤ v ∧ v ≤ 5) (h0 : 0 ≤ mv) (h8 : mv ≤ 8) (hnu : (⟨x, y, u, v⟩ : Cr).nu mv = nu) (hnv : (⟨x, y, u, v⟩ : Cr).nv mv = nv)
    (w : World) (hBc : w.heap[Bc]? = some (.cells #[.int .i64 x, .int .i64 y, .int .i64 u, .int .i64 v] 28 (0, 0))) (hBm : w.heap[Bm]? = some (.cells #[.int .i64 mv] 2 (0, 0))) (hn₀ : n₀ ≤ w.heap.size) :
    SeqStopsK Fence.wide m Tryd.prog 107 #[.pointer (some ⟨Bc, 0, none⟩), .pointer (some ⟨Bm, 0, none⟩)] (fun z : Cs x y nu nv => #[Value.int .i64 z.1.1, .int .i64 z.1.2]) (KeepB n₀ Bc Bm)
      (fun ys => ys.map (·.1) = crs x y nu nv) (fun _ => True) 6 w := fun l J Jx W hW hJ _ hY h0' =>
  crs_in m hm l Bc Bm n₀ x y u v mv nu nv hx hy hu hv h0 h8 hnu hnv J Jx (fun s A C hs hb => hJ s A C none hs (below_grownBy hb) (fun r e => by cases e)) hY W (box_keep hBc hW) (box_keep hBm hW) (by have := hW.size; omega) h0'

theorem okCr_parts {ss : List ByteArray} {c : Cr} (h : okCr ss c = true) : freeB ss c.x c.y = true ∧ (-5 ≤ c.u ∧ c.u ≤ 5) ∧ (-5 ≤ c.v ∧ c.v ≤ 5) := by
  unfold okCr okSpeed at h
  simp only [Bool.and_eq_true] at h
  exact ⟨h.1, inI_yes h.2.1, inI_yes h.2.2⟩
theorem freeB_on {ss : List ByteArray} {x y : Int} (h : freeB ss x y = true) : (0 ≤ x ∧ x ≤ (wid ss : Int) - 1) ∧ (0 ≤ y ∧ y ≤ (ss.length : Int) - 1) := by
  unfold freeB onB at h
  simp only [Bool.and_eq_true] at h
  exact ⟨inI_yes h.1.2, inI_yes h.1.1⟩
theorem okCr_rg {ss : List ByteArray} (hs : shp ss = true) {c : Cr} (h : okCr ss c = true) : (0 ≤ c.x ∧ c.x < 16) ∧ (0 ≤ c.y ∧ c.y < 16) ∧ (-5 ≤ c.u ∧ c.u ≤ 5) ∧ (-5 ≤ c.v ∧ c.v ≤ 5) := by
  obtain ⟨h1, h2, h3⟩ := okCr_parts h
  obtain ⟨k1, k2⟩ := freeB_on h1
  obtain ⟨_, h16, ⟨_, w16⟩, _⟩ := shp_parts hs
  exact ⟨⟨by omega, by omega⟩, ⟨by omega, by omega⟩, h2, h3⟩

/-- What a round of isOpen must find. -/
structure MidO (B M : Nat) (a : Option Addr) (n c : Nat) (W V : World) : Prop where
  size : B ≤ V.heap.size
  bt : V.heap[M]? = some (.cells #[.slice a n c] 63 (0, 0))
  br : ∃ v, V.heap[M + 1 + 1]? = some (.cells #[v] 4 (0, 0))
  old : Below M W V
theorem MidO.below {B M : Nat} {a : Option Addr} {n c : Nat} {W V V' : World} (h : MidO B M a n c W V) (hB : M + 3 ≤ B) (hb : Below B V V') : MidO B M a n c W V' := by
  obtain ⟨v, hv⟩ := h.br
  exact ⟨Nat.le_trans h.size hb.size, (hb.block _ (by omega)).trans h.bt, ⟨v, (hb.block _ (by omega)).trans hv⟩, h.old.trans (hb.mono (by omega))⟩
/-- The loop has been left in the middle: the result has been stored. -/
def MidX (B M : Nat) (W V : World) : Prop := B ≤ V.heap.size ∧ V.heap[M + 1 + 1]? = some (.cells #[.bool false] 4 (0, 0)) ∧ Below M W V
theorem MidX.below {B M : Nat} {W V V' : World} (h : MidX B M W V) (hB : M + 3 ≤ B) (hb : Below B V V') : MidX B M W V' :=
  ⟨Nat.le_trans h.1 hb.size, (hb.block _ (by omega)).trans h.2.1, h.2.2.trans (hb.mono (by omega))⟩
theorem le22 (M : Nat) : M ≤ M + 1 + 1 := by omega
theorem keepB_set {n₀ B1 B2 b : Nat} {A C : World} (h : KeepB n₀ B1 B2 A C) (hb : n₀ ≤ b) (h1 : B1 ≠ b) (h2 : B2 ≠ b) (u : Value) : KeepB n₀ B1 B2 A (C.setCell ⟨b, 0, none⟩ u) :=
  h.trans ⟨(Below.refl _ _).setCell (p := ⟨b, 0, none⟩) hb _, Below.heap_setCell _ _ _ _ h1, Below.heap_setCell _ _ _ _ h2⟩
theorem box_set1 {w : World} {b : Nat} {x : Value} (y : Value) {t : TypeId} (h : w.heap[b]? = some (.cells #[x] t (0, 0))) : (w.setCell ⟨b, 0, none⟩ y).heap[b]? = some (.cells #[y] t (0, 0)) := heap_setCell_same _ b 0 _ t y h

set_option maxRecDepth 100000 in
set_option maxHeartbeats 8000000 in
theorem isOpen_any (a : Option Addr) (c : Nat) (ss : List ByteArray) (x y u v mv : Int) (W : World) (ha : StrsAt W a ss) (hs : shp ss = true) (hok : okCr ss ⟨x, y, u, v⟩ = true) (h0 : 0 ≤ mv) (h8 : mv ≤ 8) :
    Calls Tryd.prog 67 #[.slice a ss.length c, .agg #[.int .i64 x, .int .i64 y, .int .i64 u, .int .i64 v], .int .i64 mv] W (RetB (.bool (opn ss ⟨x, y, u, v⟩ mv)) W) := by
  obtain ⟨⟨x0, x1⟩, ⟨y0, y1⟩, ⟨u0, u1⟩, ⟨v0, v1⟩⟩ := okCr_rg hs hok
  dsimp only at x0 x1 y0 y1 u0 u1 v0 v1
  obtain ⟨nu, hnu⟩ : ∃ nu, (⟨x, y, u, v⟩ : Cr).nu mv = nu := ⟨_, rfl⟩
  obtain ⟨nv, hnv⟩ : ∃ nv, (⟨x, y, u, v⟩ : Cr).nv mv = nv := ⟨_, rfl⟩
  have HBH : Hid (∀ V : World, Calls Tryd.prog 68 #[.agg #[.int .i64 x, .int .i64 y, .int .i64 u, .int .i64 v], .int .i64 mv] V (RetB (.agg #[.int .i64 (x + nu), .int .i64 (y + nv), .int .i64 nu, .int .i64 nv]) V)) := hide (fun V => by
    have h := behind_any x y u v mv (by unfold Rg; omega) (by unfold Rg; omega) (by unfold Rg; omega) (by unfold Rg; omega) h0 h8 V
    unfold crV Cr.go at h
    rw [hnu, hnv] at h
    exact h)
  have hop : Hid (opn ss ⟨x, y, u, v⟩ mv = (okCr ss ⟨x + nu, y + nv, nu, nv⟩ && (crs x y nu nv).all fun p => freeB ss p.1 p.2)) := hide (by
    unfold opn Cr.go
    rw [hnu, hnv])
  obtain ⟨W0, hW0⟩ : ∃ W0, W0 = ((W.alloc (.cells #[.slice a ss.length c] 63)).alloc (.cells #[.int .i64 x, .int .i64 y, .int .i64 u, .int .i64 v] 28)).alloc (.cells #[.bool false] 4) := ⟨_, rfl⟩
  have hs0 : W0.heap.size = W.heap.size + 3 := by rw [hW0]; simp
  have hB0 : Below W.heap.size W W0 := by rw [hW0]; exact ((below_alloc _ _).alloc (by simp) _).alloc (by simp; omega) _
  have hr0 : W0.heap[W.heap.size]? = some (.cells #[.slice a ss.length c] 63 (0, 0)) := by rw [hW0]; exact row_up _ (row_up _ (row_new _ _ _))
  have hr1 : W0.heap[W.heap.size + 1]? = some (.cells #[.int .i64 x, .int .i64 y, .int .i64 u, .int .i64 v] 28 (0, 0)) := by
    have := row_new (W.alloc (.cells #[.slice a ss.length c] 63)) #[.int .i64 x, .int .i64 y, .int .i64 u, .int .i64 v] 28
    rw [hW0]
    exact row_up _ (by simpa using this)
  have hr2 : W0.heap[W.heap.size + 1 + 1]? = some (.cells #[.bool false] 4 (0, 0)) := by
    have := row_new ((W.alloc (.cells #[.slice a ss.length c] 63)).alloc (.cells #[.int .i64 x, .int .i64 y, .int .i64 u, .int .i64 v] 28)) #[.bool false] 4
    rw [hW0]
    simpa using this
  have HA := hide ha
  have HA0 := hide (ha.keep hB0)
  have HB0 := hide hB0
  have HR0 := hide hr0
  have HR1 := hide hr1
  have HR2 := hide hr2
  have q0 : ∀ p : Past W0, p.to.cell? ⟨W.heap.size, 0, none⟩ = some (.slice a ss.length c) := fun p => p.cell (row1 hr0).1
  have q1 : ∀ p : Past W0, p.to.cell? ⟨W.heap.size + 1, 0, none⟩ = some (.int .i64 x) := fun p => p.cell (row4 hr1).1
  have q2 : ∀ p : Past W0, p.to.cell? ⟨W.heap.size + 1, 1, none⟩ = some (.int .i64 y) := fun p => p.cell (row4 hr1).2.1
  have q3 : ∀ p : Past W0, p.to.cell? ⟨W.heap.size + 1, 2, none⟩ = some (.int .i64 u) := fun p => p.cell (row4 hr1).2.2.1
  have q4 : ∀ p : Past W0, p.to.cell? ⟨W.heap.size + 1, 3, none⟩ = some (.int .i64 v) := fun p => p.cell (row4 hr1).2.2.2
  cases hh : okCr ss ⟨x + nu, y + nv, nu, nv⟩
  · have hfin : Hid (opn ss ⟨x, y, u, v⟩ mv = false) := hide (by rw [hop.out, hh]; rfl)
    have HHC : Hid (∀ p : Past W0, Calls Tryd.prog 109 #[.slice a ss.length c, .agg #[.int .i64 (x + nu), .int .i64 (y + nv), .int .i64 nu, .int .i64 nv]] p.to (RetB (.bool false) p.to)) := hide (fun p => by
      have h := hasCar_any a c ss (x + nu) (y + nv) nu nv p.to (HA0.out.keep p.old) hs
      rw [hh] at h
      exact h)
    rw [hfin.out]
    clear ha hr0 hr1 hr2 hB0 hop hh hok
    go_enter Tryd.func67, Tryd.ntmps67
    go_wp2_with fail
    rw [← hW0]
    clear hW0
    (try go_wp2_with fail)
    refine wp_region_past (by kernel_rfl) (by kernel_rfl) ?_
    repeat (first | go_big_quiet_step ((first | (go_at_call 68; (with_reducible exact ret_past (HBH.out _))) | (go_at_call 109; (with_reducible exact ret_past (HHC.out _))))) | quiet_step ((first | (go_at_call 68; (with_reducible exact ret_past (HBH.out _))) | (go_at_call 109; (with_reducible exact ret_past (HHC.out _))))))
    refine wpQuiet_nil ?_
    rintro _ ⟨pq, rfl⟩
    have hr2 := box_keep HR2.out pq.old
    have hB1 := hide ((Below.trans' HB0.out pq.old).setCell (p := ⟨W.heap.size + 1 + 1, 0, none⟩) (le22 _) (.bool false))
    obtain ⟨d0, d1⟩ := row1 hr2
    obtain ⟨j0, _⟩ := row1 (box_set1 (.bool false) hr2)
    have HJ := hide j0
    clear q0 q1 q2 q3 q4 hr2 j0
    go_wp2_with fail
    have j0 := HJ.out
    exact bodyPost_ret (v := .bool false) (by simp [results, Tryd.results67, go_sem, j0]) rfl ⟨rfl, hB1.out⟩
  · have HHC : Hid (∀ p : Past W0, Calls Tryd.prog 109 #[.slice a ss.length c, .agg #[.int .i64 (x + nu), .int .i64 (y + nv), .int .i64 nu, .int .i64 nv]] p.to (RetB (.bool true) p.to)) := hide (fun p => by
      have h := hasCar_any a c ss (x + nu) (y + nv) nu nv p.to (HA0.out.keep p.old) hs
      rw [hh] at h
      exact h)
    obtain ⟨rb, hrb⟩ : ∃ rb, rb = opn ss ⟨x, y, u, v⟩ mv := ⟨_, rfl⟩
    rw [← hrb]
    have HRB : Hid (rb = (crs x y nu nv).all fun p => freeB ss p.1 p.2) := hide (by rw [hrb, hop.out, hh]; rfl)
    clear ha hr0 hr1 hr2 hB0 hop hh hok hrb
    refine (callsIn_wide (n := 6)).1 ?_
    refine callsIn_of_wp_marks Tryd.func67 rfl trivial ?_ rfl
    simp only [Tryd.ntmps67, List.size_toArray, List.length_cons, List.length_nil, Nat.reduceAdd, Nat.reduceSub, Array.replicate_succ, Array.replicate_zero, List.push_toArray, List.append_toArray, List.nil_append, List.cons_append]
    gi_wp2
    rw [← hW0]
    clear hW0
    (try gi_wp2)
    refine wpIn_region_pastW (by kernel_rfl) (by kernel_rfl) (by kernel_rfl) ?_
    repeat (first | go_big_quiet_step ((first | (go_at_call 68; (with_reducible exact ret_past (HBH.out _))) | (go_at_call 109; (with_reducible exact ret_past (HHC.out _))))) | quiet_step ((first | (go_at_call 68; (with_reducible exact ret_past (HBH.out _))) | (go_at_call 109; (with_reducible exact ret_past (HHC.out _))))))
    refine wpQuiet_nil ?_
    rintro _ ⟨pq, rfl⟩
    obtain ⟨w2, hw2⟩ : ∃ w2, w2 = pq.to := ⟨_, rfl⟩
    have hb2 : Below W0.heap.size W0 w2 := by rw [hw2]; exact pq.old
    rw [← hw2]
    have HT2 := hide (box_keep HR0.out hb2)
    have HC2 := hide (box_keep HR1.out hb2)
    have HR22 := hide (box_keep HR2.out hb2)
    have HB2 := hide (Below.trans' HB0.out hb2)
    obtain ⟨c0, c1, c2, c3⟩ := row4 HC2.out
    have hs2 := hb2.size
    clear hw2 hb2 q0 q1 q2 q3 q4
    gi_wp2_with (refine ⟨trivial, ?_⟩; gi_at_call 62; refine (callsIn_wide.2 (crossed_any _ _ _ _ _ _)).mono ?_; rintro e w1 ⟨rfl, rfl⟩)
    obtain ⟨W1, hW1⟩ : ∃ W1, W1 = (w2.alloc (.cells #[.int .i64 x, .int .i64 y, .int .i64 u, .int .i64 v] 28)).alloc (.cells #[.int .i64 mv] 2) := ⟨_, rfl⟩
    have hs1 : W1.heap.size = w2.heap.size + 2 := by rw [hW1]; simp
    have hb21 : Below w2.heap.size w2 W1 := by rw [hW1]; exact (below_alloc _ _).alloc (by simp) _
    have hBc : W1.heap[w2.heap.size]? = some (.cells #[.int .i64 x, .int .i64 y, .int .i64 u, .int .i64 v] 28 (0, 0)) := by rw [hW1]; exact row_up _ (row_new _ _ _)
    have hBm : W1.heap[w2.heap.size + 1]? = some (.cells #[.int .i64 mv] 2 (0, 0)) := by
      have := row_new (w2.alloc (.cells #[.int .i64 x, .int .i64 y, .int .i64 u, .int .i64 v] 28)) #[.int .i64 mv] 2
      rw [hW1]
      simpa using this
    have hMid0 : MidO W1.heap.size W.heap.size a ss.length c W W1 := ⟨Nat.le_refl _, box_keep HT2.out hb21, ⟨_, box_keep HR22.out hb21⟩, Below.trans' HB2.out hb21⟩
    rw [← hW1]
    have hW1n : W.heap.size + 3 ≤ W1.heap.size := by omega
    clear hW1 c0 c1 c2 c3 hb21
    refine wpIn_rangeFunc_ownF (F := Fence.wide) rfl (by omega) (gf := 107) (lb := #[.pointer (some ⟨w2.heap.size, 0, none⟩), .pointer (some ⟨w2.heap.size + 1, 0, none⟩)]) rfl trivial (enters_of Tryd.func107 (by kernel_rfl) rfl)
      (crs_stops 5 (by omega) w2.heap.size (w2.heap.size + 1) W.heap.size x y u v mv nu nv (by unfold Rg; omega) (by unfold Rg; omega) ⟨u0, u1⟩ ⟨v0, v1⟩ h0 h8 hnu hnv W1 hBc hBm (by omega)) KeepB.trans (keepB_b (by omega) (by omega) (by omega)) (Below.refl _ _) (fun _ => rfl)
      (fun pre V => MidO W1.heap.size W.heap.size a ss.length c W V ∧ (pre.all fun z => freeB ss z.1.1 z.1.2) = true)
      (fun cc pre V => cc = .ret ∧ MidX W1.heap.size W.heap.size W V ∧ rb = false)
      (ownFrom_of_below (fun s V h => h.1.size) (fun s V V' h hb => ⟨h.1.below hW1n hb, h.2⟩))
      (fun cc => ownFrom_of_below (fun s V h => h.2.1.1) (fun s V V' h hb => ⟨h.1, h.2.1.below hW1n hb, h.2.2⟩))
      ⟨hMid0, rfl⟩
      (fun z => { tmps := #[.slice a ss.length c, .agg #[.int .i64 x, .int .i64 y, .int .i64 u, .int .i64 v], .int .i64 mv, .pointer (some ⟨W.heap.size, 0, none⟩), .pointer (some ⟨W.heap.size + 1, 0, none⟩), undef, .pointer (some ⟨W.heap.size + 1 + 1, 0, none⟩), .int .i64 z.1.1, .int .i64 z.1.2, .slice a ss.length c, .agg #[.int .i64 x, .int .i64 y, .int .i64 u, .int .i64 v], .int .i64 mv, .agg #[.int .i64 (x + nu), .int .i64 (y + nv), .int .i64 nu, .int .i64 nv], .bool true, .bool false, .agg #[.int .i64 x, .int .i64 y, .int .i64 u, .int .i64 v], .int .i64 mv, .func (.func 107) #[] #[.pointer (some ⟨w2.heap.size, 0, none⟩), .pointer (some ⟨w2.heap.size + 1, 0, none⟩)], .int .i64 z.1.1, .int .i64 z.1.2, undef, undef, undef, undef, undef], defers := [] }) ?assign ?body ?done ?stop
    case assign =>
      intro l z V K hK
      gi_wp2
      exact hK
    case body =>
      rintro l pre ⟨⟨X, Y⟩, hmem⟩ V ⟨hM0, hpre⟩ hlt
      dsimp only
      have HM := hide hM0
      obtain ⟨t0, _⟩ := row1 hM0.bt
      obtain ⟨rv, hrv⟩ := hM0.br
      have HRV := hide hrv
      obtain ⟨r1, r2⟩ := row1 hrv
      have HAV := hide (HA.out.keep hM0.old)
      clear hM0 hrv
      cases hf : freeB ss X Y
      · have hno : Hid (rb = false) := hide (by
          rw [HRB.out, List.all_eq_false]
          exact ⟨(X, Y), hmem, by rw [hf]; simp⟩)
        have HF := hide hf
        clear hf
        gi_wp2_with (first | (with_reducible refine leadAny _ ?_) | (refine ⟨trivial, ?_⟩; gi_at_call 111; refine (callsIn_wide.2 (isFree_is HF.out HAV.out hs)).mono ?_; rintro e w5 ⟨rfl, hb5⟩; (have hr5 := box_keep HRV.out hb5); (obtain ⟨r3, r4⟩ := row1 hr5)))
        have hk : KeepB W.heap.size w2.heap.size (w2.heap.size + 1) V (w5.setCell ⟨W.heap.size + 1 + 1, 0, none⟩ (.bool false)) := by
          have hz := HM.out.size
          exact keepB_set (KeepB.of_below hb5 (by omega) (by omega) (by omega)) (le22 _) (by omega) (by omega) _
        have hko : KeepsOthers V (w5.setCell ⟨W.heap.size + 1 + 1, 0, none⟩ (.bool false)) := (keepsOthers_below hb5).trans (KeepsOthers.setCell _ _ _)
        refine ⟨hko, rfl, ⟨by rw [show (w5.setCell ⟨W.heap.size + 1 + 1, 0, none⟩ (.bool false)).heap.size = w5.heap.size by simp [World.setCell]]; exact Nat.le_trans HM.out.size hb5.size, box_set1 _ hr5, HM.out.old.trans hk.1⟩, hno.out⟩
      · have HF := hide hf
        have hpre2 : Hid (((pre ++ ([⟨(X, Y), hmem⟩] : List (Cs x y nu nv))).all fun z => freeB ss z.1.1 z.1.2) = true) := hide (by rw [List.all_append, hpre]; simp [hf])
        clear hf
        gi_wp2_with (first | (with_reducible refine leadAny _ ?_) | (refine ⟨trivial, ?_⟩; gi_at_call 111; refine (callsIn_wide.2 (isFree_is HF.out HAV.out hs)).mono ?_; rintro e w5 ⟨rfl, hb5⟩))
        have hz := HM.out.size
        exact ⟨keepsOthers_below hb5, KeepB.of_below hb5 (by omega) (by omega) (by omega), HM.out.below hW1n (hb5.mono HM.out.size), hpre2.out⟩
    case done =>
      rintro D ys V hD hys ⟨hM0, hall⟩ hK
      have HM := hide hM0
      have hys' : ys.map (·.1) = crs x y nu nv := hys
      have hyes : Hid (rb = true) := hide (by
        rw [HRB.out, ← hys', List.all_map]
        exact hall)
      obtain ⟨rv, hrv⟩ := HM.out.br
      have HRV := hide hrv
      obtain ⟨r1, r2⟩ := row1 hrv
      have hne : W.heap.size + 1 + 1 ≠ D := by omega
      have HK2 : Hid ((V.setCell ⟨W.heap.size + 1 + 1, 0, none⟩ (.bool true)).heap[D]? = some (.deferred (some []))) := hide ((Below.heap_setCell _ _ _ _ (Ne.symm hne)).trans hK)
      have HFIN : Hid (Below W.heap.size W ((V.setCell ⟨W.heap.size + 1 + 1, 0, none⟩ (.bool true)).putObj D (.deferred none))) := hide (
        (hM0.old.setCell (p := ⟨W.heap.size + 1 + 1, 0, none⟩) (le22 _) _).trans (belowK_b (w := W1) (by omega) _ D _ _ hD HK2.out rfl rfl))
      have hres : ((V.setCell ⟨W.heap.size + 1 + 1, 0, none⟩ (.bool true)).putObj D (.deferred none)).cell? ⟨W.heap.size + 1 + 1, 0, none⟩ = some (.bool true) :=
        (World.cell?_of_block (a := ⟨W.heap.size + 1 + 1, 0, none⟩) (World.putObj_heap_other hne)).trans ((cell_of_row _ _ 0 _ _ (0, 0) (box_set1 (.bool true) HRV.out)).trans rfl)
      have HRES := hide hres
      clear hM0 hall hrv hK hys hys' hres
      gi_wp2
      refine ⟨by simp, .inl ⟨_, _, rfl, run_takeDeferred HK2.out, ?_⟩⟩
      have hres := HRES.out
      refine ⟨.bool true, by simp [results, Tryd.results67, go_sem, hres], ?_⟩
      exact ⟨ret_bool hyes.out.symm, HFIN.out⟩
    case stop =>
      rintro D cc pre V hD _ ⟨rfl, hXx, hno⟩ hK
      have hne : W.heap.size + 1 + 1 ≠ D := by omega
      have HFIN : Hid (Below W.heap.size W (V.putObj D (.deferred none))) := hide (hXx.2.2.trans (belowK_b (w := W1) (by omega) _ D _ _ hD hK rfl rfl))
      have hres : (V.putObj D (.deferred none)).cell? ⟨W.heap.size + 1 + 1, 0, none⟩ = some (.bool false) :=
        (World.cell?_of_block (a := ⟨W.heap.size + 1 + 1, 0, none⟩) (World.putObj_heap_other hne)).trans ((cell_of_row _ _ 0 _ _ (0, 0) hXx.2.1).trans rfl)
      have HFL : Hid (rb = false) := hide hno
      clear hXx hno
      gi_wp2
      refine ⟨by simp, .inl ⟨_, _, rfl, run_takeDeferred hK, ?_⟩⟩
      refine ⟨.bool false, by simp [results, Tryd.results67, go_sem, hres], ?_⟩
      exact ⟨ret_bool HFL.out.symm, HFIN.out⟩
end Go.Proofs.YtmoekjgnichgnaaDoor
