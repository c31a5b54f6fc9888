/-
  Dots and boxes: IsBoxes, freeEdges and takenBy of the program.
-/
import Derived.Test.YtincdnlinepcgaaBxJ
import Derived.Test.YtincdnlinepcgaaEnds0
namespace Go.Proofs.Ytincdnlinepcgaa
open Go.RowKit
set_option linter.unusedVariables false

def sd (n : Int) : Bool := decide (1 ≤ n) && decide (n ≤ 3)
theorem sd_yes {n : Int} (h : sd n = true) : 1 ≤ n ∧ n ≤ 3 := by simpa [sd] using h
theorem sd_no {n : Int} (h : sd n = false) : ¬ (1 ≤ n ∧ n ≤ 3) := by simpa [sd] using h
theorem side_is {b : Bool} (n : Int) (h : sd n = b) (W : World) : Calls Try.prog 39 #[.int .i64 n] W (RetB (.bool b) W) :=
  (side_any n W).mono fun e W' ⟨he, hw⟩ => ⟨by rw [he, ← h]; rfl, by rw [← hw]; exact Below.refl _ _⟩

set_option maxHeartbeats 1000000 in
theorem implIs_any (w h E : Int) (W : World) :
    Calls Try.prog 15 #[.agg #[.int .i64 w, .int .i64 h, .int .i64 E]] W (RetB (.bool (okBox w h E)) W) := by
  have hB0 := hide (below_alloc W (.cells #[.int .i64 w, .int .i64 h, .int .i64 E] 25))
  obtain ⟨c0, c1, c2⟩ := (boxIn_new W w h E 25).past
  cases h1 : sd w
  · have hok : okBox w h E = false := by have := sd_no h1; simp [okBox]; omega
    have HK := hide hok
    have H1 := hide h1
    clear hok h1
    go_enter Try.func15, Try.ntmps15
    go_wp2
    refine wp_region_past (by kernel_rfl) (by kernel_rfl) ?_
    repeat (first | go_big_quiet_step ((go_at_call 39; (with_reducible exact ret_past (side_is _ H1.out _)))) | quiet_step ((go_at_call 39; (with_reducible exact ret_past (side_is _ H1.out _)))))
    refine wpQuiet_nil ?_
    rintro _ ⟨pq, rfl⟩
    go_wp2
    go_ret
    exact ⟨ret_bool HK.out.symm, Below.trans' hB0.out pq.old⟩
  · cases h2 : sd h
    · have hok : okBox w h E = false := by have := sd_no h2; simp [okBox]; omega
      have HK := hide hok
      have H1 := hide h1
      have H2 := hide h2
      clear hok h1 h2
      go_enter Try.func15, Try.ntmps15
      go_wp2
      refine wp_region_past (by kernel_rfl) (by kernel_rfl) ?_
      repeat (first | go_big_quiet_step ((first | (go_at_call 39; (with_reducible exact ret_past (side_is _ H1.out _))) | (go_at_call 39; (with_reducible exact ret_past (side_is _ H2.out _))))) | quiet_step ((first | (go_at_call 39; (with_reducible exact ret_past (side_is _ H1.out _))) | (go_at_call 39; (with_reducible exact ret_past (side_is _ H2.out _))))))
      refine wpQuiet_nil ?_
      rintro _ ⟨pq, rfl⟩
      go_wp2
      go_ret
      exact ⟨ret_bool HK.out.symm, Below.trans' hB0.out pq.old⟩
    · obtain ⟨k1, k2⟩ := sd_yes h1
      obtain ⟨k3, k4⟩ := sd_yes h2
      have H1 := hide h1
      have H2 := hide h2
      clear h1 h2
      by_cases hE : 0 ≤ E
      · have hn := grid_nums k1 k2 k3 k4
        have n1 : 0 ≤ nEdge w h := by omega
        have n2 : nEdge w h ≤ 24 := by omega
        have hsh := shl_walk64 (k := nEdge w h) (by omega)
        have hd : decide (0 ≤ E) = true := decide_eq_true hE
        have hok : okBox w h E = decide (E < 2 ^ (nEdge w h).toNat) := by simp [okBox, *]
        have HK := hide hok
        clear hok hn
        go_enter Try.func15, Try.ntmps15
        go_wp2
        refine wp_region_past (by kernel_rfl) (by kernel_rfl) ?_
        repeat (first | go_big_quiet_step ((first | (go_at_call 39; (with_reducible exact ret_past (side_is _ H1.out _))) | (go_at_call 39; (with_reducible exact ret_past (side_is _ H2.out _))) | (go_at_call 40; (with_reducible exact ret_past (edges_any _ _ _ k1 k2 k3 k4 _))))) | quiet_step ((first | (go_at_call 39; (with_reducible exact ret_past (side_is _ H1.out _))) | (go_at_call 39; (with_reducible exact ret_past (side_is _ H2.out _))) | (go_at_call 40; (with_reducible exact ret_past (edges_any _ _ _ k1 k2 k3 k4 _))))))
        refine wpQuiet_nil ?_
        rintro _ ⟨pq, rfl⟩
        go_wp2
        go_ret
        exact ⟨ret_bool HK.out.symm, Below.trans' hB0.out pq.old⟩
      · have hok : okBox w h E = false := by simp [okBox]; omega
        have hd : decide (0 ≤ E) = false := decide_eq_false hE
        have HK := hide hok
        clear hok
        go_enter Try.func15, Try.ntmps15
        go_wp2
        refine wp_region_past (by kernel_rfl) (by kernel_rfl) ?_
        repeat (first | go_big_quiet_step ((first | (go_at_call 39; (with_reducible exact ret_past (side_is _ H1.out _))) | (go_at_call 39; (with_reducible exact ret_past (side_is _ H2.out _))))) | quiet_step ((first | (go_at_call 39; (with_reducible exact ret_past (side_is _ H1.out _))) | (go_at_call 39; (with_reducible exact ret_past (side_is _ H2.out _))))))
        refine wpQuiet_nil ?_
        rintro _ ⟨pq, rfl⟩
        go_wp2
        go_ret
        exact ⟨ret_bool HK.out.symm, Below.trans' hB0.out pq.old⟩

/-- What a call hands back that has made a list of its own. -/
def NewL (zs : List Int) (w : World) (e : Ending) (w' : World) : Prop :=
  ∃ a c, e = .returned (.slice a zs.length c) ∧ w'.ownsRow w.heap.size 2 1 (.slice a zs.length c) zs.length (zs.map intV) ∧ Below w.heap.size w w'

/-- A row of the call's own, in a world that has kept all below B. -/
structure Owns (B : Nat) (W0 w : World) (v : Value) (zs : List Int) : Prop where
  own : w.ownsRow B 2 1 v zs.length (zs.map intV)
  old : Below B W0 w
  size : B ≤ w.heap.size
theorem Owns.keep {B : Nat} {W0 w w' : World} {v : Value} {zs : List Int} (h : Owns B W0 w v zs) (hb : Below w.heap.size w w') : Owns B W0 w' v zs :=
  ⟨ownsRow_keep h.own hb, h.old.trans (hb.mono h.size), Nat.le_trans h.size hb.size⟩
theorem Owns.snoc {B : Nat} {W0 w2 w3 : World} {v v' : Value} {zs : List Int} {z : Int} (h : Owns B W0 w2 v zs) (hown : w3.ownsRow B 2 1 v' (zs.length + 1) (zs.map intV ++ [.int .i64 z]))
    (hg : (w2.alloc (.cells #[.int .i64 z] 2)).grownBy w3 v.ownBlock) : Owns B W0 w3 v' (zs ++ [z]) := by
  refine ⟨by simpa [intV] using hown, (h.old.alloc h.size _).grown hg (by have := h.size; simp; omega) (fun j hj => by have := (h.own.alloc (.cells #[Value.int .i64 z] 2)).lt j hj; omega), ?_⟩
  have := hg.size
  have := h.size
  simp at *
  omega
theorem Owns.nil {B : Nat} {W0 w : World} (h : Below B W0 w) (hs : B ≤ w.heap.size) : Owns B W0 w (.slice none 0 0) [] := ⟨World.ownsRow_nil _ _ _ _, h, hs⟩
theorem Owns.list {B : Nat} {W W0 w : World} {v : Value} {zs : List Int} (h : Owns B W0 w v zs) (h0 : Below W.heap.size W W0) (hB : W.heap.size ≤ B) : NewL zs W (.returned v) w := by
  obtain ⟨a, c, rfl⟩ := own_form h.own
  exact ⟨a, c, rfl, ownsRow_base h.own hB, h0.trans (h.old.mono hB)⟩
theorem BoxIn.below {W W' : World} {B b : Nat} {w h E : Int} (hx : BoxIn W b w h E) (hb : Below B W W') (hB : b < B) : BoxIn W' b w h E :=
  ⟨(hb.cell (p := ⟨b, 0, none⟩) hB).trans hx.1, (hb.cell (p := ⟨b, 1, none⟩) hB).trans hx.2.1, (hb.cell (p := ⟨b, 2, none⟩) hB).trans hx.2.2⟩

set_option maxRecDepth 100000 in
set_option maxHeartbeats 1000000 in
theorem freeEdges_any (w h E : Int) (hb : okBox w h E = true) (W : World) :
    Calls Try.prog 50 #[.agg #[.int .i64 w, .int .i64 h, .int .i64 E]] W (NewL (freeE w h E) W) := by
  obtain ⟨i0, hi0, hz0, hz1, hz2⟩ := info_parts Try.info2
  obtain ⟨h1, h2, h3, h4, _, _⟩ := okBox_parts hb
  obtain ⟨e1, e2⟩ := okBox_E hb
  obtain ⟨n, hn⟩ : ∃ n : Nat, nEdge w h = (n : Int) := ⟨(nEdge w h).toNat, by have := grid_nums h1 h2 h3 h4; omega⟩
  have hn24 : n ≤ 24 := by have := grid_nums h1 h2 h3 h4; omega
  obtain ⟨p, hp⟩ : ∃ p : Int → Bool, p = fun e => !drawn E e := ⟨_, rfl⟩
  have hf : freeE w h E = pre p n := by rw [hp]; unfold freeE; rw [hn]; rfl
  have hpd : ∀ k : Nat, p (k : Int) = !drawn E (k : Int) := by intro k; rw [hp]
  obtain ⟨W0, hW0⟩ : ∃ W0, W0 = W.alloc (.cells #[.int .i64 w, .int .i64 h, .int .i64 E] 25) := ⟨_, rfl⟩
  have hB0 : Below W.heap.size W W0 := by rw [hW0]; exact below_alloc _ _
  have hx0 : BoxIn W0 W.heap.size w h E := by rw [hW0]; exact boxIn_new _ _ _ _ _
  have hs0 : W.heap.size + 1 = W0.heap.size := by rw [hW0]; simp
  have HF := hide hf
  have HP := hide hpd
  have HN := hide hn
  have HB0 := hide hB0
  have HX0 := hide hx0
  have HS0 := hide hs0
  clear hf hpd hn hB0 hx0 hs0 hp
  go_enter Try.func50, Try.ntmps50
  go_wp2_with fail
  rw [← hW0]
  clear hW0
  obtain ⟨c0, c1, c2⟩ := HX0.out
  go_wp2_with fail
  refine (edges_any w h E h1 h2 h3 h4 _).mono ?_
  rw [HN.out]
  rintro e w1 ⟨rfl, hb1⟩
  have hO : Hid (Owns (W.heap.size + 1) W0 w1 (.slice none 0 0) (pre p 0)) := hide (Owns.nil (hb1.mono (by rw [HS0.out]; exact Nat.le_refl _)) (by have := hb1.size; have := HS0.out; omega))
  clear hb1 c0 c1 c2
  go_wp2_with fail
  go_loopw [3, 7] (fun v i wr => ∃ (k : Nat) (v0 : Value), v0 = v ∧ k ≤ n ∧ i = .int .i64 k ∧ Owns (W.heap.size + 1) W0 wr v (pre p k)) (fun _ i _ => n - (intOf i).toNat)
  case atStart => exact ⟨0, _, rfl, Nat.zero_le _, rfl, hO.out⟩
  case round =>
    clear hO
    obtain ⟨k, v, rfl, hk, rfl, hO⟩ := hrel
    obtain ⟨c0, c1, c2⟩ := HX0.out.below hO.old (by omega)
    by_cases hlt : k < n
    · have hple := pre_le p k
      cases hd : drawn E (k : Int)
      · have HD := hide hd
        have HQ := hide (pre_yes (p := p) (k := k) (by rw [HP.out, hd]; rfl))
        clear hd
        go_wp2_with fail
        refine (isDrawn_any w h E k e1 e2 (by omega) (by omega) _).mono ?_
        rw [HD.out]
        rintro e w2 ⟨rfl, hb2⟩
        have hO2 := hO.keep hb2
        have hown2 := hO2.own
        have hsz2 := hO2.size
        have HO2 := hide hO2
        clear hO hO2 hb2 c0 c1 c2
        go_wp2_with (at_builtin; refine wpList_append_own _ rfl _ _ 30 rfl (W.heap.size + 1) 2 i0 (.int .i64 0) 1 8 Try.underlying30 hi0 hz0 hz1 hz2 rfl (by decide) _ _ _ rfl (hown2.alloc _) ⟨w2.heap.size, 0, none⟩ 1 1 [.int .i64 k] rfl rfl (cell_one_new _ _ _) (by simp [Value.oneCell']) (by unfold maxLen; omega) (by omega) (by simp; omega) ?_)
        intro v' w3 hown' hgrow _
        have hO3 := hide (HO2.out.snoc (by simpa using hown') hgrow)
        clear hown' hgrow hown2 HO2
        go_wp2_with fail
        go_roundw
        case rel => exact ⟨k + 1, _, rfl, by omega, by go_num, by rw [HQ.out]; exact hO3.out⟩
        case measure => simp [intOf]; omega
      · have HD := hide hd
        have HQ := hide (pre_no (p := p) (k := k) (by rw [HP.out, hd]; rfl))
        clear hd
        go_wp2_with fail
        refine (isDrawn_any w h E k e1 e2 (by omega) (by omega) _).mono ?_
        rw [HD.out]
        rintro e w2 ⟨rfl, hb2⟩
        have hO2 := hide (hO.keep hb2)
        clear hO hb2 c0 c1 c2
        go_wp2_with fail
        go_roundw
        case rel => exact ⟨k + 1, _, rfl, by omega, by go_num, by rw [HQ.out]; exact hO2.out⟩
        case measure => simp [intOf]; omega
    · obtain rfl : k = n := by omega
      have hfin := hide (hO.list HB0.out (by omega))
      clear hO c0 c1 c2
      go_wp2_with fail
      go_ret
      rw [HF.out]
      exact hfin.out
end Go.Proofs.Ytincdnlinepcgaa
