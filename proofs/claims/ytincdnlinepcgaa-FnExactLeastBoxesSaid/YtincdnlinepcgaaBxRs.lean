/-
  Dots and boxes: reflections, the model's text, kind 0.
-/
import Derived.Test.YtincdnlinepcgaaBxRq
namespace Go.Proofs.Ytincdnlinepcgaa
open Go.RowKit
set_option linter.unusedVariables false

/-- All that was there is as it was, but for block n. -/
structure But (n : Nat) (w w' : World) : Prop where
  os : w'.os = w.os
  tape : w'.tape = w.tape
  output : w'.output = w.output
  size : w.heap.size ≤ w'.heap.size
  block : ∀ k, k < w.heap.size → k ≠ n → w'.heap[k]? = w.heap[k]?
theorem But.refl (n : Nat) (w : World) : But n w w := ⟨rfl, rfl, rfl, Nat.le_refl _, fun _ _ _ => rfl⟩
theorem But.below {n : Nat} {a b c : World} (h : But n a b) (k : Below b.heap.size b c) : But n a c :=
  ⟨k.os.trans h.os, k.tape.trans h.tape, k.output.trans h.output, Nat.le_trans h.size k.size, fun i hi hn => (k.block i (Nat.lt_of_lt_of_le hi h.size)).trans (h.block i hi hn)⟩
theorem But.set {n : Nat} {a b : World} (h : But n a b) (o : Nat) (u : Value) : But n a (b.setCell ⟨n, o, none⟩ u) :=
  ⟨h.os, h.tape, h.output, by simpa [World.setCell] using h.size, fun i hi hn => (Below.heap_setCell _ _ _ _ hn).trans (h.block i hi hn)⟩
theorem But.cell {n : Nat} {a b : World} (h : But n a b) {p : Addr} {v : Value} (hc : a.cell? p = some v) (hn : p.block ≠ n) : b.cell? p = some v :=
  (World.cell?_of_block (h.block _ (World.block_lt_of_cell? a p hc) hn)).trans hc
theorem But.ints {n : Nat} {w w' : World} {a : Option Addr} {zs : List Int} (h : But n w w') (hz : IntsAt w a zs) (hn : ∀ g off, a = some ⟨g, off, none⟩ → g ≠ n) : IntsAt w' a zs := by
  intro hne
  obtain ⟨b, off, rfl, hc⟩ := hz hne
  refine ⟨b, off, rfl, fun i hi => ?_⟩
  have h1 := hc i hi
  rw [List.getElem?_eq_getElem hi] at h1 ⊢
  exact h.cell h1 (hn b off rfl)
theorem But.old {n : Nat} {w w' : World} (h : But n w w') (hn : n ≤ w.heap.size) : Below n w w' := ⟨h.os, h.tape, h.output, h.size, fun k hk => h.block k (by omega) (by omega)⟩
theorem But.trans {n : Nat} {a b c : World} (h : But n a b) (k : But n b c) : But n a c :=
  ⟨k.os.trans h.os, k.tape.trans h.tape, k.output.trans h.output, Nat.le_trans h.size k.size, fun i hi hn => (k.block i (Nat.lt_of_lt_of_le hi h.size) hn).trans (h.block i hi hn)⟩
theorem own_far {w : World} {B n c : Nat} {a : Option Addr} {k : Nat} {vs : List Value} {e : TypeId} (h : w.ownsRow B e 1 (.slice a k c) k vs) (hn : n < B) : ∀ g off, a = some ⟨g, off, none⟩ → g ≠ n := by
  intro g off ha
  rcases h.2 with ⟨hv, _⟩ | ⟨g', cap, cur, hv, hg, _⟩
  · simp at hv
    rw [hv.1] at ha
    cases ha
  · simp only [Value.slice.injEq] at hv
    rw [hv.1] at ha
    simp at ha
    omega

theorem prB_snoc (w h kind i : Int) (k : Nat) : prB w h kind i (k + 1) = prB w h kind i k ++ [((around w h i).getD k 0, (around (mw w h kind) (mh w h kind) (bxTo w h kind i)).getD (atK kind k) 0)] := by simp [prB, List.range_succ]
theorem prS_snoc (w h kind : Int) (i : Nat) : prS w h kind (i + 1) = prS w h kind i ++ prB w h kind (i : Int) 4 := by simp [prS, List.range_succ]
/-- What is told behind i boxes and k edges of the next. -/
def stTo (w h E kind : Int) (i k : Nat) : Int := foldE E (prS w h kind i ++ prB w h kind (i : Int) k) 0
theorem stTo_next (w h E kind : Int) (i : Nat) : stTo w h E kind i 4 = stTo w h E kind (i + 1) 0 := by
  unfold stTo
  rw [prS_snoc]
  simp [prB]
theorem stTo_step {w h E kind a b : Int} {i k : Nat} (ha : (around w h (i : Int))[k]? = some a) (hb : (around (mw w h kind) (mh w h kind) (bxTo w h kind (i : Int)))[atK kind k]? = some b) :
    stTo w h E kind i (k + 1) = if drawn E a then withE (stTo w h E kind i k) b else stTo w h E kind i k := by
  unfold stTo
  rw [prB_snoc, ← List.append_assoc, foldE_snoc]
  simp [List.getD, ha, hb]
theorem stTo_nonneg (w h E kind : Int) (i k : Nat) : 0 ≤ stTo w h E kind i k := foldE_nonneg _ _ _ (Int.le_refl _)
theorem or_zero_walk {O : Int} (h0 : 0 ≤ O) (h1 : O < 16777216) : bits BinOp.or IntKind.i64 O 0 = O := by
  obtain ⟨m, rfl⟩ := Int.eq_ofNat_of_zero_le h0
  have := (bits_nat .i64 63 (by decide) wraps_i64 m 0 (by omega) (by omega)).2
  simpa using this

theorem around_all {w h i : Int} {k : Nat} {z : Int} (h1 : 1 ≤ w) (h2 : w ≤ 3) (h3 : 1 ≤ h) (h4 : h ≤ 3) (h5 : 0 ≤ i) (h6 : i < w * h) (hz : (around w h i)[k]? = some z) : 0 ≤ z ∧ z < 24 := by
  obtain ⟨_, a, b, _⟩ := around_get (E := 0) h1 h2 h3 h4 h5 h6 hz
  exact ⟨a, b⟩
theorem stTo_lt {w h E kind : Int} (h1 : 1 ≤ w) (h2 : w ≤ 3) (h3 : 1 ≤ h) (h4 : h ≤ 3) (h5 : 0 ≤ kind) (h6 : kind ≤ 2) {i k : Nat} (hi : (i : Int) < w * h) (hk : k ≤ 4) : stTo w h E kind i k < 16777216 := by
  have h24 : (16777216 : Int) = 2 ^ 24 := by decide
  rw [h24]
  have hB : ∀ (j n : Nat), (j : Int) < w * h → n ≤ 4 → ∀ p ∈ prB w h kind (j : Int) n, p.2.toNat < 24 := by
    intro j n hj hn p hp
    obtain ⟨q, hq, rfl⟩ := List.mem_map.1 hp
    have hq4 := List.mem_range.1 hq
    obtain ⟨b1, b2⟩ := bxTo_range (i := j) h1 h2 h3 h4 h5 h6 hj
    obtain ⟨m1, m2, m3, m4⟩ := mdims (kind := kind) h1 h2 h3 h4
    show ((around (mw w h kind) (mh w h kind) (bxTo w h kind j)).getD (atK kind q) 0).toNat < 24
    have hat : atK kind q < 4 := by
      unfold atK
      rcases (by omega : q = 0 ∨ q = 1 ∨ q = 2 ∨ q = 3) with rfl | rfl | rfl | rfl <;> split <;> (try split) <;> simp
    obtain ⟨z, hz⟩ : ∃ z, (around (mw w h kind) (mh w h kind) (bxTo w h kind j))[atK kind q]? = some z := ⟨_, List.getElem?_eq_getElem (by simpa [around] using hat)⟩
    have := around_all m1 m2 m3 m4 b1 b2 hz
    simp only [List.getD, hz, Option.getD_some]
    omega
  refine foldE_lt E 24 _ 0 (Int.le_refl _) (by decide) fun p hp => ?_
  rcases List.mem_append.1 hp with hp | hp
  · simp only [prS, List.mem_flatMap, List.mem_range] at hp
    obtain ⟨j, hj, hp⟩ := hp
    exact hB j 4 (by omega) (by omega) p hp
  · exact hB i k hi hk p hp

theorem mirror_nums {w h i : Int} (h1 : 1 ≤ w) (h2 : w ≤ 3) (h3 : 1 ≤ h) (h4 : h ≤ 3) (h5 : 0 ≤ i) (h6 : i < w * h) :
    0 ≤ w - 1 - i % w ∧ w - 1 - i % w ≤ 2 ∧ 0 ≤ h - 1 - i / w ∧ h - 1 - i / w ≤ 2 ∧ 0 ≤ (h - 1 - i / w) * w ∧ (h - 1 - i / w) * w ≤ 6 ∧ 0 ≤ i % w * h ∧ i % w * h ≤ 6 := by
  rcases dims3 h1 h2 with rfl | rfl | rfl <;> rcases dims3 h3 h4 with rfl | rfl | rfl <;> refine ⟨?_, ?_, ?_, ?_, ?_, ?_, ?_, ?_⟩ <;> omega

set_option maxRecDepth 100000 in
set_option maxHeartbeats 8000000 in
theorem specReflected_0 (w h E : Int) (hb : okBox w h E = true) (W : World) :
    Calls Try.prog 56 #[.agg #[.int .i64 w, .int .i64 h, .int .i64 E], .int .i64 0] W (RetB (.agg #[.int .i64 w, .int .i64 h, .int .i64 (refl3 w h E 0)]) W) := by
  obtain ⟨h1, h2, h3, h4, _, _⟩ := okBox_parts hb
  obtain ⟨E1, E2⟩ := okBox_E hb
  obtain ⟨n, hn, hn9⟩ := boxes_nat hb
  have n0 : 0 ≤ w * h := by omega
  have n9 : w * h ≤ 9 := by omega
  have hM : mw w h 0 = w := by unfold mw; simp
  have hN : mh w h 0 = h := by unfold mh; simp
  have HM := hide (And.intro hM hN)
  have HNN := hide hn
  obtain ⟨S, hS⟩ : ∃ S, S = stTo w h E 0 := ⟨_, rfl⟩
  have hSfin : Hid (S n 0 = refl3 w h E 0) := hide (by rw [hS, refl3_spec E h1 h2 h3 h4 (by omega) (by omega)]; unfold stTo; rw [hn]; simp [prB])
  have hS0 : Hid (S 0 0 = 0) := hide (by rw [hS]; rfl)
  have HS := hide hS
  obtain ⟨W0, hW0⟩ : ∃ W0, W0 = ((W.alloc (.cells #[.int .i64 w, .int .i64 h, .int .i64 E] 25)).alloc (.cells #[.int .i64 0, .int .i64 0, .int .i64 0] 25)).alloc (.cells #[.int .i64 w, .int .i64 h, .int .i64 0] 25) := ⟨_, rfl⟩
  have hB0 : Hid (Below W.heap.size W W0) := by rw [hW0]; exact hide (((below_alloc _ _).alloc (by simp) _).alloc (by simp; omega) _)
  have hs0 : Hid (W0.heap.size = W.heap.size + 3) := by rw [hW0]; exact hide (by simp)
  have hrows := alloc3_rows W #[.int .i64 w, .int .i64 h, .int .i64 E] #[.int .i64 0, .int .i64 0, .int .i64 0] #[.int .i64 w, .int .i64 h, .int .i64 0] 25 25 25
  rw [← hW0] at hrows
  have hX0 := hide hrows.1
  have hT0 := hide hrows.2.1
  have hM0 : Hid (W0.heap[W.heap.size + 1 + 1]? = some (.cells #[.int .i64 w, .int .i64 h, .int .i64 (S 0 0)] 25 (0, 0))) := hide (by rw [hS0.out]; exact hrows.2.2)
  clear hrows hM hN hn hS
  go_enter Try.func56, Try.ntmps56
  go_wp2_with fail
  rw [← hW0]
  clear hW0
  go_wp2_with fail
  go_loopw [6] (fun iv wr => ∃ i : Nat, i ≤ n ∧ iv = .int .i64 i ∧ wr.heap[W.heap.size + 1 + 1]? = some (.cells #[.int .i64 w, .int .i64 h, .int .i64 (S i 0)] 25 (0, 0)) ∧ But (W.heap.size + 1 + 1) W0 wr) (fun iv _ => n - (intOf iv).toNat)
  case atStart => exact ⟨0, Nat.zero_le _, rfl, hM0.out, But.refl _ _⟩
  case round =>
    obtain ⟨i, hi, rfl, hmr, hBr⟩ := hrel
    have hxr := (hBr.block W.heap.size (by rw [hs0.out]; omega) (by omega)).trans hX0.out
    have htr := (hBr.block (W.heap.size + 1) (by rw [hs0.out]; omega) (by omega)).trans hT0.out
    have HMR := hide hmr
    have HXR := hide hxr
    have HTR := hide htr
    have HBR := hide hBr
    obtain ⟨c0, c1, c2⟩ := boxIn_of_row hxr
    clear hmr hxr htr hBr
    by_cases hlt : i < n
    · have hki : (i : Int) < w * h := by rw [HNN.out]; omega
      have hi0 : (0 : Int) ≤ (i : Int) := by omega
      obtain ⟨g1, g2, g3, g4, g5, g6, g7, g8, g9, g10, g11, g12⟩ := box_nums h1 h2 h3 h4 hi0 hki
      obtain ⟨u1, u2, u3, u4, u5, u6, u7, u8⟩ := mirror_nums h1 h2 h3 h4 hi0 hki
      have hq : wrap64 ((i : Int).tdiv w) = (i : Int) / w := by rw [Int.tdiv_eq_ediv_of_nonneg hi0]; exact wrap64_small g1 (by omega)
      obtain ⟨bt1, bt2⟩ := bxTo_range (w := w) (h := h) (kind := 0) (i := i) h1 h2 h3 h4 (by omega) (by omega) hki
      have hbx : bxTo w h 0 (i : Int) = (i : Int) / w * w + (w - 1 - (i : Int) % w) := by unfold bxTo; simp
      rw [HM.out.1, HM.out.2] at bt2
      rw [hbx] at bt1 bt2
      have HBX := hide hbx
      have HKI := hide hki
      have BT := hide (And.intro bt1 bt2)
      clear hbx bt1 bt2
      go_wp2_with fail
      clear c0 c1 c2
      obtain ⟨c0, c1, c2⟩ := (boxIn_of_row HXR.out).past
      refine wp_region_past (by kernel_rfl) (by kernel_rfl) ?_
      repeat (first | go_big_quiet_step (fail) | quiet_step (fail))
      refine wpQuiet_nil ?_
      rintro _ ⟨pq, rfl⟩
      have HM1 := hide (box_keep HMR.out pq.old)
      have HX1 := hide (box_keep HXR.out pq.old)
      have HB1 := hide (HBR.out.below pq.old)
      obtain ⟨w1, hw1⟩ : ∃ w1, w1 = pq.to := ⟨_, rfl⟩
      rw [← hw1] at HM1 HX1 HB1 ⊢
      clear c0 c1 c2 hw1
      obtain ⟨c0, c1, c2⟩ := boxIn_of_row HX1.out
      go_wp2_with fail
      clear c0 c1 c2
      obtain ⟨c0, c1, c2⟩ := (boxIn_of_row HX1.out).past
      obtain ⟨d0, d1, d2⟩ := (boxIn_of_row HM1.out).past
      clear c0 c1 c2 d0 d1 d2
      obtain ⟨c0, c1, c2⟩ := boxIn_of_row HX1.out
      obtain ⟨d0, d1, d2⟩ := boxIn_of_row HM1.out
      have hs1 : W.heap.size + 1 + 1 < w1.heap.size := block_lt HM1.out
      have hd1 : Below w1.heap.size w1 w1.drew := Below.drew (Below.refl _ _)
      obtain ⟨O, hO⟩ : ∃ O, O = S i 0 := ⟨_, rfl⟩
      rw [← hO] at d2 HM1
      have HO := hide hO
      have hwa : IntKind.i64.wrap ((i : Int) / w * w) = (i : Int) / w * w := IntWalk.i64_in _ (by omega)
      have hwb : IntKind.i64.wrap ((i : Int) / w * w + (w - 1 - (i : Int) % w)) = (i : Int) / w * w + (w - 1 - (i : Int) % w) := IntWalk.i64_in _ (by omega)
      clear hO
      go_upto_region 17 with fail
      go_cut [10, 11] (fun s10 s11 wx => ∃ (a1 : Option Addr) (l1 : Nat) (a2 : Option Addr) (l2 : Nat), s10 = .slice a1 4 l1 ∧ s11 = .slice a2 4 l2 ∧ IntsAt wx a1 (around w h (i : Int)) ∧ IntsAt wx a2 (around w h ((i : Int) / w * w + (w - 1 - (i : Int) % w))) ∧ (∀ g off, a1 = some ⟨g, off, none⟩ → g ≠ W.heap.size + 1 + 1) ∧ (∀ g off, a2 = some ⟨g, off, none⟩ → g ≠ W.heap.size + 1 + 1) ∧ Below w1.heap.size w1 wx)
      case first =>
        go_region_held3 (fun W' => W'.cell? ⟨W.heap.size, 0, none⟩ = some (.int .i64 w) ∧ W'.cell? ⟨W.heap.size, 1, none⟩ = some (.int .i64 h) ∧ W'.cell? ⟨W.heap.size, 2, none⟩ = some (.int .i64 E) ∧ W'.cell? ⟨W.heap.size + 1 + 1, 0, none⟩ = some (.int .i64 w) ∧ W'.cell? ⟨W.heap.size + 1 + 1, 1, none⟩ = some (.int .i64 h) ∧ W'.cell? ⟨W.heap.size + 1 + 1, 2, none⟩ = some (.int .i64 O))
          ((refine ⟨cell_keep ?_ c0, cell_keep ?_ c1, cell_keep ?_ c2, cell_keep ?_ d0, cell_keep ?_ d1, cell_keep ?_ d2⟩ <;> (repeat (first | exact hd1 | exact Below.refl _ _ | refine Below.drew ?_ | (refine Below.trans' ?_ hb4) | (refine Below.trans' ?_ hb3)))))
          (first | (go_at_call 43; (with_reducible refine (specAround_any w h E i h1 h2 h3 h4 hi0 HKI.out _).mono ?_); rintro e1 w3 ⟨a1, l1, rfl, ho1, hb3⟩; (have hz3 : w1.heap.size ≤ w3.heap.size := by (have hq3 := hb3.size); (try simp at hq3); omega)) | (go_at_call 43; (with_reducible refine (specAround_any w h O ((i : Int) / w * w + (w - 1 - (i : Int) % w)) h1 h2 h3 h4 BT.out.1 BT.out.2 _).mono ?_); rintro e1 w4 ⟨a2, l2, rfl, ho2, hb4⟩; (have hz4 : w1.heap.size ≤ w4.heap.size := by (have hq4 := hb4.size); (try simp at hq4); omega)))
        all_goals (go_wp2_with fail; go_meet; first | exact ⟨a1, l1, a2, l2, rfl, rfl, (intsAt_of_ownsRow ho1).keep hb4, intsAt_of_ownsRow ho2, own_far ho1 (by simp; omega), own_far ho2 (by omega), (by repeat (first | exact hd1 | exact Below.refl _ _ | refine Below.drew ?_ | (refine Below.trans' ?_ hb4) | (refine Below.trans' ?_ hb3)))⟩ | exact ⟨a1, l1, a2, l2, rfl, rfl, intsAt_of_ownsRow ho1, (intsAt_of_ownsRow ho2).keep hb3, own_far ho1 (by omega), own_far ho2 (by simp; omega), (by repeat (first | exact hd1 | exact Below.refl _ _ | refine Below.drew ?_ | (refine Below.trans' ?_ hb4) | (refine Below.trans' ?_ hb3)))⟩)
      case rest =>
        obtain ⟨a1, l1, a2, l2, rfl, rfl, hla, hlb, fa1, fa2, hBc⟩ := hcut
        have HXc := hide (box_keep HX1.out hBc)
        have HMc := hide (box_keep HM1.out hBc)
        have HBc := hide (HB1.out.below hBc)
        have HLA := hide hla
        have HLB := hide hlb
        have HFA := hide fa1
        have HFB := hide fa2
        have hsc : W.heap.size + 1 + 1 < wc.heap.size := Nat.lt_of_lt_of_le hs1 hBc.size
        clear c0 c1 c2 d0 d1 d2 hd1 hwa hwb hla hlb fa1 fa2 hBc
        go_wp2_with fail
        obtain ⟨wi, hwi⟩ : ∃ wi, wi = wc.alloc (.cells #[.int .i64 1, .int .i64 0, .int .i64 3, .int .i64 2] 3) := ⟨_, rfl⟩
        obtain ⟨go, hgo⟩ : ∃ go, go = wc.heap.size := ⟨_, rfl⟩
        have hal : Below wc.heap.size wc wi := by rw [hwi]; exact below_alloc _ _
        have HOR : Hid (wi.heap[go]? = some (.cells #[.int .i64 1, .int .i64 0, .int .i64 3, .int .i64 2] 3 (0, 0))) := by rw [hwi, hgo]; exact hide (heap_alloc_new wc _)
        have HXi := hide (box_keep HXc.out hal)
        have HMi := hide (box_keep HMc.out hal)
        have HLAi := hide (HLA.out.keep hal)
        have HLBi := hide (HLB.out.keep hal)
        have HBi := hide (HBc.out.below hal)
        have hgn : go ≠ W.heap.size + 1 + 1 := by omega
        rw [← hwi, ← hgo]
        clear hwi hgo hal
        go_loopw [13] (fun kv wr => ∃ k : Nat, k ≤ 4 ∧ kv = .int .i64 k ∧ wr.heap[W.heap.size + 1 + 1]? = some (.cells #[.int .i64 w, .int .i64 h, .int .i64 (S i k)] 25 (0, 0)) ∧ But (W.heap.size + 1 + 1) wi wr) (fun kv _ => 4 - (intOf kv).toNat)
        case atStart => exact ⟨0, by omega, rfl, by rw [← HO.out]; exact HMi.out, But.refl _ _⟩
        case round =>
          obtain ⟨k, hk, rfl, hmk, hBk⟩ := hrel
          have HMK := hide hmk
          have HBK := hide hBk
          have HST := hide (And.intro (stTo_nonneg w h E 0 i k) (stTo_lt (E := E) (kind := 0) (k := k) h1 h2 h3 h4 (by omega) (by omega) HKI.out hk))
          obtain ⟨y0, y1, y2⟩ := boxIn_of_row HXi.out
          have hE := hBk.cell y2 (by show W.heap.size ≠ _; omega)
          obtain ⟨z0, z1, z2⟩ := boxIn_of_row hmk
          clear hmk y0 y1 y2 z0 z1
          rcases (by omega : k = 0 ∨ k = 1 ∨ k = 2 ∨ k = 3 ∨ k = 4) with rfl | rfl | rfl | rfl | rfl
          · obtain ⟨b1, o1, za, rfl, hca, hza⟩ := (HBK.out.ints HLAi.out HFA.out).one (k := 0) (by simp [around])
            obtain ⟨b2, o2, zb, rfl, hcb, hzb⟩ := (HBK.out.ints HLBi.out HFB.out).one (k := 0) (by simp [around])
            obtain ⟨a0, a24⟩ := around_all h1 h2 h3 h4 hi0 HKI.out hza.out
            obtain ⟨b0, b24⟩ := around_all h1 h2 h3 h4 BT.out.1 BT.out.2 hzb.out
            have hstep := stTo_step (E := E) (kind := 0) (k := 0) hza.out (by rw [HM.out.1, HM.out.2, HBX.out]; exact hzb.out)
            rw [← HS.out] at hstep
            have HSR := HST.out
            rw [← HS.out] at HSR
            obtain ⟨Q, hQ⟩ : ∃ Q, Q = S i 0 := ⟨_, rfl⟩
            rw [← hQ] at z2 HMK HSR hstep
            have ord := (World.cell?_of_block (a := ⟨go, 0, none⟩) (HBK.out.block go (block_lt HOR.out) hgn)).trans ((cell_of_row wi go 0 _ _ (0, 0) HOR.out).trans rfl)
            rw [Nat.add_zero] at hca
            rw [Nat.add_zero] at hcb
            have pE : ∀ p : Past wr, p.to.cell? ⟨W.heap.size, 2, none⟩ = some (.int .i64 E) := fun p => p.cell hE
            have pO : ∀ p : Past wr, p.to.cell? ⟨W.heap.size + 1 + 1, 2, none⟩ = some (.int .i64 Q) := fun p => p.cell z2
            have pA : ∀ p : Past wr, p.to.cell? ⟨b1, o1, none⟩ = some (.int .i64 za) := fun p => p.cell hca
            have pB : ∀ p : Past wr, p.to.cell? ⟨b2, o2, none⟩ = some (.int .i64 zb) := fun p => p.cell hcb
            have hua := u64_small a0 (by omega)
            have hub := u64_small b0 (by omega)
            have hsh := shl_walk64 (k := zb) (by omega)
            have hor := or_walk (k := zb) HSR.1 HSR.2 (by omega)
            have hoz := or_zero_walk HSR.1 HSR.2
            have hwz : wrap64 0 = 0 := wrap64_small (Int.le_refl _) (by omega)
            have hdw := dg_walk (k := za) E1 E2
            clear hQ hE z2 hca hcb hza hzb hBk
            cases hdr : drawn E za
            all_goals
              first
                | (have hd1 := dg_of_drawn hdr; rw [hd1] at hdw; rw [hdr, if_pos rfl] at hstep; clear hd1)
                | (have hd1 := dg_of_free hdr; rw [hd1] at hdw; rw [hdr] at hstep; simp only [Bool.false_eq_true, if_false] at hstep; clear hd1)
              have HSTEP := hide hstep
              clear hstep hdr
              go_wp2_with fail
              refine wp_region_past_tail 19 (by kernel_rfl) (by kernel_rfl) ?_
              simp only [List.take_succ_cons, List.take_zero, List.drop_succ_cons, List.drop_zero]
              repeat (first | go_big_quiet_step (fail) | quiet_step (fail))
              refine wpQuiet_nil ?_
              rintro _ ⟨pq, rfl⟩
              have hmq := box_keep HMK.out pq.old
              obtain ⟨q0, q1, q2, f0, f1, f2⟩ := row3 hmq
              have hB6 := HBK.out.below pq.old
              have HMQ := hide hmq
              clear hmq
              go_wp2_with fail
              go_roundw
              case rel => exact ⟨0 + 1, by omega, by go_num, by rw [HSTEP.out]; exact heap_setCell_same _ _ 2 _ _ _ HMQ.out, hB6.set 2 _⟩
              case measure => simp [intOf]
          · obtain ⟨b1, o1, za, rfl, hca, hza⟩ := (HBK.out.ints HLAi.out HFA.out).one (k := 1) (by simp [around])
            obtain ⟨b2, o2, zb, rfl, hcb, hzb⟩ := (HBK.out.ints HLBi.out HFB.out).one (k := 1) (by simp [around])
            obtain ⟨a0, a24⟩ := around_all h1 h2 h3 h4 hi0 HKI.out hza.out
            obtain ⟨b0, b24⟩ := around_all h1 h2 h3 h4 BT.out.1 BT.out.2 hzb.out
            have hstep := stTo_step (E := E) (kind := 0) (k := 1) hza.out (by rw [HM.out.1, HM.out.2, HBX.out]; exact hzb.out)
            rw [← HS.out] at hstep
            have HSR := HST.out
            rw [← HS.out] at HSR
            obtain ⟨Q, hQ⟩ : ∃ Q, Q = S i 1 := ⟨_, rfl⟩
            rw [← hQ] at z2 HMK HSR hstep
            have ord := (World.cell?_of_block (a := ⟨go, 1, none⟩) (HBK.out.block go (block_lt HOR.out) hgn)).trans ((cell_of_row wi go 1 _ _ (0, 0) HOR.out).trans rfl)
            have pE : ∀ p : Past wr, p.to.cell? ⟨W.heap.size, 2, none⟩ = some (.int .i64 E) := fun p => p.cell hE
            have pO : ∀ p : Past wr, p.to.cell? ⟨W.heap.size + 1 + 1, 2, none⟩ = some (.int .i64 Q) := fun p => p.cell z2
            have pA : ∀ p : Past wr, p.to.cell? ⟨b1, o1 + 1, none⟩ = some (.int .i64 za) := fun p => p.cell hca
            have pB : ∀ p : Past wr, p.to.cell? ⟨b2, o2 + 1, none⟩ = some (.int .i64 zb) := fun p => p.cell hcb
            have hua := u64_small a0 (by omega)
            have hub := u64_small b0 (by omega)
            have hsh := shl_walk64 (k := zb) (by omega)
            have hor := or_walk (k := zb) HSR.1 HSR.2 (by omega)
            have hoz := or_zero_walk HSR.1 HSR.2
            have hwz : wrap64 0 = 0 := wrap64_small (Int.le_refl _) (by omega)
            have hdw := dg_walk (k := za) E1 E2
            clear hQ hE z2 hca hcb hza hzb hBk
            cases hdr : drawn E za
            all_goals
              first
                | (have hd1 := dg_of_drawn hdr; rw [hd1] at hdw; rw [hdr, if_pos rfl] at hstep; clear hd1)
                | (have hd1 := dg_of_free hdr; rw [hd1] at hdw; rw [hdr] at hstep; simp only [Bool.false_eq_true, if_false] at hstep; clear hd1)
              have HSTEP := hide hstep
              clear hstep hdr
              go_wp2_with fail
              refine wp_region_past_tail 19 (by kernel_rfl) (by kernel_rfl) ?_
              simp only [List.take_succ_cons, List.take_zero, List.drop_succ_cons, List.drop_zero]
              repeat (first | go_big_quiet_step (fail) | quiet_step (fail))
              refine wpQuiet_nil ?_
              rintro _ ⟨pq, rfl⟩
              have hmq := box_keep HMK.out pq.old
              obtain ⟨q0, q1, q2, f0, f1, f2⟩ := row3 hmq
              have hB6 := HBK.out.below pq.old
              have HMQ := hide hmq
              clear hmq
              go_wp2_with fail
              go_roundw
              case rel => exact ⟨1 + 1, by omega, by go_num, by rw [HSTEP.out]; exact heap_setCell_same _ _ 2 _ _ _ HMQ.out, hB6.set 2 _⟩
              case measure => simp [intOf]
          · obtain ⟨b1, o1, za, rfl, hca, hza⟩ := (HBK.out.ints HLAi.out HFA.out).one (k := 2) (by simp [around])
            obtain ⟨b2, o2, zb, rfl, hcb, hzb⟩ := (HBK.out.ints HLBi.out HFB.out).one (k := 3) (by simp [around])
            obtain ⟨a0, a24⟩ := around_all h1 h2 h3 h4 hi0 HKI.out hza.out
            obtain ⟨b0, b24⟩ := around_all h1 h2 h3 h4 BT.out.1 BT.out.2 hzb.out
            have hstep := stTo_step (E := E) (kind := 0) (k := 2) hza.out (by rw [HM.out.1, HM.out.2, HBX.out]; exact hzb.out)
            rw [← HS.out] at hstep
            have HSR := HST.out
            rw [← HS.out] at HSR
            obtain ⟨Q, hQ⟩ : ∃ Q, Q = S i 2 := ⟨_, rfl⟩
            rw [← hQ] at z2 HMK HSR hstep
            have ord := (World.cell?_of_block (a := ⟨go, 2, none⟩) (HBK.out.block go (block_lt HOR.out) hgn)).trans ((cell_of_row wi go 2 _ _ (0, 0) HOR.out).trans rfl)
            have pE : ∀ p : Past wr, p.to.cell? ⟨W.heap.size, 2, none⟩ = some (.int .i64 E) := fun p => p.cell hE
            have pO : ∀ p : Past wr, p.to.cell? ⟨W.heap.size + 1 + 1, 2, none⟩ = some (.int .i64 Q) := fun p => p.cell z2
            have pA : ∀ p : Past wr, p.to.cell? ⟨b1, o1 + 2, none⟩ = some (.int .i64 za) := fun p => p.cell hca
            have pB : ∀ p : Past wr, p.to.cell? ⟨b2, o2 + 3, none⟩ = some (.int .i64 zb) := fun p => p.cell hcb
            have hua := u64_small a0 (by omega)
            have hub := u64_small b0 (by omega)
            have hsh := shl_walk64 (k := zb) (by omega)
            have hor := or_walk (k := zb) HSR.1 HSR.2 (by omega)
            have hoz := or_zero_walk HSR.1 HSR.2
            have hwz : wrap64 0 = 0 := wrap64_small (Int.le_refl _) (by omega)
            have hdw := dg_walk (k := za) E1 E2
            clear hQ hE z2 hca hcb hza hzb hBk
            cases hdr : drawn E za
            all_goals
              first
                | (have hd1 := dg_of_drawn hdr; rw [hd1] at hdw; rw [hdr, if_pos rfl] at hstep; clear hd1)
                | (have hd1 := dg_of_free hdr; rw [hd1] at hdw; rw [hdr] at hstep; simp only [Bool.false_eq_true, if_false] at hstep; clear hd1)
              have HSTEP := hide hstep
              clear hstep hdr
              go_wp2_with fail
              refine wp_region_past_tail 19 (by kernel_rfl) (by kernel_rfl) ?_
              simp only [List.take_succ_cons, List.take_zero, List.drop_succ_cons, List.drop_zero]
              repeat (first | go_big_quiet_step (fail) | quiet_step (fail))
              refine wpQuiet_nil ?_
              rintro _ ⟨pq, rfl⟩
              have hmq := box_keep HMK.out pq.old
              obtain ⟨q0, q1, q2, f0, f1, f2⟩ := row3 hmq
              have hB6 := HBK.out.below pq.old
              have HMQ := hide hmq
              clear hmq
              go_wp2_with fail
              go_roundw
              case rel => exact ⟨2 + 1, by omega, by go_num, by rw [HSTEP.out]; exact heap_setCell_same _ _ 2 _ _ _ HMQ.out, hB6.set 2 _⟩
              case measure => simp [intOf]
          · obtain ⟨b1, o1, za, rfl, hca, hza⟩ := (HBK.out.ints HLAi.out HFA.out).one (k := 3) (by simp [around])
            obtain ⟨b2, o2, zb, rfl, hcb, hzb⟩ := (HBK.out.ints HLBi.out HFB.out).one (k := 2) (by simp [around])
            obtain ⟨a0, a24⟩ := around_all h1 h2 h3 h4 hi0 HKI.out hza.out
            obtain ⟨b0, b24⟩ := around_all h1 h2 h3 h4 BT.out.1 BT.out.2 hzb.out
            have hstep := stTo_step (E := E) (kind := 0) (k := 3) hza.out (by rw [HM.out.1, HM.out.2, HBX.out]; exact hzb.out)
            rw [← HS.out] at hstep
            have HSR := HST.out
            rw [← HS.out] at HSR
            obtain ⟨Q, hQ⟩ : ∃ Q, Q = S i 3 := ⟨_, rfl⟩
            rw [← hQ] at z2 HMK HSR hstep
            have ord := (World.cell?_of_block (a := ⟨go, 3, none⟩) (HBK.out.block go (block_lt HOR.out) hgn)).trans ((cell_of_row wi go 3 _ _ (0, 0) HOR.out).trans rfl)
            have pE : ∀ p : Past wr, p.to.cell? ⟨W.heap.size, 2, none⟩ = some (.int .i64 E) := fun p => p.cell hE
            have pO : ∀ p : Past wr, p.to.cell? ⟨W.heap.size + 1 + 1, 2, none⟩ = some (.int .i64 Q) := fun p => p.cell z2
            have pA : ∀ p : Past wr, p.to.cell? ⟨b1, o1 + 3, none⟩ = some (.int .i64 za) := fun p => p.cell hca
            have pB : ∀ p : Past wr, p.to.cell? ⟨b2, o2 + 2, none⟩ = some (.int .i64 zb) := fun p => p.cell hcb
            have hua := u64_small a0 (by omega)
            have hub := u64_small b0 (by omega)
            have hsh := shl_walk64 (k := zb) (by omega)
            have hor := or_walk (k := zb) HSR.1 HSR.2 (by omega)
            have hoz := or_zero_walk HSR.1 HSR.2
            have hwz : wrap64 0 = 0 := wrap64_small (Int.le_refl _) (by omega)
            have hdw := dg_walk (k := za) E1 E2
            clear hQ hE z2 hca hcb hza hzb hBk
            cases hdr : drawn E za
            all_goals
              first
                | (have hd1 := dg_of_drawn hdr; rw [hd1] at hdw; rw [hdr, if_pos rfl] at hstep; clear hd1)
                | (have hd1 := dg_of_free hdr; rw [hd1] at hdw; rw [hdr] at hstep; simp only [Bool.false_eq_true, if_false] at hstep; clear hd1)
              have HSTEP := hide hstep
              clear hstep hdr
              go_wp2_with fail
              refine wp_region_past_tail 19 (by kernel_rfl) (by kernel_rfl) ?_
              simp only [List.take_succ_cons, List.take_zero, List.drop_succ_cons, List.drop_zero]
              repeat (first | go_big_quiet_step (fail) | quiet_step (fail))
              refine wpQuiet_nil ?_
              rintro _ ⟨pq, rfl⟩
              have hmq := box_keep HMK.out pq.old
              obtain ⟨q0, q1, q2, f0, f1, f2⟩ := row3 hmq
              have hB6 := HBK.out.below pq.old
              have HMQ := hide hmq
              clear hmq
              go_wp2_with fail
              go_roundw
              case rel => exact ⟨3 + 1, by omega, by go_num, by rw [HSTEP.out]; exact heap_setCell_same _ _ 2 _ _ _ HMQ.out, hB6.set 2 _⟩
              case measure => simp [intOf]
          · have hmf := hide HMK.out
            have hBf := hide HBK.out
            clear hE z2
            go_wp2_with fail
            go_roundw
            case rel => exact ⟨i + 1, by omega, by go_num, by rw [HS.out, ← stTo_next, ← HS.out]; exact hmf.out, (HBi.out.trans hBf.out)⟩
            case measure => simp [intOf]; omega
    · obtain rfl : i = n := by omega
      have hki : ¬ (i : Int) < w * h := by rw [HNN.out]; omega
      obtain ⟨d0, d1, d2, f0, f1, f2⟩ := row3 HTR.out
      obtain ⟨e0, e1, e2⟩ := boxIn_of_row HMR.out
      have hfin := hide (below3 (b := W.heap.size + 1) (.int .i64 w) (.int .i64 h) (.int .i64 (S i 0)) (hB0.out.trans ((HBR.out.old (by rw [hs0.out]; omega)).mono (by omega))) (by omega))
      go_wp2_with fail
      refine bodyPost_ret (v := .agg #[.int .i64 w, .int .i64 h, .int .i64 (S i 0)]) (by simp [results, Try.results56, go_sem, d0, d1, d2]) rfl ⟨by rw [hSfin.out], hfin.out⟩
end Go.Proofs.Ytincdnlinepcgaa
