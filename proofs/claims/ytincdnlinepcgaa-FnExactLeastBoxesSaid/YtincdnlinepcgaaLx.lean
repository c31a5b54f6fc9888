/-
  Dots and boxes: LeastBoxes, the program's text.
-/
import Derived.Test.YtincdnlinepcgaaLm
import Derived.Test.YtincdnlinepcgaaBxRq
import Derived.Deep.AppendLies
namespace Go.Proofs.Ytincdnlinepcgaa
open Go.RowKit
set_option linter.unusedVariables false

theorem infoBoxes : (Try.prog.info? 25).map (fun i => (i.zero, i.size, i.bytes)) = some (some (.agg #[.int .i64 0, .int .i64 0, .int .i64 0]), 3, 24) := by kernel_rfl
/-- The cells of a row of positions of one grid. -/
def flatB (x y : Int) (fs : List Int) : List Value := fs.flatMap fun e => [.int .i64 x, .int .i64 y, .int .i64 e]
theorem flatB_snoc (x y : Int) (fs : List Int) (e : Int) : flatB x y (fs ++ [e]) = flatB x y fs ++ [.int .i64 x, .int .i64 y, .int .i64 e] := by simp [flatB]
theorem flatB_len (x y : Int) : ∀ fs : List Int, (flatB x y fs).length = fs.length * 3
  | [] => rfl
  | e :: fs => by
    have := flatB_len x y fs
    show ([_, _, _] ++ flatB x y fs).length = _
    simp
    omega
theorem flatB_get (x y : Int) : ∀ (fs : List Int) (k : Nat) (e : Int), fs[k]? = some e → (flatB x y fs)[k * 3]? = some (.int .i64 x) ∧ (flatB x y fs)[k * 3 + 1]? = some (.int .i64 y) ∧ (flatB x y fs)[k * 3 + 2]? = some (.int .i64 e)
  | [], k, e, h => by simp at h
  | a :: fs, 0, e, h => by
    simp at h
    subst h
    exact ⟨rfl, rfl, rfl⟩
  | a :: fs, k + 1, e, h => by
    have ih := flatB_get x y fs k e (by simpa using h)
    have h0 : (k + 1) * 3 = k * 3 + 1 + 1 + 1 := by omega
    have h1 : (k + 1) * 3 + 1 = (k * 3 + 1) + 1 + 1 + 1 := by omega
    have h2 : (k + 1) * 3 + 2 = (k * 3 + 2) + 1 + 1 + 1 := by omega
    refine ⟨?_, ?_, ?_⟩
    · show ((Value.int .i64 x) :: (Value.int .i64 y) :: (Value.int .i64 a) :: flatB x y fs)[(k + 1) * 3]? = _
      rw [h0]
      simpa using ih.1
    · show ((Value.int .i64 x) :: (Value.int .i64 y) :: (Value.int .i64 a) :: flatB x y fs)[(k + 1) * 3 + 1]? = _
      rw [h1]
      simpa using ih.2.1
    · show ((Value.int .i64 x) :: (Value.int .i64 y) :: (Value.int .i64 a) :: flatB x y fs)[(k + 1) * 3 + 2]? = _
      rw [h2]
      simpa using ih.2.2

/-- A row of positions of the call's own, from block B on. -/
structure OwnsF (B : Nat) (W0 w : World) (x y : Int) (v : Value) (fs : List Int) : Prop where
  own : w.ownsRow B 25 3 v fs.length (flatB x y fs)
  old : Below B W0 w
  size : B ≤ w.heap.size
theorem OwnsF.keep {B : Nat} {W0 w w' : World} {x y : Int} {v : Value} {fs : List Int} (h : OwnsF B W0 w x y v fs) (hb : Below w.heap.size w w') : OwnsF B W0 w' x y v fs :=
  ⟨ownsRow_keep h.own hb, h.old.trans (hb.mono h.size), Nat.le_trans h.size hb.size⟩
theorem OwnsF.snoc {B : Nat} {W0 w2 w3 : World} {x y e : Int} {v v' : Value} {fs : List Int} (h : OwnsF B W0 w2 x y v fs) (hown : w3.ownsRow B 25 3 v' (fs.length + 1) (flatB x y fs ++ [.int .i64 x, .int .i64 y, .int .i64 e]))
    (hg : (w2.alloc (.cells #[.int .i64 x, .int .i64 y, .int .i64 e] 25)).grownBy w3 v.ownBlock) : OwnsF B W0 w3 x y v' (fs ++ [e]) := by
  refine ⟨by rw [flatB_snoc]; simpa using hown, (h.old.alloc h.size _).grown hg (by have := h.size; simp; omega) (fun j hj => by have := (h.own.alloc (.cells #[.int .i64 x, .int .i64 y, .int .i64 e] 25)).lt j hj; omega), ?_⟩
  have := hg.size
  have := h.size
  simp at *
  omega
theorem OwnsF.form {B : Nat} {W0 w : World} {x y : Int} {v : Value} {fs : List Int} (h : OwnsF B W0 w x y v fs) (h0 : 0 < fs.length) : ∃ g c, v = .slice (some ⟨g, 0, none⟩) fs.length c ∧ BoxesAt w g x y fs := by
  rcases h.own.2 with ⟨_, hn⟩ | ⟨g, cap, cur, hv, _, hr, _, _, _, ht⟩
  · omega
  · refine ⟨g, cap, hv, fun k e hk => ?_⟩
    obtain ⟨a0, a1, a2⟩ := flatB_get x y fs k e hk
    have hkl := (List.getElem?_eq_some_iff.1 hk).1
    have hc : ∀ i u, i < fs.length * 3 → (flatB x y fs)[i]? = some u → w.cell? ⟨g, i, none⟩ = some u := fun i u hi hu => by
      rw [← ht, List.getElem?_take, if_pos hi] at hu
      rw [cell_of_row _ _ i _ _ (0, 0) hr]
      simpa using hu
    exact ⟨hc _ _ (by omega) a0, hc _ _ (by omega) a1, hc _ _ (by omega) a2⟩
theorem OwnsF.one {B : Nat} {W0 w : World} {x y e : Int} (h : Below B W0 w) (hs : B ≤ w.heap.size) : OwnsF B W0 (w.alloc (.cells #[.int .i64 x, .int .i64 y, .int .i64 e] 25)) x y (.slice (some ⟨w.heap.size, 0, none⟩) 1 1) [e] :=
  ⟨⟨rfl, .inr ⟨w.heap.size, 1, #[.int .i64 x, .int .i64 y, .int .i64 e], rfl, hs, heap_alloc_new w _, Nat.le_refl _, by decide, rfl, rfl⟩⟩, h.alloc hs _, by simp; omega⟩

/-- The answer: the grid's sides, the edges, the code. -/
def leR (w h E : Int) : Int × Int × Int × Int := if okBox w h E = true then (w, h, leastE w h E, 0) else (0, 0, 0, 1)
def leV : Int × Int × Int × Int → Value | (x, y, z, c) => .tuple #[.agg #[.int .i64 x, .int .i64 y, .int .i64 z], .int .i64 c]

set_option maxRecDepth 100000 in
set_option maxHeartbeats 8000000 in
theorem implLeast_any (w h E : Int) (W : World) : Calls Try.prog 37 #[.agg #[.int .i64 w, .int .i64 h, .int .i64 E]] W (RetB (leV (leR w h E)) W) := by
  obtain ⟨i0, hi0, hz0, hz1, hz2⟩ := info_parts infoBoxes
  obtain ⟨W0, hW0⟩ : ∃ W0, W0 = (W.alloc (.cells #[.int .i64 w, .int .i64 h, .int .i64 E] 25)).alloc (.cells #[.int .i64 0, .int .i64 0, .int .i64 0] 25) := ⟨_, rfl⟩
  have hB0 : Hid (Below W.heap.size W W0) := by rw [hW0]; exact hide ((below_alloc _ _).alloc (by simp) _)
  have hs0 : Hid (W0.heap.size = W.heap.size + 2) := by rw [hW0]; exact hide (by simp)
  have hrb : Hid (W0.heap[W.heap.size]? = some (.cells #[.int .i64 w, .int .i64 h, .int .i64 E] 25 (0, 0))) := by
    rw [hW0, Below.heap_alloc _ _ _ (by simp)]
    exact hide (heap_alloc_new W _)
  have hrr : Hid (W0.heap[W.heap.size + 1]? = some (.cells #[.int .i64 0, .int .i64 0, .int .i64 0] 25 (0, 0))) := by
    have := heap_alloc_new (W.alloc (.cells #[.int .i64 w, .int .i64 h, .int .i64 E] 25)) (.cells #[.int .i64 0, .int .i64 0, .int .i64 0] 25 (0, 0))
    rw [hW0]
    exact hide (by simpa using this)
  obtain ⟨r, hr⟩ : ∃ r, r = leR w h E := ⟨_, rfl⟩
  rw [← hr]
  unfold leR at hr
  obtain ⟨c0, c1, c2, _⟩ := row3' hrb.out
  cases hb : okBox w h E
  · have HR : Hid (r = (0, 0, 0, 1)) := hide (by rw [hr, hb]; rfl)
    have HB := hide hb
    clear hb hr
    go_enter Try.func37, Try.ntmps37
    go_wp2_with fail
    rw [← hW0]
    clear hW0
    go_wp2_with fail
    refine (implIs_any w h E _).mono ?_
    rw [HB.out]
    rintro e w1 ⟨rfl, hb1⟩
    have hB1 := hide (Below.trans' hB0.out hb1)
    obtain ⟨d0, d1, d2, f0, f1, f2⟩ := row3' (box_keep' hrr.out hb1)
    have hfin := hide (below3' (b := W.heap.size + 1) (.int .i64 0) (.int .i64 0) (.int .i64 0) hB1.out (by omega))
    have hr4 := hide (box_set3' (x' := .int .i64 0) (y' := .int .i64 0) (z' := .int .i64 0) (box_keep' hrr.out hb1))
    clear hb1
    go_wp2_with fail
    obtain ⟨j0, j1, j2, _⟩ := row3' hr4.out
    exact bodyPost_ret (v := .tuple #[.agg #[.int .i64 0, .int .i64 0, .int .i64 0], .int .i64 1]) (by simp [results, Try.results37, go_sem, j0, j1, j2]) rfl ⟨by rw [HR.out]; rfl, hfin.out⟩
  · have HR : Hid (r = (w, h, leastE w h E, 0)) := hide (by rw [hr, hb]; rfl)
    have HB := hide hb
    clear hb hr
    go_enter Try.func37, Try.ntmps37
    go_wp2_with fail
    rw [← hW0]
    clear hW0
    go_wp2_with fail
    refine (implIs_any w h E _).mono ?_
    rw [HB.out]
    rintro e w1 ⟨rfl, hb1⟩
    have hB1 := hide (Below.trans' hB0.out hb1)
    have hb1r := hide (box_keep' hrb.out hb1)
    have hr1r := hide (box_keep' hrr.out hb1)
    have hs1 : Hid (W.heap.size + 2 ≤ w1.heap.size) := hide (by have := hb1.size; have := hs0.out; omega)
    clear c0 c1 c2 hb1
    obtain ⟨c0, c1, c2, _⟩ := row3' hb1r.out
    obtain ⟨kn, hkn⟩ : ∃ kn : Nat, kn = if w = h then 3 else 2 := ⟨_, rfl⟩
    have HKN := hide hkn
    clear hkn
    go_upto_if 18 with fail
    go_cut [4] (fun s4 wx => s4 = .int .i64 kn ∧ wx = w1)
    case first =>
      by_cases hwh : w = h
      · have hk3 : Hid (kn = 3) := hide (by rw [HKN.out, if_pos hwh])
        go_wp2_with fail
        go_meet
        exact ⟨by rw [hk3.out]; rfl, rfl⟩
      · have hk2 : Hid (kn = 2) := hide (by rw [HKN.out, if_neg hwh])
        have hne : (w == h) = false := by simpa using hwh
        go_wp2_with fail
        go_meet
        exact ⟨by rw [hk2.out]; rfl, rfl⟩
    case rest =>
      obtain ⟨rfl, rfl⟩ := hcut
      have hkn3 : kn ≤ 3 := by rw [HKN.out]; split <;> omega
      have hkeep : Hid (∀ d : Nat, d < kn → Keeps w h (d : Int)) := hide (fun d hd => by
        have h1 := HKN.out
        split at h1
        · rcases (by omega : d = 0 ∨ d = 1 ∨ d = 2) with rfl | rfl | rfl
          · exact .inl rfl
          · exact .inr (.inl rfl)
          · exact .inr (.inr ⟨rfl, by assumption⟩)
        · rcases (by omega : d = 0 ∨ d = 1) with rfl | rfl
          · exact .inl rfl
          · exact .inr (.inl rfl))
      obtain ⟨W2, hW2⟩ : ∃ W2, W2 = wc.alloc (.cells #[.int .i64 w, .int .i64 h, .int .i64 E] 25) := ⟨_, rfl⟩
      have hO2 : Hid (OwnsF wc.heap.size wc W2 w h (.slice (some ⟨wc.heap.size, 0, none⟩) 1 1) [E]) := by rw [hW2]; exact hide (OwnsF.one (Below.refl _ _) (Nat.le_refl _))
      obtain ⟨B, hBe⟩ : ∃ B, B = wc.heap.size := ⟨_, rfl⟩
      rw [← hBe] at hO2
      have hBB : Hid (B = wc.heap.size) := hide hBe
      go_wp2_with fail
      rw [← hW2, ← hBe]
      clear hW2 hBe
      clear c0 c1 c2
      go_loopg [5, 6] 8 (fun g v i wr => ∃ (k : Nat) (fs : List Int) (v0 : Value), v0 = v ∧ k + g = 8 ∧ i = .int .i64 k ∧ k ≤ fs.length ∧ Forms w h E kn k 0 fs ∧ OwnsF B wc wr w h v fs)
      case atStart => exact ⟨0, [E], _, rfl, by omega, rfl, by simp, Forms.start w h E kn, hO2.out⟩
      case round =>
        clear hO2
        obtain ⟨k, fs, v, rfl, hkg, rfl, hkf, hF, hO⟩ := hrel
        have h0 : 0 < fs.length := List.length_pos_of_mem hF.first
        have h8 := hF.le
        obtain ⟨gb, cv, rfl, hBx⟩ := hO.form h0
        have HF := hide hF
        have HO := hide hO
        have HBX := hide hBx
        have hrw := hide ((hO.old.block (W.heap.size + 1) (by rw [hBB.out]; have := hs1.out; omega)).trans hr1r.out)
        have hsw : Hid (W.heap.size + 1 < wr.heap.size) := hide (block_lt hrw.out)
        have hBwr := hide (Below.trans' hB1.out (hO.old.mono (by rw [hBB.out]; exact Nat.le_refl _)))
        by_cases hlt : k < fs.length
        · cases gk with
          | zero => omega
          | succ g =>
            have hki : (k : Int) < (fs.length : Int) := by omega
            clear hF hO hBx
            obtain ⟨wo, hwo⟩ : ∃ wo : World, wo = wr := ⟨_, rfl⟩
            go_wp2_with fail
            go_loopg [5, 28] kn (fun g2 v i wi => ∃ (d : Nat) (fs : List Int) (v0 : Value), v0 = v ∧ d + g2 = kn ∧ i = .int .i64 d ∧ k < fs.length ∧ Forms w h E kn k d fs ∧ OwnsF B wc wi w h v fs)
            case atStart => exact ⟨0, fs, _, rfl, by omega, rfl, hlt, HF.out, HO.out⟩
            case round =>
              clear HF HO HBX hrw hsw hBwr hlt hki h0 h8
              obtain ⟨d, fs, v, rfl, hdg, rfl, hlt, hF, hO⟩ := hrel
              have h8 := hF.le
              obtain ⟨gb, cv, rfl, hBx⟩ := hO.form (by omega)
              have HF := hide hF
              have HO := hide hO
              have HBX := hide hBx
              cases gk with
              | zero =>
                obtain rfl : d = kn := by omega
                clear hF hO hBx
                go_wp2_with fail
                go_roundg g
                case rel => exact ⟨k + 1, fs, _, rfl, by omega, by go_num, by omega, HF.out.next, HO.out⟩
                case measure => omega
              | succ g2 =>
                have hdk : d < kn := by omega
                have hkp := hkeep.out d hdk
                obtain ⟨x, hx⟩ : ∃ x, fs[k]? = some x := ⟨_, List.getElem?_eq_getElem hlt⟩
                obtain ⟨e0, e1, e2⟩ := hBx k x hx
                have hxo := orb_ok HB.out (hF.sub x (List.mem_of_getElem? hx))
                obtain ⟨y, hy⟩ : ∃ y, y = refl3 w h x (d : Int) := ⟨_, rfl⟩
                have hcall : Hid (∀ W' : World, Calls Try.prog 57 #[.agg #[.int .i64 w, .int .i64 h, .int .i64 x], .int .i64 d] W' (RetB (.agg #[.int .i64 w, .int .i64 h, .int .i64 y]) W')) := hide (fun W' => by
                  have := reflected_any w h x d hxo hkp.r.1 hkp.r.2 W'
                  rw [hkp.m.1, hkp.m.2, ← hy] at this
                  exact this)
                have HY := hide hy
                have HX := hide hx
                have HKP := hide hkp
                have hkl : (k : Int) < (fs.length : Int) := by omega
                have hdk' : (d : Int) < (kn : Int) := by omega
                clear hF hO hBx hx hy hkp hxo
                go_wp2_with fail
                refine (hcall.out _).mono ?_
                rintro e w5 ⟨rfl, hb5⟩
                have ha5 := below_alloc w5 (.cells #[.int .i64 w, .int .i64 h, .int .i64 y] 25)
                have HO5 := hide ((HO.out.keep hb5).keep ha5)
                have HBX5 := hide ((HBX.out.keep hb5).keep ha5)
                have hr5 : Hid ((w5.alloc (.cells #[.int .i64 w, .int .i64 h, .int .i64 y] 25)).heap[w5.heap.size]? = some (.cells #[.int .i64 w, .int .i64 h, .int .i64 y] 25 (0, 0))) := hide (heap_alloc_new w5 _)
                clear hb5 ha5 e0 e1 e2
                go_wp2_with fail
                refine (contains_any w h y gb cv fs _ HBX5.out h8).mono ?_
                rintro e w6 ⟨rfl, hb6⟩
                have HO6 := hide (HO5.out.keep hb6)
                obtain ⟨c0, c1, c2, _⟩ := row3' (box_keep' hr5.out hb6)
                clear hb6
                by_cases hin : y ∈ fs
                · have hdc : decide (y ∈ fs) = true := decide_eq_true hin
                  rw [hdc]
                  have HF6 := hide (HF.out.known HX.out (by rw [← HY.out]; exact hin))
                  clear hdc hin
                  go_wp2_with fail
                  go_roundg g2
                  case rel => exact ⟨d + 1, fs, _, rfl, by omega, by go_num, hlt, HF6.out, HO6.out⟩
                  case measure => omega
                · have hdc : decide (y ∈ fs) = false := decide_eq_false hin
                  rw [hdc]
                  have HF6 : Hid (Forms w h E kn k (d + 1) (fs ++ [y])) := hide (by rw [HY.out]; exact HF.out.more HB.out HX.out HKP.out (by rw [← HY.out]; exact hin))
                  have hown6 := HO6.out.own
                  have hsz6 := HO6.out.size
                  clear hdc hin
                  go_wp2_with (at_builtin; refine wpList_append_own _ rfl _ _ 57 rfl B 25 i0 (.agg #[.int .i64 0, .int .i64 0, .int .i64 0]) 3 24 Try.underlying57 hi0 hz0 hz1 hz2 rfl (by decide) _ _ _ rfl (hown6.alloc _) ⟨w6.heap.size, 0, none⟩ 1 1 [.int .i64 w, .int .i64 h, .int .i64 y] rfl rfl (World.news_of_block (heap_alloc_new w6 (.cells #[.int .i64 w, .int .i64 h, .int .i64 y] 25 (0, 0)))) (by simp [Value.oneCell']) (by unfold maxLen; omega) (by omega) (by simp; omega) ?_)
                  intro v' w7 hown' hgrow _
                  have HO7 := hide (HO6.out.snoc (by simpa using hown') hgrow)
                  clear hown' hgrow hown6
                  go_wp2_with fail
                  go_roundg g2
                  case rel => exact ⟨d + 1, fs ++ [y], _, rfl, by omega, by go_num, by simp; omega, HF6.out, HO7.out⟩
                  case measure => omega
        · obtain rfl : k = fs.length := by omega
          clear hF hO hBx
          go_wp2_with fail
          refine (minFunc_any w h gb cv fs _ HBX.out h0 h8).mono ?_
          rintro e w5 ⟨m, rfl, hm, hmin, hb5⟩
          have hml : Hid (m = leastE w h E) := hide (HF.out.least HB.out HKN.out hm hmin)
          have ha5 := below_alloc w5 (.cells #[.int .i64 w, .int .i64 h, .int .i64 m] 25)
          have hr5 : Hid ((w5.alloc (.cells #[.int .i64 w, .int .i64 h, .int .i64 m] 25)).heap[w5.heap.size]? = some (.cells #[.int .i64 w, .int .i64 h, .int .i64 m] 25 (0, 0))) := hide (heap_alloc_new w5 _)
          have hres := box_keep' (box_keep' hrw.out hb5) ha5
          obtain ⟨d0, d1, d2, f0, f1, f2⟩ := row3' hres
          obtain ⟨c0, c1, c2, _⟩ := row3' hr5.out
          have hr6 := hide (box_set3' (x' := .int .i64 w) (y' := .int .i64 h) (z' := .int .i64 m) hres)
          have hB6 := hide (below3' (b := W.heap.size + 1) (.int .i64 w) (.int .i64 h) (.int .i64 m) (Below.trans' (Below.trans' hBwr.out hb5) ha5) (by omega))
          clear hm hmin hb5 ha5 hres
          go_wp2_with fail
          obtain ⟨j0, j1, j2, _⟩ := row3' hr6.out
          exact bodyPost_ret (v := .tuple #[.agg #[.int .i64 w, .int .i64 h, .int .i64 m], .int .i64 0]) (by simp [results, Try.results37, go_sem, j0, j1, j2]) rfl ⟨by rw [HR.out, ← hml.out]; rfl, hB6.out⟩
end Go.Proofs.Ytincdnlinepcgaa
