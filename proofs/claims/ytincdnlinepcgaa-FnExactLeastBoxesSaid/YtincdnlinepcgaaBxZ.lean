/-
  Dots and boxes: SafeEdges, the program's text.
-/
import Derived.Test.YtincdnlinepcgaaBxY
import Derived.Deep.LoopGhost
namespace Go.Proofs.Ytincdnlinepcgaa
open Go.RowKit
set_option linter.unusedVariables false

def safeR (w h E : Int) : List Int × Int := if okBox w h E then (safeL w h E, 0) else ([], 1)
def safeK (w h E : Int) (k : Nat) : List Int := ((freeE w h E).take k).filter (safeE w h E)
theorem safeK_yes {w h E e : Int} {k : Nat} (hk : (freeE w h E)[k]? = some e) (hs : safeE w h E e = true) : safeK w h E (k + 1) = safeK w h E k ++ [e] := by
  unfold safeK
  rw [List.take_add_one, hk]
  simp [hs]
theorem safeK_no {w h E e : Int} {k : Nat} (hk : (freeE w h E)[k]? = some e) (hs : safeE w h E e = false) : safeK w h E (k + 1) = safeK w h E k := by
  unfold safeK
  rw [List.take_add_one, hk]
  simp [hs]
theorem safeK_all (w h E : Int) : safeK w h E (freeE w h E).length = safeL w h E := by
  unfold safeK safeL
  rw [List.take_length]
theorem safeK_le (w h E : Int) (k : Nat) : (safeK w h E k).length ≤ k := Nat.le_trans (List.length_filter_le _ _) (by simp; omega)
theorem freeE_get {w h E e : Int} {k : Nat} (hb : okBox w h E = true) (hk : (freeE w h E)[k]? = some e) : 0 ≤ e ∧ e < nEdge w h ∧ drawn E e = false := by
  have := pre_mem (List.mem_of_getElem? hk)
  obtain ⟨m, hm, _⟩ := edges_nat hb
  simp at this
  exact ⟨this.1, by omega, this.2.2⟩

set_option maxRecDepth 100000 in
set_option maxHeartbeats 4000000 in
theorem implSafe_any (w h E : Int) (W : World) : Calls Try.prog 33 #[.agg #[.int .i64 w, .int .i64 h, .int .i64 E]] W (NewList (safeR w h E) W) := by
  obtain ⟨i0, hi0, hz0, hz1, hz2⟩ := info_parts Try.info2
  obtain ⟨W0, hW0⟩ : ∃ W0, W0 = W.alloc (.cells #[.int .i64 w, .int .i64 h, .int .i64 E] 25) := ⟨_, rfl⟩
  have hB0 : Hid (Below W.heap.size W W0) := by rw [hW0]; exact hide (below_alloc _ _)
  have hX0 : Hid (BoxIn W0 W.heap.size w h E) := by rw [hW0]; exact hide (boxIn_new _ _ _ _ _)
  have hs0 : Hid (W0.heap.size = W.heap.size + 1) := by rw [hW0]; exact hide (by simp)
  obtain ⟨c0, c1, c2⟩ := hX0.out
  obtain ⟨r, hr⟩ : ∃ r, r = safeR w h E := ⟨_, rfl⟩
  rw [← hr]
  unfold safeR at hr
  cases hb : okBox w h E
  · have HR : Hid (r = ([], 1)) := hide (by rw [hr, hb]; rfl)
    have HB := hide hb
    clear hb hr
    go_enter Try.func33, Try.ntmps33
    go_wp2_with fail
    go_step3
    go_wp2_with fail
    rw [← hW0]
    clear hW0
    go_wp2_with fail
    refine (implIs_any w h E _).mono ?_
    rw [HB.out]
    rintro e w1 ⟨rfl, hb1⟩
    have hB1 := hide (Below.trans' hB0.out hb1)
    clear hb1
    go_wp2_with fail
    rw [Exit.noGoto_ret]
    go_ret2
    rw [HR.out]
    exact newList_nil hB1.out
  · have HR : Hid (r = (safeL w h E, 0)) := hide (by rw [hr, hb]; rfl)
    have HB := hide hb
    obtain ⟨h1, h2, h3, h4, _, _⟩ := okBox_parts hb
    obtain ⟨E1, E2⟩ := okBox_E hb
    obtain ⟨m, hm, hm9⟩ := boxes_nat hb
    have hfl := freeE_le hb
    obtain ⟨fr, hfr⟩ : ∃ fr, fr = freeE w h E := ⟨_, rfl⟩
    obtain ⟨n, hn⟩ : ∃ n, n = fr.length := ⟨_, rfl⟩
    obtain ⟨L, hL⟩ : ∃ L, L = safeK w h E := ⟨_, rfl⟩
    rw [← hfr, ← hn] at hfl
    have HL : Hid (L = safeK w h E) := hide hL
    have HFR := hide hfr
    have HN := hide hn
    have HM := hide hm
    clear hb hr hm hfr hn hL
    go_enter Try.func33, Try.ntmps33
    go_wp2_with fail
    go_step3
    go_wp2_with fail
    rw [← hW0]
    clear hW0
    go_wp2_with fail
    refine (implIs_any w h E _).mono ?_
    rw [HB.out]
    rintro e w1 ⟨rfl, hb1⟩
    have hB1 := hide (Below.trans' hB0.out hb1)
    have hX1 := hide (hX0.out.keep hb1)
    have hs1 : Hid (W.heap.size + 1 ≤ w1.heap.size) := hide (by have := hb1.size; rw [hs0.out] at this; exact this)
    clear c0 c1 c2 hb1
    obtain ⟨c0, c1, c2⟩ := hX1.out
    go_wp2_with fail
    go_step3
    go_wp2_with fail
    refine (freeEdges_any w h E HB.out _).mono ?_
    rw [← HFR.out]
    rintro e w2 ⟨al, cl, rfl, hol, hb2⟩
    rw [← HN.out]
    have hB2 := hide (Below.trans' hB1.out hb2)
    have hX2 := hide (hX1.out.keep hb2)
    have hs2 := hide (Nat.le_trans hs1.out hb2.size)
    have hl2 := hide (intsAt_of_ownsRow hol)
    clear c0 c1 c2 hb2 hol
    have hO2 : Hid (Owns w2.heap.size w2 w2 (.slice none 0 0) (L 0)) := hide (by rw [HL.out]; exact Owns.nil (Below.refl _ _) (Nat.le_refl _))
    go_wp2_with fail
    go_loopg [4, 16] n (fun g v i wr => ∃ (k : Nat) (v0 : Value), v0 = v ∧ k + g = n ∧ i = .int .i64 k ∧ Owns w2.heap.size w2 wr v (L k))
    case atStart => exact ⟨0, _, rfl, by omega, rfl, hO2.out⟩
    case round =>
      clear hO2
      obtain ⟨k, v, rfl, hkg, rfl, hO⟩ := hrel
      have hbw : Below w2.heap.size w2 wr := hO.old
      cases gk with
      | zero =>
        obtain rfl : k = n := by omega
        obtain ⟨a, c, hv, ho, hbf⟩ := hO.list hB2.out hB2.out.size
        obtain rfl : v = .slice a (L k).length c := by simpa using hv
        have hfin : Hid (NewList (L k, 0) W (.returned (.tuple #[.slice a (L k).length c, .int .i64 0])) wr) := hide ⟨a, c, rfl, ho, hbf⟩
        have hLk : Hid (L k = safeL w h E) := hide (by rw [HL.out, HN.out, HFR.out]; exact safeK_all w h E)
        clear hO ho hbf hv hbw
        go_wp2_with fail
        try rw [Exit.noGoto_ret]
        go_ret2
        rw [HR.out, ← hLk.out]
        exact hfin.out
      | succ g =>
        have hkn : k < n := by omega
        obtain ⟨b, off, e, rfl, hce, he⟩ := (hl2.out.keep hbw).one (k := k) (by rw [← HN.out]; exact hkn)
        have heF : (freeE w h E)[k]? = some e := by rw [← HFR.out]; exact he.out
        obtain ⟨e0, en, hdr⟩ := freeE_get HB.out heF
        obtain ⟨_, hne, hn24⟩ := edges_nat HB.out
        have e24 : e < 24 := by omega
        obtain ⟨F, hF⟩ : ∃ F, F = withE E e := ⟨_, rfl⟩
        have hbF : Hid (okBox w h F = true) := hide (by rw [hF]; exact okBox_with HB.out e0 en)
        have hyes : Hid (safeTo w h E F m = true → L (k + 1) = L k ++ [e]) := hide (fun hs => by
          rw [HL.out]
          refine safeK_yes heF ?_
          unfold safeE
          rw [HM.out, ← hF]
          exact hs)
        have hnot : Hid (safeTo w h E F m = false → L (k + 1) = L k) := hide (fun hs => by
          rw [HL.out]
          refine safeK_no heF ?_
          unfold safeE
          rw [HM.out, ← hF]
          exact hs)
        have hLle : (L k).length ≤ 24 := by rw [HL.out]; exact Nat.le_trans (safeK_le _ _ _ _) (by omega)
        have HF := hide hF
        clear heF en hdr hF hne hn24
        obtain ⟨c0, c1, c2⟩ := hX2.out.below hbw (by have := hs2.out; omega)
        go_wp2_with fail
        refine (withEdge_any w h E e E1 E2 e0 e24 _).mono ?_
        rw [← HF.out]
        rintro e1 w3 ⟨rfl, hb3⟩
        have hO3 := hO.keep (hb3.alloc hb3.size (.cells #[.int .i64 w, .int .i64 h, .int .i64 F] 25))
        obtain ⟨c0, c1, c2⟩ := hX2.out.below hO3.old (by have := hs2.out; omega)
        clear hO hb3
        go_wp2_with fail
        obtain ⟨W4, hW4⟩ : ∃ W4, W4 = w3.alloc (.cells #[.int .i64 w, .int .i64 h, .int .i64 F] 25) := ⟨_, rfl⟩
        obtain ⟨nb, hnb⟩ : ∃ nb, nb = w3.heap.size := ⟨_, rfl⟩
        have hY4 : Hid (BoxIn W4 nb w h F) := by rw [hW4, hnb]; exact hide (boxIn_new _ _ _ _ _)
        have hnb4 : nb < W4.heap.size := by rw [hW4, hnb]; simp
        rw [← hW4] at hO3
        have hX4 := hide (hX2.out.below hO3.old (by have := hs2.out; omega))
        have HO4 := hide hO3
        clear hO3 c0 c1 c2
        rw [← hnb, ← hW4]
        clear hnb hW4
        refine (boxes_any w h E h1 h2 h3 h4 _).mono ?_
        rw [HM.out]
        rintro e1 w5 ⟨rfl, hb5⟩
        have HO5 := hide (HO4.out.keep hb5)
        have hX5 := hide (hX4.out.keep hb5)
        have hY5 := hide (hY4.out.keep hb5)
        clear hb5 c0 c1 c2 hce hbw
        obtain ⟨wo, hwo⟩ : ∃ wo : World, wo = wr := ⟨_, rfl⟩
        go_wp2_with fail
        go_loopg [25] m (fun g2 i wi => ∃ k2 : Nat, k2 + g2 = m ∧ i = .int .i64 k2 ∧ safeTo w h E F k2 = true ∧ Below w5.heap.size w5 wi)
        case atStart => exact ⟨0, by omega, rfl, rfl, Below.refl _ _⟩
        case round =>
          obtain ⟨k2, hk2, rfl, hsf, hB5⟩ := hrel
          cases gk with
          | zero =>
            obtain rfl : k2 = m := by omega
            have hO6 := HO5.out.keep hB5
            have hown6 := hO6.own
            have hsz6 := hO6.size
            have HO6 := hide hO6
            have HLL := hide (hyes.out hsf)
            clear hO6 hsf hB5
            go_wp2_with (at_builtin; refine wpList_append_own _ rfl _ _ 30 rfl (w2.heap.size) 2 i0 (.int .i64 0) 1 8 Try.underlying30 hi0 hz0 hz1 hz2 rfl (by decide) _ _ _ rfl (hown6.alloc _) ⟨wr.heap.size, 0, none⟩ 1 1 [.int .i64 e] rfl rfl (cell_one_new _ _ _) (by simp [Value.oneCell']) (by unfold maxLen; omega) (by omega) (by simp; omega) ?_)
            intro v' w7 hown' hgrow _
            have hO7 := hide (HO6.out.snoc (by simpa using hown') hgrow)
            clear hown' hgrow hown6 HO6
            go_wp2_with fail
            go_roundg g
            case rel => exact ⟨k + 1, _, rfl, by omega, by go_num, by rw [HLL.out]; exact hO7.out⟩
            case measure => omega
          | succ g2 =>
            have hk2m : k2 < m := by omega
            have hki : Hid ((k2 : Int) < w * h) := hide (by rw [HM.out]; omega)
            obtain ⟨d0, d1, d2⟩ := hY5.out.keep hB5
            obtain ⟨y, hy⟩ : ∃ y, y = cnt4 w h F k2 := ⟨_, rfl⟩
            obtain ⟨x, hx⟩ : ∃ x, x = cnt4 w h E k2 := ⟨_, rfl⟩
            have HY := hide hy
            have HX := hide hx
            have hsucc := safeTo_succ w h E F k2
            have hth : third w h E F (k2 : Int) = (decide (y = 3) && decide (x < 3)) := by rw [hy, hx]; rfl
            by_cases hy3 : y = 3
            · have hyd : (y == 3) = true := by simp [hy3]
              by_cases hx3 : x < 3
              · have hxd : decide (x < y) = true := by rw [hy3]; exact decide_eq_true hx3
                have HLL := hide (hnot.out (safeTo_false hk2m (by rw [hth]; simp [hy3, hx3])))
                have hxy : x < y := by omega
                have HYS := hide hy3
                clear hy hx hsucc hth hy3 hx3 hsf
                go_wp2_with fail
                refine (drawnAround_any w h F k2 hbF.out (by omega) hki.out _).mono ?_
                rw [← HY.out]
                rintro e1 w8 ⟨rfl, hb8⟩
                have hB8 := hide (Below.trans' hB5 hb8)
                obtain ⟨c0, c1, c2⟩ := hX5.out.keep hB8.out
                clear hb8 d0 d1 d2 hB5
                go_wp2_with fail
                refine (drawnAround_any w h E k2 HB.out (by omega) hki.out _).mono ?_
                rw [← HX.out]
                rintro e1 w9 ⟨rfl, hb9⟩
                have hB9 := hide (HO5.out.keep (Below.trans' hB8.out hb9))
                clear hb9 c0 c1 c2
                go_wp2_with fail
                go_roundg g
                case rel => exact ⟨k + 1, _, rfl, by omega, by go_num, by rw [HLL.out]; exact hB9.out⟩
                case measure => omega
              · have hxd : decide (x < y) = false := by rw [hy3]; exact decide_eq_false hx3
                have hsn : Hid (safeTo w h E F (k2 + 1) = true) := hide (by rw [hsucc, hsf, hth]; simp [hx3])
                have hxy : ¬ x < y := by omega
                have HYS := hide hy3
                clear hy hx hsucc hth hy3 hx3 hsf
                go_wp2_with fail
                refine (drawnAround_any w h F k2 hbF.out (by omega) hki.out _).mono ?_
                rw [← HY.out]
                rintro e1 w8 ⟨rfl, hb8⟩
                have hB8 := hide (Below.trans' hB5 hb8)
                obtain ⟨c0, c1, c2⟩ := hX5.out.keep hB8.out
                clear hb8 d0 d1 d2 hB5
                go_wp2_with fail
                refine (drawnAround_any w h E k2 HB.out (by omega) hki.out _).mono ?_
                rw [← HX.out]
                rintro e1 w9 ⟨rfl, hb9⟩
                have hB9 := hide (Below.trans' hB8.out hb9)
                clear hb9 c0 c1 c2
                go_wp2_with fail
                go_roundg g2
                case rel => exact ⟨k2 + 1, by omega, by go_num, hsn.out, hB9.out⟩
                case measure => omega
            · have hyd : (y == 3) = false := by simp [hy3]
              have hsn : Hid (safeTo w h E F (k2 + 1) = true) := hide (by rw [hsucc, hsf, hth]; simp [hy3])
              clear hy hx hsucc hth hy3 hsf
              go_wp2_with fail
              refine (drawnAround_any w h F k2 hbF.out (by omega) hki.out _).mono ?_
              rw [← HY.out]
              rintro e1 w8 ⟨rfl, hb8⟩
              have hB8 := hide (Below.trans' hB5 hb8)
              clear hb8 d0 d1 d2 hB5
              go_wp2_with fail
              go_roundg g2
              case rel => exact ⟨k2 + 1, by omega, by go_num, hsn.out, hB8.out⟩
              case measure => omega
end Go.Proofs.Ytincdnlinepcgaa
