/-
  checkRace; MakerWins, RaceResult: the program's text.
-/
import Derived.Test.YtkekanllfpdeaaaDoorNn
import Derived.Test.YtkekanllfpdeaaaDoorBq
namespace Go.Proofs.YtkekanllfpdeaaaDoor
open Go.RowKit Go.Maps
set_option linter.unusedVariables false

theorem below_but {n : Nat} {W a b : World} (h : Below W.heap.size W a) (k : But n a b) (hn : W.heap.size ≤ n) : Below W.heap.size W b := ((ButB.of_below (n := n) h).trans (k.butB h.size)).old hn
theorem st_zero {n : Int} (h : 1 ≤ n ∧ n ≤ 9) : St n 0 0 := by
  have hp := pow_pos' n
  refine ⟨h, ⟨by omega, by omega⟩, ⟨by omega, by omega⟩, by decide, Or.inl rfl⟩
theorem st_of_code {n : Int} {cs : List Int} {F S : Int} (h : codeS n cs F S = 0) (h9 : n ≤ 9) : St n F S := by
  obtain ⟨h1, h2, h3, h4, h5⟩ := codeS_zero h
  exact ⟨⟨(okB_parts h1).1.1, h9⟩, h2, h3, h4, h5⟩

/-! ### checkRace -/
def codeR (n : Int) (cs : List Int) (F S : Int) : Int := if codeS n cs F S = 0 then (if (endR n cs F S).isSome = true then 5 else if n ≤ 9 then 0 else 3) else codeS n cs F S
theorem codeR_zero {n : Int} {cs : List Int} {F S : Int} (h : codeR n cs F S = 0) : codeS n cs F S = 0 ∧ endR n cs F S = none ∧ n ≤ 9 := by
  unfold codeR at h
  split at h
  · rename_i h1
    split at h
    · omega
    · rename_i h2
      split at h
      · exact ⟨h1, by simpa using h2, by assumption⟩
      · omega
  · exact absurd h (by assumption)

set_option maxRecDepth 100000 in
set_option maxHeartbeats 2000000 in
theorem checkRace_any (n : Int) (a : Option Addr) (c : Nat) (cs : List Int) (F S : Int) (W : World) (ha : IntsAt W a cs) (hl : cs.length ≤ 1048576) :
    Calls Tryd.prog 71 #[.agg #[.int .i64 n, .slice a cs.length c], .int .i64 F, .int .i64 S] W (RetB (.int .i64 (codeR n cs F S)) W) := by
  obtain ⟨W0, hW0⟩ : ∃ W0, W0 = W.alloc (.cells #[.int .i64 n, .slice a cs.length c] 28) := ⟨_, rfl⟩
  have hB0 : Hid (Below W.heap.size W W0) := by rw [hW0]; exact hide (below_alloc _ _)
  have hX0 : Hid (HexIn W0 W.heap.size n a cs.length c) := by rw [hW0]; exact hide (hexIn_new _ _ _ _ _ _)
  have hA0 := hide (ha.keep hB0.out)
  obtain ⟨c0, c1⟩ := hX0.out
  obtain ⟨r, hr⟩ : ∃ r, r = codeS n cs F S := ⟨_, rfl⟩
  have HC : Hid (∀ V : World, Below W0.heap.size W0 V → Calls Tryd.prog 126 #[.agg #[.int .i64 n, .slice a cs.length c], .int .i64 F, .int .i64 S] V (RetB (.int .i64 r) V)) := hide (fun V hv => by rw [hr]; exact checkState_any n a c cs F S V (hA0.out.keep hv) hl)
  by_cases h0 : r = 0
  · obtain ⟨hok, hF, hS, _⟩ := codeS_zero (by rw [← hr]; exact h0)
    have hp16 := nn16 (okB_parts hok).1
    have HEN : Hid (∀ V : World, Below W0.heap.size W0 V → Calls Tryd.prog 127 #[.agg #[.int .i64 F, .int .i64 S], .agg #[.int .i64 n, .slice a cs.length c]] V (RetB (endV (endR n cs F S) 0) V)) := hide (fun V hv => endRace_any n a c cs F S hok hF.1 (by omega) hS.1 (by omega) V (hA0.out.keep hv) hl)
    have HSO : Hid (∀ V : World, Below W0.heap.size W0 V → Calls Tryd.prog 66 #[.agg #[.int .i64 n, .slice a cs.length c]] V (RetB (.int .i64 (codeL n cs)) V)) := hide (fun V hv => checkSolve_any n a c cs V (hA0.out.keep hv) hl)
    cases he : endR n cs F S with
    | some x =>
      rw [he] at HEN
      simp only [endV, Option.getD_some, Option.isSome_some] at HEN
      have HR : Hid (codeR n cs F S = 5) := hide (by unfold codeR; rw [← hr, if_pos h0, he]; rfl)
      rw [HR.out]
      subst h0
      clear hr ha hok hF hS hp16 he
      go_enter Tryd.func71, Tryd.ntmps71
      go_wp2_with fail
      rw [← hW0]
      clear hW0
      (try go_wp2_with fail)
      refine (HC.out _ (Below.refl _ _)).mono ?_
      rintro e w1 ⟨rfl, hb1⟩
      have hB1 := hide (Below.trans' hB0.out hb1)
      have hb1' := hide hb1
      have hX1 := hide (hX0.out.keep hb1)
      clear hb1 c0 c1
      obtain ⟨c0, c1⟩ := hX1.out
      go_wp2_with fail
      refine (HEN.out _ hb1'.out).mono ?_
      rintro e w2 ⟨rfl, hb2⟩
      have hB2 := hide (Below.trans' hB1.out hb2)
      clear hb2
      go_wp2_with fail
      go_ret
      exact ⟨rfl, hB2.out⟩
    | none =>
      rw [he] at HEN
      simp only [endV, Option.getD_none, Option.isSome_none] at HEN
      have HR : Hid (codeR n cs F S = codeL n cs) := hide (by unfold codeR codeL; rw [← hr, if_pos h0, he, if_pos hok]; rfl)
      rw [HR.out]
      subst h0
      clear hr ha hok hF hS hp16 he
      go_enter Tryd.func71, Tryd.ntmps71
      go_wp2_with fail
      rw [← hW0]
      clear hW0
      (try go_wp2_with fail)
      refine (HC.out _ (Below.refl _ _)).mono ?_
      rintro e w1 ⟨rfl, hb1⟩
      have hB1 := hide (Below.trans' hB0.out hb1)
      have hb1' := hide hb1
      have hX1 := hide (hX0.out.keep hb1)
      clear hb1 c0 c1
      obtain ⟨c0, c1⟩ := hX1.out
      go_wp2_with fail
      refine (HEN.out _ hb1'.out).mono ?_
      rintro e w2 ⟨rfl, hb2⟩
      have hB2 := hide (Below.trans' hB1.out hb2)
      have hb2' := hide (Below.trans' hb1'.out hb2)
      have hX2 := hide (hX1.out.keep hb2)
      clear hb2 c0 c1
      obtain ⟨c0, c1⟩ := hX2.out
      go_wp2_with fail
      refine (HSO.out _ hb2'.out).mono ?_
      rintro e w3 ⟨rfl, hb3⟩
      have hB3 := hide (Below.trans' hB2.out hb3)
      clear hb3
      go_wp2_with fail
      go_ret
      exact ⟨rfl, hB3.out⟩
  · have HR : Hid (codeR n cs F S = r) := hide (by unfold codeR; rw [← hr, if_neg h0])
    rw [HR.out]
    have e0 : (r != 0) = true := by simp [h0]
    clear hr ha h0
    go_enter Tryd.func71, Tryd.ntmps71
    go_wp2_with fail
    rw [← hW0]
    clear hW0
    (try go_wp2_with fail)
    refine (HC.out _ (Below.refl _ _)).mono ?_
    rintro e w1 ⟨rfl, hb1⟩
    have hB1 := hide (Below.trans' hB0.out hb1)
    clear hb1
    go_wp2_with fail
    go_ret
    exact ⟨rfl, hB1.out⟩

/-! ### MakerWins -/
def mkR (n : Int) (cs : List Int) : Bool × Int := if codeL n cs = 0 then (decide (lvM n cs 0 0 = 1), 0) else (false, codeL n cs)

set_option maxRecDepth 100000 in
set_option maxHeartbeats 2000000 in
theorem implMk_any (n : Int) (a : Option Addr) (c : Nat) (cs : List Int) (W : World) (ha : IntsAt W a cs) (hl : cs.length ≤ 1048576) (hT : TzTab W) :
    Calls Tryd.prog 20 #[.agg #[.int .i64 n, .slice a cs.length c]] W (RetB (.tuple #[.bool (mkR n cs).1, .int .i64 (mkR n cs).2]) W) := by
  have HT := hide hT
  clear hT
  obtain ⟨W0, hW0⟩ : ∃ W0, W0 = W.alloc (.cells #[.int .i64 n, .slice a cs.length c] 28) := ⟨_, rfl⟩
  have hB0 : Hid (Below W.heap.size W W0) := by rw [hW0]; exact hide (below_alloc _ _)
  have hX0 : Hid (HexIn W0 W.heap.size n a cs.length c) := by rw [hW0]; exact hide (hexIn_new _ _ _ _ _ _)
  have hA0 := hide (ha.keep hB0.out)
  obtain ⟨c0, c1⟩ := hX0.out
  obtain ⟨r, hr⟩ : ∃ r, r = codeL n cs := ⟨_, rfl⟩
  have HC : Hid (Calls Tryd.prog 66 #[.agg #[.int .i64 n, .slice a cs.length c]] W0 (RetB (.int .i64 r) W0)) := hide (by rw [hr]; exact checkSolve_any n a c cs W0 hA0.out hl)
  by_cases h0 : r = 0
  · obtain ⟨hok, hn⟩ := codeL_zero (by rw [← hr]; exact h0)
    obtain ⟨x, hx⟩ : ∃ x, x = lvM n cs 0 0 := ⟨_, rfl⟩
    have HR : Hid (mkR n cs = (x == 1, 0)) := hide (by unfold mkR; rw [← hr, if_pos h0, ← hx]; by_cases e : x = 1 <;> simp [e])
    have HVA : Hid (∀ (bm : Nat) (V : World), KnS (lvM n cs) n a cs bm V → Calls Tryd.prog 68 #[svM n a cs.length c bm, .agg #[.int .i64 0, .int .i64 0]] V (RetK bm (KnS (lvM n cs) n a cs bm) (.int .i64 x) V)) := hide (fun bm V hk => by rw [hx]; exact valueM_any n a c cs hok bm _ 0 0 V (st_zero hn) rfl hk)
    rw [HR.out]
    subst h0
    clear hr ha hok hn hx
    go_enter Tryd.func20, Tryd.ntmps20
    go_wp2_with fail
    rw [← hW0]
    clear hW0
    (try go_wp2_with fail)
    refine HC.out.mono ?_
    rintro e w1 ⟨rfl, hb1⟩
    have hB1 := hide (Below.trans' hB0.out hb1)
    have hX1 := hide (hX0.out.keep hb1)
    have hA1 := hide (hA0.out.keep hb1)
    clear hb1 c0 c1
    obtain ⟨c0, c1⟩ := hX1.out
    go_wp2_with fail
    refine (newM_any n a cs.length c _).mono ?_
    rintro e w2 ⟨bm, rfl, hbm, hb2, hk2⟩
    have HK2 := hide (hk2 a (lvM n cs) n cs hA1.out (HT.out.keep hB1.out))
    have hB2 := hide (Below.trans' hB1.out hb2)
    have hWb : W.heap.size ≤ bm := Nat.le_trans hB1.out.size hbm
    clear hb2 hk2 c0 c1
    go_wp2_with fail
    refine (HVA.out _ _ HK2.out).mono ?_
    rintro e w3 ⟨rfl, hbut3, _⟩
    have hB3 := hide (below_but hB2.out hbut3 hWb)
    clear hbut3
    go_wp2_with fail
    go_ret2
    exact ⟨rfl, hB3.out⟩
  · have HR : Hid (mkR n cs = (false, r)) := hide (by unfold mkR; rw [← hr, if_neg h0])
    rw [HR.out]
    have e0 : (r != 0) = true := by simp [h0]
    clear hr ha h0
    go_enter Tryd.func20, Tryd.ntmps20
    go_wp2_with fail
    rw [← hW0]
    clear hW0
    (try go_wp2_with fail)
    refine HC.out.mono ?_
    rintro e w1 ⟨rfl, hb1⟩
    have hB1 := hide (Below.trans' hB0.out hb1)
    clear hb1
    go_wp2_with fail
    go_ret2
    exact ⟨rfl, hB1.out⟩

/-! ### RaceResult -/
/-- The result for who is to take a node. -/
def sgn (F S x : Int) : Int := if t1 F S = true then x else -x
def rrR (n : Int) (cs : List Int) (F S : Int) : Int × Int := if codeR n cs F S = 0 then (sgn F S (lvR n cs F S), 0) else (0, codeR n cs F S)

set_option maxRecDepth 100000 in
set_option maxHeartbeats 4000000 in
theorem implRr_any (n : Int) (a : Option Addr) (c : Nat) (cs : List Int) (F S : Int) (W : World) (ha : IntsAt W a cs) (hl : cs.length ≤ 1048576) (hT : TzTab W) :
    Calls Tryd.prog 22 #[.agg #[.int .i64 n, .slice a cs.length c], .int .i64 F, .int .i64 S] W (RetB (.tuple #[.int .i64 (rrR n cs F S).1, .int .i64 (rrR n cs F S).2]) W) := by
  have HT := hide hT
  clear hT
  obtain ⟨W0, hW0⟩ : ∃ W0, W0 = W.alloc (.cells #[.int .i64 n, .slice a cs.length c] 28) := ⟨_, rfl⟩
  have hB0 : Hid (Below W.heap.size W W0) := by rw [hW0]; exact hide (below_alloc _ _)
  have hX0 : Hid (HexIn W0 W.heap.size n a cs.length c) := by rw [hW0]; exact hide (hexIn_new _ _ _ _ _ _)
  have hA0 := hide (ha.keep hB0.out)
  obtain ⟨c0, c1⟩ := hX0.out
  obtain ⟨r, hr⟩ : ∃ r, r = codeR n cs F S := ⟨_, rfl⟩
  have HC : Hid (Calls Tryd.prog 71 #[.agg #[.int .i64 n, .slice a cs.length c], .int .i64 F, .int .i64 S] W0 (RetB (.int .i64 r) W0)) := hide (by rw [hr]; exact checkRace_any n a c cs F S W0 hA0.out hl)
  by_cases h0 : r = 0
  · obtain ⟨hcs, hen, hn9⟩ := codeR_zero (by rw [← hr]; exact h0)
    have hst := st_of_code hcs hn9
    obtain ⟨hok, _⟩ := codeS_zero hcs
    obtain ⟨f0, f1, s0, s1⟩ := hst.lt
    obtain ⟨x, hx⟩ : ∃ x, x = lvR n cs F S := ⟨_, rfl⟩
    have hxr := lvR_range n cs F S
    rw [← hx] at hxr
    obtain ⟨xr0, xr1⟩ := hxr
    obtain ⟨y, hy⟩ : ∃ y, y = sgn F S x := ⟨_, rfl⟩
    have HR : Hid (rrR n cs F S = (y, 0)) := hide (by unfold rrR; rw [← hr, if_pos h0, ← hx, hy])
    have HY : Hid (y = if t1 F S = true then x else -x) := hide hy
    have HVA : Hid (∀ (bm : Nat) (V : World), KnS (lvR n cs) n a cs bm V → Calls Tryd.prog 68 #[svR n a cs.length c bm, .agg #[.int .i64 F, .int .i64 S]] V (RetK bm (KnS (lvR n cs) n a cs bm) (.int .i64 x) V)) := hide (fun bm V hk => by rw [hx]; exact valueR_any n a c cs hok bm _ F S V hst rfl hk)
    have HTU : Hid (∀ V : World, Calls Tryd.prog 72 #[.agg #[.int .i64 F, .int .i64 S]] V (RetB (.bool (t1 F S)) V)) := hide (fun V => isTurn_any F S f0 (by omega) s0 (by omega) V)
    have HNW : Hid (∀ V : World, Calls Tryd.prog 67 #[.agg #[.int .i64 n, .slice a cs.length c], .int .i64 1] V fun e W' => ∃ bm, e = .returned (svR n a cs.length c bm) ∧ V.heap.size ≤ bm ∧ Below V.heap.size V W' ∧ ∀ (a : Option Addr) (lv : Int → Int → Int) (m : Int) (cs : List Int), IntsAt V a cs → TzTab V → KnS lv m a cs bm W') := hide (fun V => newR_any n a cs.length c V)
    rw [HR.out]
    subst h0
    clear hr ha hok hst hx hcs hen f0 f1 s0 s1 hy
    go_enter Tryd.func22, Tryd.ntmps22
    go_wp2_with fail
    rw [← hW0]
    clear hW0
    (try go_wp2_with fail)
    refine HC.out.mono ?_
    rintro e w1 ⟨rfl, hb1⟩
    have hB1 := hide (Below.trans' hB0.out hb1)
    have hX1 := hide (hX0.out.keep hb1)
    have hA1 := hide (hA0.out.keep hb1)
    clear hb1 c0 c1
    go_wp2_with fail
    obtain ⟨w2, hw2⟩ : ∃ w2, w2 = w1.alloc (.cells #[.int .i64 F, .int .i64 S] 92) := ⟨_, rfl⟩
    have hb2 : Below w1.heap.size w1 w2 := by rw [hw2]; exact below_alloc _ _
    have hT2 : Hid (w2.heap[w1.heap.size]? = some (.cells #[.int .i64 F, .int .i64 S] 92 (0, 0))) := by rw [hw2]; exact hide (alloc_row _ _ _)
    have hX2 := hide (hX1.out.keep hb2)
    have hA2 := hide (hA1.out.keep hb2)
    have hB2 := hide (Below.trans' hB1.out hb2)
    have HT2 := hide (HT.out.keep hB2.out)
    have hl1 : W.heap.size < w1.heap.size := hX1.out.lt
    have hl2 : w1.heap.size < w2.heap.size := (Array.getElem?_eq_some_iff.1 hT2.out).1
    rw [← hw2]
    clear hw2 hb2
    (try go_wp2_with fail)
    obtain ⟨c0, c1⟩ := hX2.out.keep (Below.drew (Below.refl _ _))
    obtain ⟨d0, d1, _⟩ := row2' (box_keep hT2.out (Below.drew (Below.refl w2.heap.size w2)))
    go_upto_region 5 with fail
    go_cut [10] (fun s wx => s = .int .i64 x ∧ Below W.heap.size W wx ∧ wx.heap[w1.heap.size]? = some (.cells #[.int .i64 F, .int .i64 S] 92 (0, 0)))
    case first =>
      go_region_held3 (fun W' => W'.cell? ⟨W.heap.size, 0, none⟩ = some (.int .i64 n) ∧ W'.cell? ⟨W.heap.size, 1, none⟩ = some (.slice a cs.length c) ∧ W'.cell? ⟨w1.heap.size, 0, none⟩ = some (.int .i64 F) ∧ W'.cell? ⟨w1.heap.size, 1, none⟩ = some (.int .i64 S)) (first | exact ⟨c0, c1, d0, d1⟩ | exact ⟨y0, y1, z0, z1⟩ | exact ⟨k0', k1', l0', l1'⟩) ((first | (go_at_call 67; (with_reducible refine (HNW.out _).mono ?_); rintro e w3 ⟨bm, rfl, hbm', hb3', hk3⟩; have hb3 : Below w2.heap.size w2 w3 := Below.trans' (Below.drew (Below.refl _ _)) hb3'; have hbm : w2.heap.size ≤ bm := hbm'; have HK3 := hide (hk3 a (lvR n cs) n cs (hA2.out.keep (Below.drew (Below.refl _ _))) (HT2.out.keep (Below.drew (Below.refl _ _)))); have hB3 := hide (Below.trans' hB2.out hb3); have hT3 := hide (box_keep hT2.out hb3); (obtain ⟨y0, y1⟩ := hX2.out.keep hb3); (obtain ⟨z0, z1, _⟩ := row2' hT3.out); clear hk3 hb3 hb3' hbm') | (go_at_call 68; (with_reducible refine (HVA.out _ _ HK3.out).mono ?_); rintro e w4 ⟨rfl, hbut4, hk4⟩; have HBUT4 := hide hbut4; have k0' := hbut4.cell y0 (by show W.heap.size ≠ bm; omega); have k1' := hbut4.cell y1 (by show W.heap.size ≠ bm; omega); have l0' := hbut4.cell z0 (by show w1.heap.size ≠ bm; omega); have l1' := hbut4.cell z1 (by show w1.heap.size ≠ bm; omega); clear hbut4 hk4)))
      all_goals
        go_wp2_with fail
        go_meet
        exact ⟨rfl, below_but hB3.out HBUT4.out (by omega), HBUT4.out.row hT3.out (by omega)⟩
    case rest =>
      obtain ⟨rfl, hB4, hT4⟩ := hcut
      have HB4 := hide hB4
      have HT4 := hide hT4
      clear hB4 hT4 c0 c1 d0 d1
      obtain ⟨d0, d1, _⟩ := row2' HT4.out
      cases htt : t1 F S
      · rw [htt] at HTU
        have HE : Hid (y = -x) := hide (by rw [HY.out, htt]; rfl)
        clear htt
        go_wp2_with fail
        refine (HTU.out _).mono ?_
        rintro e w5 ⟨rfl, hb5⟩
        have hB5 := hide (Below.trans' HB4.out hb5)
        clear hb5 d0 d1
        go_wp2_with fail
        go_ret2
        exact ⟨by simp [go_sem, HE.out], hB5.out⟩
      · rw [htt] at HTU
        have HE : Hid (y = x) := hide (by rw [HY.out, htt]; rfl)
        clear htt
        go_wp2_with fail
        refine (HTU.out _).mono ?_
        rintro e w5 ⟨rfl, hb5⟩
        have hB5 := hide (Below.trans' HB4.out hb5)
        clear hb5 d0 d1
        go_wp2_with fail
        go_ret2
        exact ⟨by simp [go_sem, HE.out], hB5.out⟩
  · have HR : Hid (rrR n cs F S = (0, r)) := hide (by unfold rrR; rw [← hr, if_neg h0])
    rw [HR.out]
    have e0 : (r != 0) = true := by simp [h0]
    clear hr ha h0
    go_enter Tryd.func22, Tryd.ntmps22
    go_wp2_with fail
    rw [← hW0]
    clear hW0
    (try go_wp2_with fail)
    refine HC.out.mono ?_
    rintro e w1 ⟨rfl, hb1⟩
    have hB1 := hide (Below.trans' hB0.out hb1)
    clear hb1
    go_wp2_with fail
    go_ret2
    exact ⟨rfl, hB1.out⟩
end Go.Proofs.YtkekanllfpdeaaaDoor
