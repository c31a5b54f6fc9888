/-
  Moves of cars: small functions of both texts.
-/
import Derived.Test.YtmoekjgnichgnaaDoorTg
import Derived.StillTailTactics
namespace Go.Proofs.YtmoekjgnichgnaaDoor
open Go.RowKit
set_option linter.unusedVariables false

def idxB (i n : Int) : Bool := decide (0 ≤ i) && decide (i < n)
theorem idxB_inI (i n : Int) : idxB i n = inI i 0 (n - 1) := by
  unfold idxB inI
  congr 1
  rw [decide_eq_decide]
  omega
set_option maxHeartbeats 400000 in
theorem isIndex_any (i n : Int) (W : World) : Calls Tryd.prog 106 #[.int .i64 i, .int .i64 n] W (RetB (.bool (idxB i n)) W) := by
  by_cases h1 : 0 ≤ i
  · have hd : Hid (idxB i n = decide (i < n)) := hide (by unfold idxB; rw [decide_eq_true h1, Bool.true_and])
    go_enter Tryd.func106, Tryd.ntmps106
    go_wp2
    go_ret
    exact ⟨by rw [hd.out]; rfl, Below.refl _ _⟩
  · have hd : Hid (idxB i n = false) := hide (by unfold idxB; rw [decide_eq_false h1, Bool.false_and])
    go_enter Tryd.func106, Tryd.ntmps106
    go_wp2
    go_ret
    exact ⟨by rw [hd.out]; rfl, Below.refl _ _⟩
set_option maxHeartbeats 400000 in
theorem isSpeed_any (i : Int) (W : World) : Calls Tryd.prog 128 #[.int .i64 i] W (RetB (.bool (okSpeed i)) W) := by
  by_cases h1 : -5 ≤ i
  · have hd : Hid (okSpeed i = decide (i ≤ 5)) := hide (by unfold okSpeed inI; rw [decide_eq_true h1, Bool.true_and])
    go_enter Tryd.func128, Tryd.ntmps128
    go_wp2
    go_ret
    exact ⟨by rw [hd.out]; rfl, Below.refl _ _⟩
  · have hd : Hid (okSpeed i = false) := hide (by unfold okSpeed inI; rw [decide_eq_false h1, Bool.false_and])
    go_enter Tryd.func128, Tryd.ntmps128
    go_wp2
    go_ret
    exact ⟨by rw [hd.out]; rfl, Below.refl _ _⟩
theorem isIndex_is {b : Bool} {i n : Int} (h : idxB i n = b) (W : World) : Calls Tryd.prog 106 #[.int .i64 i, .int .i64 n] W (RetB (.bool b) W) := by
  rw [← h]; exact isIndex_any i n W
theorem isSpeed_is {b : Bool} {i : Int} (h : okSpeed i = b) (W : World) : Calls Tryd.prog 128 #[.int .i64 i] W (RetB (.bool b) W) := by
  rw [← h]; exact isSpeed_any i W
set_option maxHeartbeats 400000 in
theorem inI_any (n lo hi : Int) (W : World) : Calls Tryd.prog 77 #[.int .i64 n, .int .i64 lo, .int .i64 hi] W (RetB (.bool (inI n lo hi)) W) := by
  by_cases h1 : lo ≤ n
  · have hd : Hid (inI n lo hi = decide (n ≤ hi)) := hide (by unfold inI; rw [decide_eq_true h1, Bool.true_and])
    go_enter Tryd.func77, Tryd.ntmps77
    go_wp2
    go_ret
    exact ⟨by rw [hd.out]; rfl, Below.refl _ _⟩
  · have hd : Hid (inI n lo hi = false) := hide (by unfold inI; rw [decide_eq_false h1, Bool.false_and])
    go_enter Tryd.func77, Tryd.ntmps77
    go_wp2
    go_ret
    exact ⟨by rw [hd.out]; rfl, Below.refl _ _⟩
theorem inI_is {b : Bool} {n lo hi : Int} (h : inI n lo hi = b) (W : World) : Calls Tryd.prog 77 #[.int .i64 n, .int .i64 lo, .int .i64 hi] W (RetB (.bool b) W) := by
  rw [← h]; exact inI_any n lo hi W
theorem inI_yes {n lo hi : Int} (h : inI n lo hi = true) : lo ≤ n ∧ n ≤ hi := by simpa [inI] using h
theorem at8_get {ss : List ByteArray} {x y : Int} {s : ByteArray} {k : Nat} (hx : 0 ≤ x) (hy : ss[y.toNat]? = some s) (hk : x.toNat < s.size) : at8 ss x y = s[x.toNat]'hk := by
  unfold at8 byte
  rw [List.getD_eq_getElem?_getD (l := ss), hy]
  show s.data.toList.getD x.toNat 0 = _
  rw [List.getD_eq_getElem?_getD, byte_get hk]
  rfl

set_option maxRecDepth 100000 in
set_option maxHeartbeats 1000000 in
theorem l08Free_any (a : Option Addr) (c : Nat) (ss : List ByteArray) (x y : Int) (W : World) (ha : StrsAt W a ss) (hs : shp ss = true) :
    Calls Tryd.prog 104 #[.slice a ss.length c, .int .i64 x, .int .i64 y] W (RetB (.bool (freeB ss x y)) W) := by
  obtain ⟨k1, k16, ⟨w1, w16⟩, _⟩ := shp_parts hs
  have hsz := fun (k : Nat) (s : ByteArray) (h : ss[k]? = some s) => (shp_row hs h).1
  obtain ⟨b0, o0, s0, rfl, hc0, hg0⟩ := ha.one (k := 0) (by omega)
  have c0 : W.cell? ⟨b0, o0, none⟩ = some (.string s0) := by simpa using hc0
  obtain ⟨n, hn⟩ : ∃ n, n = ss.length := ⟨_, rfl⟩
  obtain ⟨wd, hwd⟩ : ∃ wd, wd = s0.size := ⟨_, rfl⟩
  have hw := hsz 0 s0 hg0.out
  have HW := hide hw
  have HN := hide hn
  have HA := hide ha
  have HSZ := hide hsz
  have hs16 : s0.size ≤ 16 := by omega
  rw [← hn] at k1 k16 ⊢
  cases hy : inI y 0 ((n : Int) - 1)
  · have hfin : Hid (freeB ss x y = false) := hide (by unfold freeB onB; rw [← hn, hy]; rfl)
    have HY := hide hy
    clear hy ha hsz hn hw hg0 hc0
    go_enter Tryd.func104, Tryd.ntmps104
    go_wp2_with fail
    refine (inI_is HY.out _).mono ?_
    rintro e w1 ⟨rfl, hb1⟩
    have HB1 := hide hb1
    clear hb1
    go_wp2_with fail
    go_ret
    exact ⟨by rw [hfin.out]; rfl, HB1.out⟩
  · obtain ⟨y0, y1⟩ := inI_yes hy
    have HY := hide hy
    cases hx : inI x 0 ((s0.size : Int) - 1)
    · have hfin : Hid (freeB ss x y = false) := hide (by unfold freeB onB; rw [← hw, hx, Bool.and_false, Bool.false_and])
      have HX := hide hx
      clear hy hx ha hsz hn hw hg0 hc0
      go_enter Tryd.func104, Tryd.ntmps104
      go_wp2_with fail
      refine (inI_is HY.out _).mono ?_
      rintro e w1 ⟨rfl, hb1⟩
      have HB1 := hide hb1
      have c1 := cell_keep hb1 c0
      clear hb1
      go_wp2_with fail
      refine (inI_is HX.out _).mono ?_
      rintro e w2 ⟨rfl, hb2⟩
      have HB2 := hide (Below.trans' HB1.out hb2)
      clear hb2
      go_wp2_with fail
      go_ret
      exact ⟨by rw [hfin.out]; rfl, HB2.out⟩
    · obtain ⟨x0, x1⟩ := inI_yes hx
      have HX := hide hx
      obtain ⟨Y, rfl⟩ : ∃ Y : Nat, y = Y := ⟨y.toNat, by omega⟩
      obtain ⟨X, rfl⟩ : ∃ X : Nat, x = X := ⟨x.toNat, by omega⟩
      obtain ⟨b1, o1, s, e1, hc1, hg1⟩ := ha.one (k := Y) (by rw [← hn]; omega)
      simp only [Option.some.injEq, Addr.mk.injEq, and_true] at e1
      obtain ⟨rfl, rfl⟩ := e1
      have hss := hsz Y s hg1.out
      have hXs : X < s.size := by omega
      have hXs2 : (X : Int) < (s.size : Int) := by omega
      have hfin : Hid (freeB ss X Y = (s[X]'hXs != 35)) := hide (by
        have h8 : at8 ss (X : Int) (Y : Int) = s[X]'hXs := at8_get (k := 0) (by omega) (by simpa using hg1.out) (by simpa using hXs)
        unfold freeB onB
        rw [← hn, ← hw, hy, hx, h8]
        rfl)
      have h35 : (((s[X]'hXs).toNat : Int) != 35) = (s[X]'hXs != 35) := by
        have := (byte_tests (s[X]'hXs)).2.1
        rw [bne, bne, this]
        congr 1
      clear hy hx ha hsz hn hw hg0 hc0 hg1 hss
      go_enter Tryd.func104, Tryd.ntmps104
      go_wp2_with fail
      refine (inI_is HY.out _).mono ?_
      rintro e w1 ⟨rfl, hb1⟩
      have HB1 := hide hb1
      have c1 := cell_keep hb1 c0
      have c2 := cell_keep hb1 hc1
      clear hb1
      go_wp2_with fail
      refine (inI_is HX.out _).mono ?_
      rintro e w2 ⟨rfl, hb2⟩
      have HB2 := hide (Below.trans' HB1.out hb2)
      have c3 := cell_keep hb2 c2
      clear hb2
      go_wp2_with fail
      go_ret
      exact ⟨by rw [hfin.out]; rfl, HB2.out⟩

set_option maxRecDepth 100000 in
set_option maxHeartbeats 1000000 in
theorem isFree_any (a : Option Addr) (c : Nat) (ss : List ByteArray) (x y : Int) (W : World) (ha : StrsAt W a ss) (hs : shp ss = true) :
    Calls Tryd.prog 111 #[.slice a ss.length c, .int .i64 x, .int .i64 y] W (RetB (.bool (freeB ss x y)) W) := by
  obtain ⟨k1, k16, ⟨w1, w16⟩, _⟩ := shp_parts hs
  have hsz := fun (k : Nat) (s : ByteArray) (h : ss[k]? = some s) => (shp_row hs h).1
  obtain ⟨b0, o0, s0, rfl, hc0, hg0⟩ := ha.one (k := 0) (by omega)
  have c0 : W.cell? ⟨b0, o0, none⟩ = some (.string s0) := by simpa using hc0
  obtain ⟨n, hn⟩ : ∃ n, n = ss.length := ⟨_, rfl⟩
  have hw := hsz 0 s0 hg0.out
  have HW := hide hw
  have HN := hide hn
  have HA := hide ha
  have HSZ := hide hsz
  have hs16 : s0.size ≤ 16 := by omega
  rw [← hn] at k1 k16 ⊢
  cases hy : inI y 0 ((n : Int) - 1)
  · have hfin : Hid (freeB ss x y = false) := hide (by unfold freeB onB; rw [← hn, hy]; rfl)
    have HY := hide hy
    rw [← idxB_inI] at HY
    clear hy ha hsz hn hw hg0 hc0
    go_enter Tryd.func111, Tryd.ntmps111
    go_wp2_with fail
    refine (isIndex_is HY.out _).mono ?_
    rintro e w1 ⟨rfl, hb1⟩
    have HB1 := hide hb1
    clear hb1
    go_wp2_with fail
    go_ret
    exact ⟨by rw [hfin.out]; rfl, HB1.out⟩
  · obtain ⟨y0, y1⟩ := inI_yes hy
    have HY := hide hy
    rw [← idxB_inI] at HY
    cases hx : inI x 0 ((s0.size : Int) - 1)
    · have hfin : Hid (freeB ss x y = false) := hide (by unfold freeB onB; rw [← hw, hx, Bool.and_false, Bool.false_and])
      have HX := hide hx
      rw [← idxB_inI] at HX
      clear hy hx ha hsz hn hw hg0 hc0
      go_enter Tryd.func111, Tryd.ntmps111
      go_wp2_with fail
      refine (isIndex_is HY.out _).mono ?_
      rintro e w1 ⟨rfl, hb1⟩
      have HB1 := hide hb1
      have c1 := cell_keep hb1 c0
      clear hb1
      go_wp2_with fail
      refine (isIndex_is HX.out _).mono ?_
      rintro e w2 ⟨rfl, hb2⟩
      have HB2 := hide (Below.trans' HB1.out hb2)
      clear hb2
      go_wp2_with fail
      go_ret
      exact ⟨by rw [hfin.out]; rfl, HB2.out⟩
    · obtain ⟨x0, x1⟩ := inI_yes hx
      have HX := hide hx
      rw [← idxB_inI] at HX
      obtain ⟨Y, rfl⟩ : ∃ Y : Nat, y = Y := ⟨y.toNat, by omega⟩
      obtain ⟨X, rfl⟩ : ∃ X : Nat, x = X := ⟨x.toNat, by omega⟩
      obtain ⟨b1, o1, s, e1, hc1, hg1⟩ := ha.one (k := Y) (by rw [← hn]; omega)
      simp only [Option.some.injEq, Addr.mk.injEq, and_true] at e1
      obtain ⟨rfl, rfl⟩ := e1
      have hss := hsz Y s hg1.out
      have hXs : X < s.size := by omega
      have hXs2 : (X : Int) < (s.size : Int) := by omega
      have hfin : Hid (freeB ss X Y = (s[X]'hXs != 35)) := hide (by
        have h8 : at8 ss (X : Int) (Y : Int) = s[X]'hXs := at8_get (k := 0) (by omega) (by simpa using hg1.out) (by simpa using hXs)
        unfold freeB onB
        rw [← hn, ← hw, hy, hx, h8]
        rfl)
      have h35 : (((s[X]'hXs).toNat : Int) != 35) = (s[X]'hXs != 35) := by
        have := (byte_tests (s[X]'hXs)).2.1
        rw [bne, bne, this]
        congr 1
      clear hy hx ha hsz hn hw hg0 hc0 hg1 hss
      go_enter Tryd.func111, Tryd.ntmps111
      go_wp2_with fail
      refine (isIndex_is HY.out _).mono ?_
      rintro e w1 ⟨rfl, hb1⟩
      have HB1 := hide hb1
      have c1 := cell_keep hb1 c0
      have c2 := cell_keep hb1 hc1
      clear hb1
      go_wp2_with fail
      refine (isIndex_is HX.out _).mono ?_
      rintro e w2 ⟨rfl, hb2⟩
      have HB2 := hide (Below.trans' HB1.out hb2)
      have c3 := cell_keep hb2 c2
      clear hb2
      go_wp2_with fail
      go_ret
      exact ⟨by rw [hfin.out]; rfl, HB2.out⟩
theorem isFree_is {b : Bool} {a : Option Addr} {c : Nat} {ss : List ByteArray} {x y : Int} (h : freeB ss x y = b) {W : World} (ha : StrsAt W a ss) (hs : shp ss = true) :
    Calls Tryd.prog 111 #[.slice a ss.length c, .int .i64 x, .int .i64 y] W (RetB (.bool b) W) := by rw [← h]; exact isFree_any a c ss x y W ha hs
theorem l08Free_is {b : Bool} {a : Option Addr} {c : Nat} {ss : List ByteArray} {x y : Int} (h : freeB ss x y = b) {W : World} (ha : StrsAt W a ss) (hs : shp ss = true) :
    Calls Tryd.prog 104 #[.slice a ss.length c, .int .i64 x, .int .i64 y] W (RetB (.bool b) W) := by rw [← h]; exact l08Free_any a c ss x y W ha hs

/-- The box of a car that came in. -/
theorem carBox (W : World) (x y u v : Int) : ∃ W0, W0 = W.alloc (.cells #[.int .i64 x, .int .i64 y, .int .i64 u, .int .i64 v] 28) ∧ Below W.heap.size W W0 ∧ W0.heap[W.heap.size]? = some (.cells #[.int .i64 x, .int .i64 y, .int .i64 u, .int .i64 v] 28 (0, 0)) := ⟨_, rfl, below_alloc _ _, row_new _ _ _⟩

set_option maxRecDepth 100000 in
set_option maxHeartbeats 1000000 in
theorem hasCar_any (a : Option Addr) (c : Nat) (ss : List ByteArray) (x y u v : Int) (W : World) (ha : StrsAt W a ss) (hs : shp ss = true) :
    Calls Tryd.prog 109 #[.slice a ss.length c, .agg #[.int .i64 x, .int .i64 y, .int .i64 u, .int .i64 v]] W (RetB (.bool (okCr ss ⟨x, y, u, v⟩)) W) := by
  obtain ⟨W0, hW0, hb0, hr0⟩ := carBox W x y u v
  have HB0 := hide hb0
  have HA := hide (ha.keep hb0)
  have HR0 := hide hr0
  obtain ⟨c0, c1, c2, c3⟩ := row4 hr0
  clear ha hr0 hb0
  cases hf : freeB ss x y
  · have hfin : Hid (okCr ss ⟨x, y, u, v⟩ = false) := hide (by unfold okCr; rw [hf]; rfl)
    have HF := hide hf
    clear hf
    go_enter Tryd.func109, Tryd.ntmps109
    go_wp2_with fail
    rw [← hW0]
    clear hW0
    (try go_wp2_with fail)
    refine (isFree_is HF.out HA.out hs).mono ?_
    rintro e w1 ⟨rfl, hb1⟩
    have HB1 := hide (Below.trans' HB0.out hb1)
    clear hb1 c0 c1 c2 c3
    go_wp2_with fail
    go_ret
    exact ⟨by rw [hfin.out]; rfl, HB1.out⟩
  · cases hu : okSpeed u
    · have hfin : Hid (okCr ss ⟨x, y, u, v⟩ = false) := hide (by unfold okCr; rw [hu, Bool.false_and, Bool.and_false])
      have HF := hide hf
      have HU := hide hu
      clear hf hu
      go_enter Tryd.func109, Tryd.ntmps109
      go_wp2_with fail
      rw [← hW0]
      clear hW0
      (try go_wp2_with fail)
      refine (isFree_is HF.out HA.out hs).mono ?_
      rintro e w1 ⟨rfl, hb1⟩
      have HB1 := hide (Below.trans' HB0.out hb1)
      obtain ⟨d0, d1, d2, d3⟩ := row4 (box_keep HR0.out hb1)
      clear hb1 c0 c1 c2 c3
      go_wp2_with fail
      refine (isSpeed_is HU.out _).mono ?_
      rintro e w2 ⟨rfl, hb2⟩
      have HB2 := hide (Below.trans' HB1.out hb2)
      clear hb2 d0 d1 d2 d3
      go_wp2_with fail
      go_ret
      exact ⟨by rw [hfin.out]; rfl, HB2.out⟩
    · have hfin : Hid (okCr ss ⟨x, y, u, v⟩ = okSpeed v) := hide (by unfold okCr; rw [hf, hu]; rfl)
      have HF := hide hf
      have HU := hide hu
      obtain ⟨r, hr⟩ : ∃ r, r = okSpeed v := ⟨_, rfl⟩
      have HV := hide hr.symm
      rw [← hr] at hfin
      clear hf hu hr
      go_enter Tryd.func109, Tryd.ntmps109
      go_wp2_with fail
      rw [← hW0]
      clear hW0
      (try go_wp2_with fail)
      refine (isFree_is HF.out HA.out hs).mono ?_
      rintro e w1 ⟨rfl, hb1⟩
      have HB1 := hide (Below.trans' HB0.out hb1)
      have HR1 := hide (box_keep HR0.out hb1)
      obtain ⟨d0, d1, d2, d3⟩ := row4 HR1.out
      clear hb1 c0 c1 c2 c3
      go_wp2_with fail
      refine (isSpeed_is HU.out _).mono ?_
      rintro e w2 ⟨rfl, hb2⟩
      have HB2 := hide (Below.trans' HB1.out hb2)
      obtain ⟨e0, e1, e2, e3⟩ := row4 (box_keep HR1.out hb2)
      clear hb2 d0 d1 d2 d3
      go_wp2_with fail
      refine (isSpeed_is HV.out _).mono ?_
      rintro e w3 ⟨rfl, hb3⟩
      have HB3 := hide (Below.trans' HB2.out hb3)
      clear hb3 e0 e1 e2 e3
      go_wp2_with fail
      go_ret
      exact ⟨by rw [hfin.out]; rfl, HB3.out⟩

def Rg (n : Int) : Prop := -1000 ≤ n ∧ n ≤ 1000
set_option maxRecDepth 100000 in
set_option maxHeartbeats 1000000 in
theorem behind_any (x y u v mv : Int) (hx : Rg x) (hy : Rg y) (hu : Rg u) (hv : Rg v) (h0 : 0 ≤ mv) (h8 : mv ≤ 8) (W : World) :
    Calls Tryd.prog 68 #[.agg #[.int .i64 x, .int .i64 y, .int .i64 u, .int .i64 v], .int .i64 mv] W (RetB (crV ((⟨x, y, u, v⟩ : Cr).go mv)) W) := by
  obtain ⟨q, hq⟩ : ∃ q, q = mv / 3 := ⟨_, rfl⟩
  obtain ⟨r, hr⟩ : ∃ r, r = mv % 3 := ⟨_, rfl⟩
  have hq0 : 0 ≤ q ∧ q ≤ 2 := by omega
  have hr0 : 0 ≤ r ∧ r ≤ 2 := by omega
  have hqw : mv.tdiv 3 = q := by rw [hq]; exact Int.tdiv_eq_ediv_of_nonneg h0
  have hrw : mv.tmod 3 = r := by rw [hr]; exact Int.tmod_eq_emod_of_nonneg h0
  have hfin : Hid (crV ((⟨x, y, u, v⟩ : Cr).go mv) = .agg #[.int .i64 (x + (u + q - 1)), .int .i64 (y + (v + r - 1)), .int .i64 (u + q - 1), .int .i64 (v + r - 1)]) := hide (by
    unfold crV Cr.go Cr.nu Cr.nv
    rw [hq, hr])
  rw [hfin.out]
  obtain ⟨W0, hW0⟩ : ∃ W0, W0 = (W.alloc (.cells #[.int .i64 x, .int .i64 y, .int .i64 u, .int .i64 v] 28)).alloc (.cells #[.int .i64 0, .int .i64 0, .int .i64 0, .int .i64 0] 28) := ⟨_, rfl⟩
  have hs0 : W0.heap.size = W.heap.size + 2 := by rw [hW0]; simp
  have hB0 : Hid (Below W.heap.size W W0) := by rw [hW0]; exact hide ((below_alloc _ _).alloc (by simp) _)
  have ha0 : W0.heap[W.heap.size]? = some (.cells #[.int .i64 x, .int .i64 y, .int .i64 u, .int .i64 v] 28 (0, 0)) := by rw [hW0]; exact row_up _ (row_new _ _ _)
  have ha1 : W0.heap[W.heap.size + 1]? = some (.cells #[.int .i64 0, .int .i64 0, .int .i64 0, .int .i64 0] 28 (0, 0)) := by
    have := row_new (W.alloc (.cells #[.int .i64 x, .int .i64 y, .int .i64 u, .int .i64 v] 28)) #[.int .i64 0, .int .i64 0, .int .i64 0, .int .i64 0] 28
    rw [hW0]
    simpa using this
  have HA0 := hide ha0
  have HA1 := hide ha1
  obtain ⟨c0, c1, c2, c3⟩ := row4 ha0
  obtain ⟨hx0, hx1⟩ := hx
  obtain ⟨hy0, hy1⟩ := hy
  obtain ⟨hu0, hu1⟩ := hu
  obtain ⟨hv0, hv1⟩ := hv
  clear hq hr ha0 ha1 hs0
  go_enter Tryd.func68, Tryd.ntmps68
  go_wp2_with fail
  rw [← hW0]
  clear hW0
  (try go_wp2_with fail)
  go_quiet (fail)
  obtain ⟨W1, hW1⟩ : ∃ W1, W1 = W0.drewN nq := ⟨_, rfl⟩
  have hb01 : Below W0.heap.size W0 W1 := by rw [hW1]; exact Quiet.below (Quiet.drewN (Quiet.refl _) _)
  rw [← hW1]
  clear hW1 c0 c1 c2 c3
  obtain ⟨c0, c1, c2, c3⟩ := row4 (box_keep HA0.out hb01)
  have hr1 := box_keep HA1.out hb01
  have HB1 := hide (Below.trans' hB0.out hb01)
  have hst := st4_box (x + (u + q - 1)) (y + (v + r - 1)) (u + q - 1) (v + r - 1) hr1
  obtain ⟨f0, f1, f2, f3⟩ := froz4 hr1
  obtain ⟨d0, d1, d2, d3⟩ := row4 hr1
  obtain ⟨j0, j1, j2, j3⟩ := row4 hst
  have hB := hide (st4_below (x + (u + q - 1)) (y + (v + r - 1)) (u + q - 1) (v + r - 1) (b := W.heap.size + 1) HB1.out (by omega))
  have HJ := hide (And.intro j0 (And.intro j1 (And.intro j2 j3)))
  clear hst j0 j1 j2 j3 hb01 hr1
  go_wp2_with fail
  obtain ⟨j0, j1, j2, j3⟩ := HJ.out
  unfold st4 at j0 j1 j2 j3 hB
  exact bodyPost_ret (v := .agg #[.int .i64 (x + (u + q - 1)), .int .i64 (y + (v + r - 1)), .int .i64 (u + q - 1), .int .i64 (v + r - 1)]) (by simp [results, Tryd.results68, go_sem, j0, j1, j2, j3]) rfl ⟨rfl, hB.out⟩

theorem floor_adj {a b q r : Int} (hb : 0 < b) (hq : a.tdiv b = q) (hr : a.tmod b = r) : a / b = if r < 0 then q - 1 else q := by
  subst hq hr
  by_cases h : 0 ≤ a
  · rw [Int.tdiv_eq_ediv_of_nonneg h, Int.tmod_eq_emod_of_nonneg h, if_neg (by have := Int.emod_nonneg a (show b ≠ 0 by omega); omega)]
  · have h1 : a.tdiv b = -((-a) / b) := by
      have h2 := Int.neg_tdiv (-a) b
      rw [Int.neg_neg] at h2
      rw [h2, Int.tdiv_eq_ediv_of_nonneg (by omega)]
    have h2 : a.tmod b = -((-a) % b) := by
      have h3 := Int.neg_tmod (-a) b
      rw [Int.neg_neg] at h3
      rw [h3, Int.tmod_eq_emod_of_nonneg (by omega)]
    have h3 := Int.mul_ediv_add_emod (-a) b
    have h4 := Int.emod_nonneg (-a) (show b ≠ 0 by omega)
    have h5 := Int.emod_lt_of_pos (-a) hb
    rw [h1, h2]
    obtain ⟨k, hk⟩ : ∃ k, k = (-a) / b := ⟨_, rfl⟩
    obtain ⟨m, hm⟩ : ∃ m, m = (-a) % b := ⟨_, rfl⟩
    rw [← hk, ← hm] at h3 ⊢
    rw [← hm] at h4 h5
    by_cases h6 : m = 0
    · rw [if_neg (by omega)]
      have e : a = b * (-k) := by rw [Int.mul_neg]; omega
      rw [e, Int.mul_ediv_cancel_left _ (by omega)]
    · rw [if_pos (by omega)]
      have e : a = b * (-k - 1) + (b - m) := by rw [Int.mul_sub, Int.mul_neg, Int.mul_one]; omega
      rw [e, Int.add_comm, Int.add_mul_ediv_left _ _ (by omega), Int.ediv_eq_zero_of_lt (by omega) (by omega)]
      omega
set_option maxHeartbeats 1000000 in
theorem l08Floor_any (a b : Int) (hb : 0 < b) (hb1 : b ≤ 1000) (ha0 : -100000 ≤ a) (ha1 : a ≤ 100000) (W : World) :
    Calls Tryd.prog 105 #[.int .i64 a, .int .i64 b] W (RetB (.int .i64 (a / b)) W) := by
  obtain ⟨q, hq⟩ : ∃ q, a.tdiv b = q := ⟨_, rfl⟩
  obtain ⟨r, hr⟩ : ∃ r, a.tmod b = r := ⟨_, rfl⟩
  have hfl := hide (floor_adj hb hq hr)
  have hqr : -100000 ≤ q ∧ q ≤ 100000 := by
    have h1 := Int.natAbs_tdiv_le_natAbs a b
    rw [hq] at h1
    omega
  have hne : (b == 0) = false := by rw [beq_eq_false_iff_ne]; omega
  have hne' : ¬ b = 0 := by omega
  obtain ⟨q0, q1⟩ := hqr
  by_cases hn : r < 0
  · have hfin : Hid (a / b = q - 1) := hide (by rw [hfl.out, if_pos hn])
    have hrr : -1000 ≤ r := by
      have h1 := Int.natAbs_tmod a b
      rw [hr] at h1
      have h2 := Nat.mod_lt a.natAbs (show 0 < b.natAbs by omega)
      omega
    go_enter Tryd.func105, Tryd.ntmps105
    go_wp2
    go_ret
    exact ⟨by rw [hfin.out]; rfl, Below.refl _ _⟩
  · have hfin : Hid (a / b = q) := hide (by rw [hfl.out, if_neg hn])
    have hrr : r ≤ 1000 := by
      have h1 := Int.natAbs_tmod a b
      rw [hr] at h1
      have h2 := Nat.mod_lt a.natAbs (show 0 < b.natAbs by omega)
      omega
    go_enter Tryd.func105, Tryd.ntmps105
    go_wp2
    go_ret
    exact ⟨by rw [hfin.out]; rfl, Below.refl _ _⟩
set_option maxHeartbeats 1000000 in
theorem nearestTo_any (n m : Int) (hm : 0 < m) (hm1 : m ≤ 100) (h0 : -10000 ≤ n) (h1 : n ≤ 10000) (W : World) :
    Calls Tryd.prog 108 #[.int .i64 n, .int .i64 m] W (RetB (.int .i64 ((2 * n + m) / (2 * m))) W) := by
  obtain ⟨a, ha⟩ : ∃ a, 2 * n + m = a := ⟨_, rfl⟩
  obtain ⟨b, hb⟩ : ∃ b, 2 * m = b := ⟨_, rfl⟩
  have hb0 : 0 < b := by omega
  have hb1 : b ≤ 1000 := by omega
  have ha0 : -100000 ≤ a ∧ a ≤ 100000 := by omega
  obtain ⟨q, hq⟩ : ∃ q, a.tdiv b = q := ⟨_, rfl⟩
  obtain ⟨r, hr⟩ : ∃ r, a.tmod b = r := ⟨_, rfl⟩
  have hfl := hide (floor_adj hb0 hq hr)
  have hqr : -100000 ≤ q ∧ q ≤ 100000 := by
    have h1 := Int.natAbs_tdiv_le_natAbs a b
    rw [hq] at h1
    omega
  have hne : (b == 0) = false := by rw [beq_eq_false_iff_ne]; omega
  have hne' : ¬ b = 0 := by omega
  obtain ⟨q0, q1⟩ := hqr
  rw [ha, hb]
  by_cases hn : r < 0
  · have hfin : Hid (a / b = q - 1) := hide (by rw [hfl.out, if_pos hn])
    go_enter Tryd.func108, Tryd.ntmps108
    go_wp2
    go_ret
    exact ⟨by rw [hfin.out]; rfl, Below.refl _ _⟩
  · have hfin : Hid (a / b = q) := hide (by rw [hfl.out, if_neg hn])
    go_enter Tryd.func108, Tryd.ntmps108
    go_wp2
    go_ret
    exact ⟨by rw [hfin.out]; rfl, Below.refl _ _⟩
end Go.Proofs.YtmoekjgnichgnaaDoor
