/-
  Boards of hexagons: the box of a board; IsHex, both texts.
-/
import Derived.Test.YtogfoahejgmfgaaHw
import Derived.Deep.LoopGhost
namespace Go.Proofs.Ytogfoahejgmfgaa
open Go.RowKit
set_option linter.unusedVariables false

/-- The box of a board, in whatever has come of its world. -/
def HexIn (W : World) (b : Nat) (n : Int) (a : Option Addr) (k c : Nat) : Prop := W.cell? ⟨b, 0, none⟩ = some (.int .i64 n) ∧ W.cell? ⟨b, 1, none⟩ = some (.slice a k c)
theorem hexIn_new (W : World) (n : Int) (a : Option Addr) (k c : Nat) (t : TypeId) : HexIn (W.alloc (.cells #[.int .i64 n, .slice a k c] t)) W.heap.size n a k c := by
  refine ⟨?_, ?_⟩ <;> simp [go_sem]
theorem HexIn.keep {W W' : World} {b : Nat} {n : Int} {a : Option Addr} {k c : Nat} (hx : HexIn W b n a k c) (hb : Below W.heap.size W W') : HexIn W' b n a k c := ⟨cell_keep hb hx.1, cell_keep hb hx.2⟩
theorem HexIn.below {B : Nat} {W W' : World} {b : Nat} {n : Int} {a : Option Addr} {k c : Nat} (hx : HexIn W b n a k c) (hb : Below B W W') (hB : b < B) : HexIn W' b n a k c := ⟨(hb.cell (p := ⟨b, 0, none⟩) hB).trans hx.1, (hb.cell (p := ⟨b, 1, none⟩) hB).trans hx.2⟩
theorem HexIn.past {W : World} {b : Nat} {n : Int} {a : Option Addr} {k c : Nat} (hx : HexIn W b n a k c) : (∀ p : Past W, p.to.cell? ⟨b, 0, none⟩ = some (.int .i64 n)) ∧ (∀ p : Past W, p.to.cell? ⟨b, 1, none⟩ = some (.slice a k c)) := ⟨fun p => p.cell hx.1, fun p => p.cell hx.2⟩
theorem HexIn.lt {W : World} {b : Nat} {n : Int} {a : Option Addr} {k c : Nat} (hx : HexIn W b n a k c) : b < W.heap.size := World.block_lt_of_cell? W _ hx.1

def inn (n lo hi : Int) : Bool := decide (lo ≤ n) && decide (n ≤ hi)
set_option maxHeartbeats 400000 in
theorem inn_any (n lo hi : Int) (W : World) : Calls Try.prog 44 #[.int .i64 n, .int .i64 lo, .int .i64 hi] W (RetB (.bool (inn n lo hi)) W) := by
  by_cases h1 : lo ≤ n
  · by_cases h2 : n ≤ hi
    · go_enter Try.func44, Try.ntmps44
      go_wp2
      go_ret
      exact ⟨ret_bool (by simp [inn, h1, h2]), Below.refl _ _⟩
    · go_enter Try.func44, Try.ntmps44
      go_wp2
      go_ret
      exact ⟨ret_bool (by simp [inn, h2]), Below.refl _ _⟩
  · go_enter Try.func44, Try.ntmps44
    go_wp2
    go_ret
    exact ⟨ret_bool (by simp [inn]; omega), Below.refl _ _⟩
theorem inn_is {b : Bool} (n lo hi : Int) (h : inn n lo hi = b) (W : World) : Calls Try.prog 44 #[.int .i64 n, .int .i64 lo, .int .i64 hi] W (RetB (.bool b) W) := by
  rw [← h]
  exact inn_any n lo hi W
theorem inn_yes {n lo hi : Int} (h : inn n lo hi = true) : lo ≤ n ∧ n ≤ hi := by simpa [inn] using h
theorem inn_no {n lo hi : Int} (h : inn n lo hi = false) : ¬ (lo ≤ n ∧ n ≤ hi) := by
  intro ⟨h1, h2⟩
  simp [inn, h1, h2] at h
theorem inn_mk {n lo hi : Int} (h1 : lo ≤ n) (h2 : n ≤ hi) : inn n lo hi = true := by simp [inn, h1, h2]

set_option maxHeartbeats 400000 in
theorem side_any (n : Int) (W : World) : Calls Try.prog 86 #[.int .i64 n] W (RetB (.bool (inn n 1 8)) W) := by
  by_cases h1 : 1 ≤ n
  · by_cases h2 : n ≤ 8
    · go_enter Try.func86, Try.ntmps86
      go_wp2
      go_ret
      exact ⟨ret_bool (by simp [inn, h1, h2]), Below.refl _ _⟩
    · go_enter Try.func86, Try.ntmps86
      go_wp2
      go_ret
      exact ⟨ret_bool (by simp [inn, h2]), Below.refl _ _⟩
  · go_enter Try.func86, Try.ntmps86
    go_wp2
    go_ret
    exact ⟨ret_bool (by simp [inn]; omega), Below.refl _ _⟩
theorem side_is {b : Bool} {n : Int} (h : inn n 1 8 = b) (W : World) : Calls Try.prog 86 #[.int .i64 n] W (RetB (.bool b) W) := by
  rw [← h]
  exact side_any n W
def plB (z : Int) : Bool := decide (z = 1) || decide (z = 2)
set_option maxHeartbeats 400000 in
theorem player_any (z : Int) (W : World) : Calls Try.prog 82 #[.int .i64 z] W (RetB (.bool (plB z)) W) := by
  by_cases h1 : z = 1
  · subst h1
    go_enter Try.func82, Try.ntmps82
    go_wp2
    go_ret
    exact ⟨rfl, Below.refl _ _⟩
  · by_cases h2 : z = 2
    · subst h2
      go_enter Try.func82, Try.ntmps82
      go_wp2
      go_ret
      exact ⟨rfl, Below.refl _ _⟩
    · have e1 : (z == 1) = false := by simp [h1]
      have e2 : (z == 2) = false := by simp [h2]
      have hf : Hid (plB z = false) := hide (by simp [plB, h1, h2])
      go_enter Try.func82, Try.ntmps82
      go_wp2
      go_ret
      exact ⟨ret_bool hf.out.symm, Below.refl _ _⟩
theorem player_is {b : Bool} {z : Int} (h : plB z = b) (W : World) : Calls Try.prog 82 #[.int .i64 z] W (RetB (.bool b) W) := by
  rw [← h]
  exact player_any z W

def c3 (z : Int) : Bool := decide (0 ≤ z) && decide (z ≤ 2)
theorem c3_inn (z : Int) : c3 z = inn z 0 2 := rfl
theorem okH_c3 (n : Int) (cs : List Int) : okH n cs = (inn n 1 8 && decide ((cs.length : Int) = n * n) && cs.all c3) := rfl
theorem okH_one {n : Int} {cs : List Int} (h : inn n 1 8 = false) : okH n cs = false := by rw [okH_c3, h]; rfl
theorem okH_two {n : Int} {cs : List Int} (h : ¬ (cs.length : Int) = n * n) : okH n cs = false := by rw [okH_c3, decide_eq_false h]; simp
theorem okH_rest {n : Int} {cs : List Int} (h : inn n 1 8 = true) (h2 : (cs.length : Int) = n * n) : okH n cs = cs.all c3 := by rw [okH_c3, h, decide_eq_true h2]; simp
theorem c3_of_pl {z : Int} (h : plB z = true) : c3 z = true := by
  simp only [plB, Bool.or_eq_true, decide_eq_true_eq] at h
  unfold c3
  rcases h with rfl | rfl <;> rfl
theorem c3_not {z : Int} (h0 : z ≠ 0) (h : plB z = false) : c3 z = false := by
  simp only [plB, Bool.or_eq_false_iff, decide_eq_false_iff_not] at h
  simp only [c3, Bool.and_eq_false_iff, decide_eq_false_iff_not]
  omega

set_option maxRecDepth 100000 in
set_option maxHeartbeats 2000000 in
theorem implIsX_any (n : Int) (a : Option Addr) (c : Nat) (cs : List Int) (W : World) (ha : IntsAt W a cs) (hl : cs.length ≤ 1048576) :
    Calls Try.prog 50 #[.agg #[.int .i64 n, .slice a cs.length c]] W (RetB (.bool (okH n cs)) W) := by
  obtain ⟨W0, hW0⟩ : ∃ W0, W0 = W.alloc (.cells #[.int .i64 n, .slice a cs.length c] 28) := ⟨_, rfl⟩
  have hB0 : Hid (Below W.heap.size W W0) := by rw [hW0]; exact hide (below_alloc _ _)
  have hX0 : Hid (HexIn W0 W.heap.size n a cs.length c) := by rw [hW0]; exact hide (hexIn_new _ _ _ _ _ _)
  have hA0 := hide (ha.keep hB0.out)
  obtain ⟨r, hr⟩ : ∃ r, r = okH n cs := ⟨_, rfl⟩
  rw [← hr]
  have HR := hide hr
  obtain ⟨c0, c1⟩ := hX0.out
  clear ha hr
  cases hs : inn n 1 8
  · have hf : Hid (r = false) := hide (by rw [HR.out, okH_one hs])
    have HS := hide hs
    clear hs
    go_enter Try.func50, Try.ntmps50
    go_wp2_with fail
    rw [← hW0]
    clear hW0
    refine (side_is HS.out _).mono ?_
    rintro e w1 ⟨rfl, hb1⟩
    have hB1 := hide (Below.trans' hB0.out hb1)
    clear hb1
    go_wp2_with fail
    go_ret
    exact ⟨by rw [hf.out]; rfl, hB1.out⟩
  · obtain ⟨n1, n8⟩ := inn_yes hs
    obtain ⟨q1, q2, q3⟩ := sq_nums n1 n8
    have hq : wrap64 (n * n) = n * n := by unfold wrap64; omega
    have HS := hide hs
    by_cases hk : (cs.length : Int) = n * n
    · have hf : Hid (r = cs.all c3) := hide (by rw [HR.out, okH_rest hs hk])
      have hd : ((cs.length : Int) != n * n) = false := by simp [hk]
      clear hs
      go_enter Try.func50, Try.ntmps50
      go_wp2_with fail
      rw [← hW0]
      clear hW0
      refine (side_is HS.out _).mono ?_
      rintro e w1 ⟨rfl, hb1⟩
      have hB1 := hide (Below.trans' hB0.out hb1)
      have hX1 := hide (hX0.out.keep hb1)
      have hA1 := hide (hA0.out.keep hb1)
      clear hb1 c0 c1
      obtain ⟨c0, c1⟩ := hX1.out
      go_wp2_with fail
      go_loopw [23] (fun i wr => ∃ k : Nat, k ≤ cs.length ∧ i = .int .i64 k ∧ Hid ((cs.drop k).all c3 = r) ∧ Below w1.heap.size w1 wr) (fun i _ => cs.length - (intOf i).toNat)
      case atStart => exact ⟨0, Nat.zero_le _, rfl, by rw [List.drop_zero]; exact hf.out.symm, Below.refl _ _⟩
      case round =>
        obtain ⟨k, hkl, rfl, hS, hB⟩ := hrel
        by_cases hlt : k < cs.length
        · obtain ⟨b, off, z, rfl, hcell, hz⟩ := (hA1.out.keep hB).one hlt
          have hD : Hid ((z :: cs.drop (k + 1)).all c3 = r) := hide (by rw [← drop_of_get hz.out]; exact hS.out)
          have HB := hide hB
          clear hS hB hz
          by_cases h0 : z = 0
          · subst h0
            have hn : Hid ((cs.drop (k + 1)).all c3 = r) := hide (by rw [← hD.out, List.all_cons]; rfl)
            go_wp2_with fail
            go_roundw
            case rel => exact ⟨k + 1, by omega, by go_num, hn.out, HB.out⟩
            case measure => simp [intOf]; omega
          · have e0 : (z != 0) = true := by simp [h0]
            cases hp : plB z
            · have hn : Hid (r = false) := hide (by rw [← hD.out, List.all_cons, c3_not h0 hp]; rfl)
              have HP := hide hp
              clear hp
              go_wp2_with fail
              refine (player_is HP.out _).mono ?_
              rintro e w2 ⟨rfl, hb2⟩
              have hB2 := hide (Below.trans' hB1.out (Below.trans' HB.out hb2))
              clear hb2
              go_wp2_with fail
              go_ret
              exact ⟨by rw [hn.out]; rfl, hB2.out⟩
            · have hn : Hid ((cs.drop (k + 1)).all c3 = r) := hide (by rw [← hD.out, List.all_cons, c3_of_pl hp]; rfl)
              have HP := hide hp
              clear hp
              go_wp2_with fail
              refine (player_is HP.out _).mono ?_
              rintro e w2 ⟨rfl, hb2⟩
              have hB2 := hide (Below.trans' HB.out hb2)
              clear hb2
              go_wp2_with fail
              go_roundw
              case rel => exact ⟨k + 1, by omega, by go_num, hn.out, hB2.out⟩
              case measure => simp [intOf]; omega
        · have hn : Hid (r = true) := hide (by rw [← hS.out, List.drop_eq_nil_of_le (by omega)]; rfl)
          have HB := hide hB
          clear hS hB
          go_wp2_with fail
          go_ret
          exact ⟨by rw [hn.out]; rfl, Below.trans' hB1.out HB.out⟩
    · have hf : Hid (r = false) := hide (by rw [HR.out, okH_two hk])
      have hd : ((cs.length : Int) != n * n) = true := by simp [hk]
      clear hs
      go_enter Try.func50, Try.ntmps50
      go_wp2_with fail
      rw [← hW0]
      clear hW0
      refine (side_is HS.out _).mono ?_
      rintro e w1 ⟨rfl, hb1⟩
      have hB1 := hide (Below.trans' hB0.out hb1)
      have hX1 := hide (hX0.out.keep hb1)
      clear hb1 c0 c1
      obtain ⟨c0, c1⟩ := hX1.out
      go_wp2_with fail
      go_ret
      exact ⟨by rw [hf.out]; rfl, hB1.out⟩
theorem implIsX_is {b : Bool} {n : Int} {a : Option Addr} {c : Nat} {cs : List Int} (h : okH n cs = b) {W : World} (ha : IntsAt W a cs) (hl : cs.length ≤ 1048576) :
    Calls Try.prog 50 #[.agg #[.int .i64 n, .slice a cs.length c]] W (RetB (.bool b) W) := by rw [← h]; exact implIsX_any n a c cs W ha hl

set_option maxRecDepth 100000 in
set_option maxHeartbeats 2000000 in
theorem specIsX_any (n : Int) (a : Option Addr) (c : Nat) (cs : List Int) (W : World) (ha : IntsAt W a cs) (hl : cs.length ≤ 1048576) :
    Calls Try.prog 43 #[.agg #[.int .i64 n, .slice a cs.length c]] W (RetB (.bool (okH n cs)) W) := by
  obtain ⟨W0, hW0⟩ : ∃ W0, W0 = W.alloc (.cells #[.int .i64 n, .slice a cs.length c] 28) := ⟨_, rfl⟩
  have hB0 : Hid (Below W.heap.size W W0) := by rw [hW0]; exact hide (below_alloc _ _)
  have hX0 : Hid (HexIn W0 W.heap.size n a cs.length c) := by rw [hW0]; exact hide (hexIn_new _ _ _ _ _ _)
  have hA0 := hide (ha.keep hB0.out)
  obtain ⟨r, hr⟩ : ∃ r, r = okH n cs := ⟨_, rfl⟩
  rw [← hr]
  have HR := hide hr
  obtain ⟨c0, c1⟩ := hX0.out
  clear ha hr
  cases hs : inn n 1 8
  · have hf : Hid (r = false) := hide (by rw [HR.out, okH_one hs])
    have HS := hide hs
    clear hs
    go_enter Try.func43, Try.ntmps43
    go_wp2_with fail
    rw [← hW0]
    clear hW0
    refine (inn_is _ _ _ HS.out _).mono ?_
    rintro e w1 ⟨rfl, hb1⟩
    have hB1 := hide (Below.trans' hB0.out hb1)
    clear hb1
    go_wp2_with fail
    go_ret
    exact ⟨by rw [hf.out]; rfl, hB1.out⟩
  · obtain ⟨n1, n8⟩ := inn_yes hs
    obtain ⟨q1, q2, q3⟩ := sq_nums n1 n8
    have hq : wrap64 (n * n) = n * n := by unfold wrap64; omega
    have HS := hide hs
    by_cases hk : (cs.length : Int) = n * n
    · have hf : Hid (r = cs.all c3) := hide (by rw [HR.out, okH_rest hs hk])
      have hd : ((cs.length : Int) != n * n) = false := by simp [hk]
      clear hs
      go_enter Try.func43, Try.ntmps43
      go_wp2_with fail
      rw [← hW0]
      clear hW0
      refine (inn_is _ _ _ HS.out _).mono ?_
      rintro e w1 ⟨rfl, hb1⟩
      have hB1 := hide (Below.trans' hB0.out hb1)
      have hX1 := hide (hX0.out.keep hb1)
      have hA1 := hide (hA0.out.keep hb1)
      clear hb1 c0 c1
      obtain ⟨c0, c1⟩ := hX1.out
      go_wp2_with fail
      clear c0 c1
      go_loopw [3] (fun i wr => ∃ k : Nat, k ≤ cs.length ∧ i = .int .i64 k ∧ Hid ((cs.drop k).all c3 = r) ∧ Below w1.heap.size w1 wr) (fun i _ => cs.length - (intOf i).toNat)
      case atStart => exact ⟨0, Nat.zero_le _, rfl, by rw [List.drop_zero]; exact hf.out.symm, Below.refl _ _⟩
      case round =>
        obtain ⟨k, hkl, rfl, hS, hB⟩ := hrel
        obtain ⟨c0, c1⟩ := hX1.out.keep hB
        by_cases hlt : k < cs.length
        · obtain ⟨b, off, z, rfl, hcell, hz⟩ := (hA1.out.keep hB).one hlt
          have hD : Hid ((z :: cs.drop (k + 1)).all c3 = r) := hide (by rw [← drop_of_get hz.out]; exact hS.out)
          have HB := hide hB
          clear hS hB hz
          cases hp : inn z 0 2
          · have hn : Hid (r = false) := hide (by rw [← hD.out, List.all_cons, c3_inn, hp]; rfl)
            have HP := hide hp
            clear hp
            go_wp2_with fail
            refine (inn_is _ _ _ HP.out _).mono ?_
            rintro e w2 ⟨rfl, hb2⟩
            have hB2 := hide (Below.trans' hB1.out (Below.trans' HB.out hb2))
            clear hb2
            go_wp2_with fail
            go_ret
            exact ⟨by rw [hn.out]; rfl, hB2.out⟩
          · have hn : Hid ((cs.drop (k + 1)).all c3 = r) := hide (by rw [← hD.out, List.all_cons, c3_inn, hp]; rfl)
            have HP := hide hp
            clear hp
            go_wp2_with fail
            refine (inn_is _ _ _ HP.out _).mono ?_
            rintro e w2 ⟨rfl, hb2⟩
            have hB2 := hide (Below.trans' HB.out hb2)
            clear hb2
            go_wp2_with fail
            go_roundw
            case rel => exact ⟨k + 1, by omega, by go_num, hn.out, hB2.out⟩
            case measure => simp [intOf]; omega
        · have hn : Hid (r = true) := hide (by rw [← hS.out, List.drop_eq_nil_of_le (by omega)]; rfl)
          have HB := hide hB
          clear hS hB
          go_wp2_with fail
          go_ret
          exact ⟨by rw [hn.out]; rfl, Below.trans' hB1.out HB.out⟩
    · have hf : Hid (r = false) := hide (by rw [HR.out, okH_two hk])
      have hd : ((cs.length : Int) != n * n) = true := by simp [hk]
      clear hs
      go_enter Try.func43, Try.ntmps43
      go_wp2_with fail
      rw [← hW0]
      clear hW0
      refine (inn_is _ _ _ HS.out _).mono ?_
      rintro e w1 ⟨rfl, hb1⟩
      have hB1 := hide (Below.trans' hB0.out hb1)
      have hX1 := hide (hX0.out.keep hb1)
      clear hb1 c0 c1
      obtain ⟨c0, c1⟩ := hX1.out
      go_wp2_with fail
      go_ret
      exact ⟨by rw [hf.out]; rfl, hB1.out⟩
theorem specIsX_is {b : Bool} {n : Int} {a : Option Addr} {c : Nat} {cs : List Int} (h : okH n cs = b) {W : World} (ha : IntsAt W a cs) (hl : cs.length ≤ 1048576) :
    Calls Try.prog 43 #[.agg #[.int .i64 n, .slice a cs.length c]] W (RetB (.bool b) W) := by rw [← h]; exact specIsX_any n a c cs W ha hl
end Go.Proofs.Ytogfoahejgmfgaa
