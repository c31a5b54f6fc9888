/-
  The first car.
-/
import Derived.Test.YtmoekjgnichgnaaDoorTj
import Derived.Test.YtmoekjgnichgnaaDoorTc
namespace Go.Proofs.YtmoekjgnichgnaaDoor
open Go.RowKit
set_option linter.unusedVariables false

theorem find_first {α : Type} {p : α → Bool} : ∀ {l : List α} {k : Nat} {x : α}, l[k]? = some x → p x = true → (∀ j y, j < k → l[j]? = some y → p y = false) → l.findIdx p = k
  | [], k, x, h, _, _ => by simp at h
  | a :: r, 0, x, h, hp, _ => by
    simp at h
    subst h
    rw [List.findIdx_cons, hp]
    rfl
  | a :: r, k + 1, x, h, hp, hno => by
    rw [List.findIdx_cons, hno 0 a (by omega) rfl]
    have := find_first (l := r) (k := k) (x := x) (by simpa using h) hp (fun j y hj hy => hno (j + 1) y (by omega) (by simpa using hy))
    simp [this]
/-- A track's start. -/
theorem start_at {ss : List ByteArray} (h : trk ss = true) : ∃ s, ss[sRow ss]? = some s ∧ s.data.toList[sCol ss]? = some 83 ∧ s.size ≤ 16 ∧ sRow ss < 16 ∧ sCol ss < 16 ∧ (∀ j z, j < sRow ss → ss[j]? = some z → (83 : UInt8) ∉ z.data.toList) ∧ (∀ j b, j < sCol ss → s.data.toList[j]? = some b → b ≠ 83) := by
  obtain ⟨_, hc, _⟩ := trk_parts h
  have hsh := trk_shp h
  obtain ⟨_, h16, _, _⟩ := shp_parts hsh
  have hm : (83 : UInt8) ∈ bts ss := List.count_pos_iff.1 (by omega)
  obtain ⟨s0, hs0, hb0⟩ := List.mem_flatMap.1 hm
  have hex : ∃ x ∈ ss, x.data.toList.contains 83 = true := ⟨s0, hs0, by rw [List.contains_iff_mem]; exact hb0⟩
  have hlt : sRow ss < ss.length := List.findIdx_lt_length_of_exists hex
  have hg : ss[sRow ss]? = some ss[sRow ss] := List.getElem?_eq_getElem hlt
  have hp : ss[sRow ss].data.toList.contains 83 = true := List.findIdx_getElem (w := hlt)
  have hgd : ss.getD (sRow ss) ByteArray.empty = ss[sRow ss] := by rw [List.getD_eq_getElem?_getD, hg]; rfl
  have hex2 : ∃ x ∈ ss[sRow ss].data.toList, (x == 83) = true := ⟨83, by rw [← List.contains_iff_mem]; exact hp, by simp⟩
  have hlt2 : sCol ss < ss[sRow ss].data.toList.length := by
    unfold sCol
    rw [hgd]
    exact List.findIdx_lt_length_of_exists hex2
  have hg2 := List.getElem?_eq_getElem hlt2
  have hp2 : (ss[sRow ss].data.toList[sCol ss] == 83) = true := by
    have : ∀ (w : (ss[sRow ss].data.toList).findIdx (fun b => b == 83) < ss[sRow ss].data.toList.length), (ss[sRow ss].data.toList[(ss[sRow ss].data.toList).findIdx (fun b => b == 83)] == 83) = true := fun w => List.findIdx_getElem (w := w)
    have e : sCol ss = (ss[sRow ss].data.toList).findIdx (fun b => b == 83) := by unfold sCol; rw [hgd]
    have h5 := this (by rw [← e]; exact hlt2)
    simpa only [e] using h5
  have hsz := shp_row hsh hg
  have hl2 : ss[sRow ss].data.toList.length = ss[sRow ss].size := rfl
  refine ⟨ss[sRow ss], hg, by rw [hg2]; simpa using hp2, hsz.2.2, by omega, by omega, fun j z hj hz hm => ?_, fun j b hj hb e => ?_⟩
  · have hjl := (List.getElem?_eq_some_iff.1 hz).1
    have := List.not_of_lt_findIdx (p := fun s : ByteArray => s.data.toList.contains 83) (xs := ss) hj
    obtain ⟨_, e⟩ := List.getElem?_eq_some_iff.1 hz
    rw [e] at this
    rw [List.contains_iff_mem.2 hm] at this
    cases this
  · have e2 : sCol ss = (ss[sRow ss].data.toList).findIdx (fun b => b == 83) := by unfold sCol; rw [hgd]
    rw [e2] at hj
    have := List.not_of_lt_findIdx (p := fun b : UInt8 => b == 83) hj
    obtain ⟨_, e3⟩ := List.getElem?_eq_some_iff.1 hb
    rw [e3, e] at this
    simp at this
theorem index_at {c : UInt8} : ∀ {l : List UInt8} {k : Nat}, l[k]? = some c → (∀ j b, j < k → l[j]? = some b → b ≠ c) → Lib.indexByte l c = k
  | [], k, h, _ => by simp at h
  | a :: r, 0, h, _ => by
    simp at h
    subst h
    simp [Lib.indexByte]
  | a :: r, k + 1, h, hno => by
    have ih := index_at (l := r) (k := k) (by simpa using h) (fun j b hj hb => hno (j + 1) b (by omega) (by simpa using hb))
    have ha : (a == c) = false := by
      have := hno 0 a (by omega) rfl
      simpa using this
    unfold Lib.indexByte
    rw [ha, ih]
    have : ((k : Int) == -1) = false := by rw [beq_eq_false_iff_ne]; omega
    rw [this]
    simp

/-- A car as a value. -/
def crV (c : Cr) : Value := .agg #[.int .i64 c.x, .int .i64 c.y, .int .i64 c.u, .int .i64 c.v]
set_option maxRecDepth 100000 in
set_option maxHeartbeats 4000000 in
theorem l08First_any (a : Option Addr) (c : Nat) (ss : List ByteArray) (W : World) (ha : StrsAt W a ss) (ht : trk ss = true) :
    Calls Tryd.prog 57 #[.slice a ss.length c] W (RetB (crV (fstC ss)) W) := by
  obtain ⟨s, hg, hb, hs16, hr16, hc16, hrow, hcol⟩ := start_at ht
  obtain ⟨_, h16, _, _⟩ := shp_parts (trk_shp ht)
  have hz := fun (k : Nat) (z : ByteArray) (hk : ss[k]? = some z) => (shp_row (trk_shp ht) hk).2.2
  obtain ⟨R, hR⟩ : ∃ R, R = sRow ss := ⟨_, rfl⟩
  obtain ⟨C, hC⟩ : ∃ C, C = sCol ss := ⟨_, rfl⟩
  have HF : Hid (crV (fstC ss) = .agg #[.int .i64 C, .int .i64 R, .int .i64 0, .int .i64 0]) := hide (by unfold crV fstC; rw [← hR, ← hC])
  rw [HF.out]
  rw [← hR] at hg hr16 hrow
  rw [← hC] at hb hc16 hcol
  obtain ⟨n, hn⟩ : ∃ n, n = ss.length := ⟨_, rfl⟩
  have hRn : R < n := by rw [hn]; exact (List.getElem?_eq_some_iff.1 hg).1
  have hCs : C < s.size := (List.getElem?_eq_some_iff.1 hb).1
  have HN := hide hn
  have HG := hide hg
  have HB := hide hb
  have HROW := hide hrow
  have HCOL := hide hcol
  have HZ := hide hz
  obtain ⟨W0, hW0⟩ : ∃ W0, W0 = W.alloc (.cells #[.int .i64 0, .int .i64 0, .int .i64 0, .int .i64 0] 28) := ⟨_, rfl⟩
  have hB0 : Hid (Below W.heap.size W W0) := by rw [hW0]; exact hide (below_alloc _ _)
  have hr0 : W0.heap[W.heap.size]? = some (.cells #[.int .i64 0, .int .i64 0, .int .i64 0, .int .i64 0] 28 (0, 0)) := by rw [hW0]; exact row_new _ _ _
  have HR0 := hide hr0
  have HA := hide (ha.keep hB0.out)
  rw [← hn] at h16 ⊢
  clear ha ht hg hb hrow hcol hz hn hR hC hr0
  go_enter Tryd.func57, Tryd.ntmps57
  go_wp2_with fail
  rw [← hW0]
  clear hW0
  go_loop [3] (fun v => ∃ y : Nat, v = .int .i64 y ∧ y ≤ R) (fun v => n - (intOf v).toNat)
  case atStart => exact ⟨0, rfl, Nat.zero_le _⟩
  case round =>
    obtain ⟨y, rfl, hy⟩ := hrel
    have hyn : y < n := by omega
    obtain ⟨b1, o1, z, rfl, hc1, hg1⟩ := HA.out.one (k := y) (by rw [← HN.out]; exact hyn)
    have hz16 := HZ.out y z hg1.out
    go_wp2_with fail
    go_loop [4] (fun v => ∃ x : Nat, v = .int .i64 x ∧ x ≤ z.size ∧ (y = R → x ≤ C)) (fun v => z.size - (intOf v).toNat)
    case atStart => exact ⟨0, rfl, Nat.zero_le _, fun _ => Nat.zero_le _⟩
    case round =>
      obtain ⟨x, rfl, hx, hxC⟩ := hrel
      have HXC := hide hxC
      clear hxC
      by_cases hxz : x < z.size
      · have hbt := byte_get hxz
        obtain ⟨_, _, q83, _⟩ := byte_tests (z[x]'hxz)
        have hzs : y = R → s.data.toList[x]? = some (z[x]'hxz) := fun e1 => by
          have h1 := hg1.out
          rw [e1, HG.out] at h1
          have hs : s = z := Option.some.inj h1
          rw [hs]
          exact hbt
        by_cases e : y = R ∧ x = C
        · obtain ⟨e1, e2⟩ := e
          have e83 : z[x]'hxz = 83 := by
            have h3 : s.data.toList[x]? = some 83 := by rw [e2]; exact HB.out
            exact Option.some.inj ((hzs e1).symm.trans h3)
          have E12 := hide (And.intro e1 e2)
          clear e1 e2
          rw [decide_eq_true e83] at q83
          have hst := st4_box (x : Int) (y : Int) 0 0 HR0.out
          obtain ⟨f0, f1, f2, f3⟩ := froz4 HR0.out
          obtain ⟨d0, d1, d2, d3⟩ := row4 HR0.out
          obtain ⟨j0, j1, j2, j3⟩ := row4 hst
          have hB := hide (st4_below (x : Int) (y : Int) 0 0 hB0.out (Nat.le_refl _))
          have HJ := hide (And.intro j0 (And.intro j1 (And.intro j2 j3)))
          clear hst hbt j0 j1 j2 j3
          clear e83 hzs
          go_wp2_with fail
          obtain ⟨j0, j1, j2, j3⟩ := HJ.out
          unfold st4 at j0 j1 j2 j3 hB
          refine bodyPost_ret (v := .agg #[.int .i64 x, .int .i64 y, .int .i64 0, .int .i64 0]) (by simp [results, Tryd.results57, go_sem, j0, j1, j2, j3]) rfl ⟨?_, hB.out⟩
          rw [E12.out.1, E12.out.2]
        · have ne83 : ¬ z[x]'hxz = 83 := fun e83 => by
            by_cases e1 : y = R
            · have h2 := HXC.out e1
              exact HCOL.out x _ (by omega) (hzs e1) e83
            · exact HROW.out y z (by omega) hg1.out (by rw [← e83]; exact List.mem_of_getElem? hbt)
          rw [decide_eq_false ne83] at q83
          have hnx : Hid (y = R → x + 1 ≤ C) := hide (fun h => by have := HXC.out h; omega)
          clear ne83 e hbt hzs
          go_wp2_with fail
          go_round
          case rel => exact ⟨x + 1, by go_num, by omega, hnx.out⟩
          case measure => simp [intOf]; omega
      · have hyR : y < R := by
          by_cases e1 : y = R
          · have h1 := hg1.out
            rw [e1, HG.out] at h1
            have h2 := Option.some.inj h1
            have h3 := HXC.out e1
            rw [h2] at hCs
            omega
          · omega
        go_wp2_with fail
        go_round
        case rel => exact ⟨y + 1, by go_num, by omega⟩
        case measure => simp [intOf]; omega

def hasS (s : ByteArray) : Bool := s.data.toList.contains 83
set_option maxHeartbeats 400000 in
theorem hasS_any (s : ByteArray) (W : World) : Calls Tryd.prog 103 #[.string s] W (RetB (.bool (hasS s)) W) := by
  have hcon : Hid (Calls Tryd.prog 56 #[.string s, .string ⟨#[83]⟩] W fun e w' => e = .returned (.bool (hasS s)) ∧ w' = W) := hide (by
    have h := Tryd.strings_Contains_one s 83 W
    have e : decide (0 ≤ Lib.indexByte s.data.toList 83) = hasS s := by
      unfold hasS
      rw [Bool.eq_iff_iff, decide_eq_true_eq, index_pos, List.contains_iff_mem]
    rw [e] at h
    exact h)
  go_enter Tryd.func103, Tryd.ntmps103
  go_wp2_with fail
  refine hcon.out.mono ?_
  rintro e w3 ⟨rfl, rfl⟩
  go_wp2_with fail
  go_ret
  exact ⟨rfl, Below.refl _ _⟩

set_option maxRecDepth 100000 in
set_option maxHeartbeats 1000000 in
theorem indexS_any (a : Option Addr) (c : Nat) (ss : List ByteArray) (W : World) (ha : StrsAt W a ss) (ht : trk ss = true) :
    Calls Tryd.prog 102 #[.slice a ss.length c, .func (.func 103) #[] #[]] W (RetB (.int .i64 (sRow ss)) W) := by
  obtain ⟨s, hg, hb, hs16, hr16, hc16, hrow, hcol⟩ := start_at ht
  obtain ⟨_, h16, _, _⟩ := shp_parts (trk_shp ht)
  obtain ⟨R, hR⟩ : ∃ R, R = sRow ss := ⟨_, rfl⟩
  rw [← hR] at hg hr16 hrow ⊢
  obtain ⟨n, hn⟩ : ∃ n, n = ss.length := ⟨_, rfl⟩
  have hRn : R < n := by rw [hn]; exact (List.getElem?_eq_some_iff.1 hg).1
  have HN := hide hn
  have HY : Hid (hasS s = true) := hide (by unfold hasS; rw [List.contains_iff_mem]; exact List.mem_of_getElem? hb)
  have HNO : Hid (∀ j z, j < R → ss[j]? = some z → hasS z = false) := hide (fun j z hj hz => by
    have := hrow j z hj hz
    unfold hasS
    cases h : z.data.toList.contains 83
    · rfl
    · exact absurd (List.contains_iff_mem.1 h) this)
  have HG := hide hg
  have HA := hide ha
  rw [← hn] at h16 ⊢
  clear ha ht hg hb hrow hcol hn hR
  go_enter Tryd.func102, Tryd.ntmps102
  go_wp2_with fail
  go_loopw [8] (fun v wr => ∃ y : Nat, v = .int .i64 y ∧ y ≤ R ∧ Hid (Below W.heap.size W wr)) (fun v _ => n - (intOf v).toNat)
  case atStart => exact ⟨0, rfl, Nat.zero_le _, hide (Below.refl _ _)⟩
  case round =>
    obtain ⟨y, rfl, hy, HB⟩ := hrel
    have hyn : y < n := by omega
    obtain ⟨b1, o1, z, rfl, hc1, hg1⟩ := (HA.out.keep HB.out).one (k := y) (by rw [← HN.out]; exact hyn)
    by_cases e : y = R
    · have hz : Hid (hasS z = true) := hide (by
        have h1 := hg1.out
        rw [e, HG.out] at h1
        rw [← Option.some.inj h1]
        exact HY.out)
      have E := hide e
      clear e
      go_wp2_with fail
      refine (hasS_any _ _).mono ?_
      rw [hz.out]
      rintro e w1 ⟨rfl, hb1⟩
      have HB1 := hide (Below.trans' HB.out hb1)
      clear hb1
      go_wp2_with fail
      go_ret
      exact ⟨by rw [← E.out]; rfl, HB1.out⟩
    · have hz : Hid (hasS z = false) := hide (HNO.out y z (by omega) hg1.out)
      go_wp2_with fail
      refine (hasS_any _ _).mono ?_
      rw [hz.out]
      rintro e w1 ⟨rfl, hb1⟩
      have HB1 := hide (Below.trans' HB.out hb1)
      clear hb1
      go_wp2_with fail
      go_roundw
      case rel => exact ⟨y + 1, by go_num, by omega, HB1⟩
      case measure => simp [intOf]; omega

set_option maxRecDepth 100000 in
set_option maxHeartbeats 1000000 in
theorem firstCar_any (a : Option Addr) (c : Nat) (ss : List ByteArray) (W : World) (ha : StrsAt W a ss) (ht : trk ss = true) :
    Calls Tryd.prog 58 #[.slice a ss.length c] W (RetB (crV (fstC ss)) W) := by
  obtain ⟨s, hg, hb, hs16, hr16, hc16, hrow, hcol⟩ := start_at ht
  obtain ⟨_, h16, _, _⟩ := shp_parts (trk_shp ht)
  obtain ⟨W0, hW0⟩ : ∃ W0, W0 = W.alloc (.cells #[.int .i64 0, .int .i64 0, .int .i64 0, .int .i64 0] 28) := ⟨_, rfl⟩
  have hB0 : Hid (Below W.heap.size W W0) := by rw [hW0]; exact hide (below_alloc _ _)
  have hr0 : W0.heap[W.heap.size]? = some (.cells #[.int .i64 0, .int .i64 0, .int .i64 0, .int .i64 0] 28 (0, 0)) := by rw [hW0]; exact row_new _ _ _
  have HR0 := hide hr0
  have HA := hide (ha.keep hB0.out)
  have HIX := hide (indexS_any a c ss W0 HA.out ht)
  obtain ⟨R, hR⟩ : ∃ R, R = sRow ss := ⟨_, rfl⟩
  obtain ⟨C, hC⟩ : ∃ C, C = sCol ss := ⟨_, rfl⟩
  have HF : Hid (crV (fstC ss) = .agg #[.int .i64 C, .int .i64 R, .int .i64 0, .int .i64 0]) := hide (by unfold crV fstC; rw [← hR, ← hC])
  rw [HF.out]
  rw [← hR] at hg hr16 HIX
  rw [← hC] at hb hc16 hcol
  have HI2 : Hid (∀ V : World, Calls Tryd.prog 101 #[.string s, .string ⟨#[83]⟩] V fun e w' => e = .returned (.int .i64 C) ∧ w' = V) := hide (fun V => by
    have h := Tryd.strings_Index_one s 83 V
    rw [index_at hb hcol] at h
    exact h)
  obtain ⟨n, hn⟩ : ∃ n, n = ss.length := ⟨_, rfl⟩
  have hRn : R < n := by rw [hn]; exact (List.getElem?_eq_some_iff.1 hg).1
  have HN := hide hn
  have HG := hide hg
  rw [← hn] at h16 HIX ⊢
  clear ha ht hg hb hrow hcol hn hR hC hr0
  go_enter Tryd.func58, Tryd.ntmps58
  go_wp2_with fail
  rw [← hW0]
  clear hW0
  (try go_wp2_with fail)
  refine HIX.out.mono ?_
  rintro e w1 ⟨rfl, hb1⟩
  have HB1 := hide (Below.trans' hB0.out hb1)
  obtain ⟨b1, o1, z, rfl, hc1, hg1⟩ := (HA.out.keep hb1).one (k := R) (by rw [← HN.out]; exact hRn)
  obtain rfl : s = z := by
    have h1 := hg1.out
    rw [HG.out] at h1
    exact Option.some.inj h1
  have hr1 := box_keep HR0.out hb1
  have hst := st4_box (C : Int) (R : Int) 0 0 hr1
  obtain ⟨f0, f1, f2, f3⟩ := froz4 hr1
  obtain ⟨d0, d1, d2, d3⟩ := row4 hr1
  obtain ⟨j0, j1, j2, j3⟩ := row4 hst
  have hB := hide (st4_below (C : Int) (R : Int) 0 0 HB1.out (Nat.le_refl _))
  have HJ := hide (And.intro j0 (And.intro j1 (And.intro j2 j3)))
  clear hst j0 j1 j2 j3 hb1 hg1 hr1
  go_wp2_with fail
  refine (HI2.out _).mono ?_
  rintro e w2 ⟨rfl, rfl⟩
  go_wp2_with fail
  obtain ⟨j0, j1, j2, j3⟩ := HJ.out
  unfold st4 at j0 j1 j2 j3 hB
  exact bodyPost_ret (v := .agg #[.int .i64 C, .int .i64 R, .int .i64 0, .int .i64 0]) (by simp [results, Tryd.results58, go_sem, j0, j1, j2, j3]) rfl ⟨rfl, hB.out⟩
end Go.Proofs.YtmoekjgnichgnaaDoor
