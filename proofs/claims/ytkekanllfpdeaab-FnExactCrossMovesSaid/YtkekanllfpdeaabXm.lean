/-
  CrossMoves and CrossWinner: both texts.
-/
import Derived.Test.YtkekanllfpdeaabIn
namespace Go.Proofs.Ytkekanllfpdeaab
open Go.RowKit
set_option linter.unusedVariables false

def armB (z : Int) : Bool := decide (1 ≤ z) && decide (z ≤ 1000)
def armsB (zs : List Int) : Bool := decide (1 ≤ zs.length) && decide (zs.length ≤ 100) && zs.all armB
def sumL (zs : List Int) : Int := zs.foldl (· + ·) 0
theorem sumL_snoc {zs : List Int} {k : Nat} {z : Int} (h : zs[k]? = some z) : sumL (zs.take (k + 1)) = sumL (zs.take k) + z := by
  unfold sumL
  rw [List.take_add_one, h, List.foldl_append]
  rfl
theorem armsB_no {zs : List Int} {z : Int} (hz : z ∈ zs) (h : armB z = false) : armsB zs = false := by
  have : zs.all armB = false := by rw [List.all_eq_false]; exact ⟨z, hz, by simp [h]⟩
  simp [armsB, this]
theorem armsB_len {zs : List Int} (h : ¬ (1 ≤ zs.length ∧ zs.length ≤ 100)) : armsB zs = false := by
  rw [Bool.eq_false_iff]
  intro e
  simp [armsB] at e
  omega
def Good (zs : List Int) (k : Nat) : Prop := ∀ j z, j < k → zs[j]? = some z → armB z = true
theorem Good.succ {zs : List Int} {k : Nat} {z : Int} (h : Good zs k) (hz : zs[k]? = some z) (h0 : armB z = true) : Good zs (k + 1) := by
  intro j y hj hy
  by_cases e : j = k
  · subst e; rw [hz] at hy; cases hy; exact h0
  · exact h j y (by omega) hy
theorem armsB_yes {zs : List Int} (h1 : 1 ≤ zs.length) (h2 : zs.length ≤ 100) (h : Good zs zs.length) : armsB zs = true := by
  have : zs.all armB = true := by
    rw [List.all_eq_true]
    intro z hz
    obtain ⟨j, hj, rfl⟩ := List.getElem_of_mem hz
    exact h j _ hj (List.getElem?_eq_getElem hj)
  simp [armsB, h1, h2, this]
theorem armsB_get {zs : List Int} (h : armsB zs = true) : 1 ≤ zs.length ∧ zs.length ≤ 100 ∧ ∀ z ∈ zs, 1 ≤ z ∧ z ≤ 1000 := by
  simp [armsB, armB] at h
  exact ⟨h.1.1, h.1.2, h.2⟩
theorem armB_yes {z : Int} (h1 : 1 ≤ z) (h2 : z ≤ 1000) : armB z = true := by simp [armB, h1, h2]
theorem armB_no {z : Int} (h : ¬ (1 ≤ z ∧ z ≤ 1000)) : armB z = false := by
  rw [Bool.eq_false_iff]
  intro e
  simp [armB] at e
  exact h e
theorem sum_range : ∀ (zs : List Int) (s : Int), (∀ z ∈ zs, 1 ≤ z ∧ z ≤ 1000) → s + (zs.length : Int) ≤ zs.foldl (· + ·) s ∧ zs.foldl (· + ·) s ≤ s + 1000 * (zs.length : Int)
  | [], s, _ => by simp
  | z :: r, s, h => by
    have h1 := h z (by simp)
    have ih := sum_range r (s + z) (fun y hy => h y (by simp [hy]))
    simp only [List.foldl_cons, List.length_cons]
    omega
theorem cross_range {zs : List Int} (h : armsB zs = true) : 0 ≤ (zs.length : Int) - 2 + sumL zs ∧ (zs.length : Int) - 2 + sumL zs ≤ 1000000 := by
  obtain ⟨h1, h2, h3⟩ := armsB_get h
  have := sum_range zs 0 h3
  unfold sumL
  omega
def crossR (zs : List Int) : Int × Int := if armsB zs then ((zs.length : Int) - 2 + sumL zs, 0) else (0, 2)
def winR (zs : List Int) : Int × Int := if armsB zs then (1 - ((zs.length : Int) - 2 + sumL zs) % 2, 0) else (0, 2)
def PairI (r : Int × Int) (W : World) (e : Ending) (W' : World) : Prop := e = .returned (.tuple #[.int .i64 r.1, .int .i64 r.2]) ∧ Below W.heap.size W W'

set_option maxRecDepth 100000 in
set_option maxHeartbeats 1000000 in
theorem implCross_any (a : Option Addr) (c : Nat) (zs : List Int) (W : World) (ha : IntsAt W a zs) (hl : zs.length ≤ 1048576) :
    Calls Try.prog 20 #[.slice a zs.length c] W (PairI (crossR zs) W) := by
  obtain ⟨R, hR⟩ : ∃ R, R = crossR zs := ⟨_, rfl⟩
  have HR := hide hR
  rw [← hR]
  clear hR
  by_cases h1 : zs.length < 1
  · have hn : Hid (R = (0, 2)) := hide (by rw [HR.out]; unfold crossR; rw [armsB_len (by omega)]; rfl)
    have hz : zs.length = 0 := by omega
    have hd : decide (zs.length < 1) = true := decide_eq_true h1
    rw [hn.out]
    clear ha hz
    go_enter Try.func20, Try.ntmps20
    go_wp2_with fail
    go_ret2
    exact ⟨rfl, Below.refl _ _⟩
  by_cases h2 : 100 < zs.length
  · have hn : Hid (R = (0, 2)) := hide (by rw [HR.out]; unfold crossR; rw [armsB_len (by omega)]; rfl)
    rw [hn.out]
    clear ha
    go_enter Try.func20, Try.ntmps20
    go_wp2_with fail
    go_ret2
    exact ⟨rfl, Below.refl _ _⟩
  have HA := hide ha
  clear ha
  go_enter Try.func20, Try.ntmps20
  go_wp2_with fail
  go_loopw [4, 20] (fun m i wr => ∃ (k : Nat) (s : Int), m = .int .i64 ((zs.length : Int) - 2 + s) ∧ i = .int .i64 k ∧ k ≤ zs.length ∧ Hid (s = sumL (zs.take k)) ∧ (k : Int) ≤ s ∧ s ≤ 1000 * (k : Int) ∧ Hid (Good zs k) ∧ Below W.heap.size W wr) (fun _ i _ => zs.length - (intOf i).toNat)
  case atStart => exact ⟨0, 0, by congr 1; omega, rfl, Nat.zero_le _, hide rfl, by omega, by omega, hide (fun j z hj _ => by omega), Below.refl _ _⟩
  case round =>
    obtain ⟨k, s, rfl, rfl, hk, hS, hs0, hs1, hG, hB⟩ := hrel
    by_cases hlt : k < zs.length
    · obtain ⟨b1, o1, z, rfl, hc, hz⟩ := (HA.out.keep hB).one hlt
      by_cases hz1 : z < 1
      · have hn : Hid (R = (0, 2)) := hide (by rw [HR.out]; unfold crossR; rw [armsB_no (mem_of_get hz.out) (armB_no (by omega))]; rfl)
        rw [hn.out]
        go_wp2_with fail
        go_ret2
        exact ⟨rfl, hB⟩
      by_cases hz2 : 1000 < z
      · have hn : Hid (R = (0, 2)) := hide (by rw [HR.out]; unfold crossR; rw [armsB_no (mem_of_get hz.out) (armB_no (by omega))]; rfl)
        rw [hn.out]
        go_wp2_with fail
        go_ret2
        exact ⟨rfl, hB⟩
      have hG2 := hide (hG.out.succ hz.out (armB_yes (by omega) (by omega)))
      have hS2 : Hid (s + z = sumL (zs.take (k + 1))) := hide (by rw [sumL_snoc hz.out, hS.out])
      go_wp2_with fail
      go_roundw
      case rel => exact ⟨k + 1, s + z, by congr 1; omega, by go_num, by omega, hS2, by omega, by omega, hG2, hB⟩
      case measure => simp [intOf]; omega
    · obtain rfl : k = zs.length := by omega
      have hn : Hid (R = ((zs.length : Int) - 2 + s, 0)) := hide (by rw [HR.out]; unfold crossR; rw [if_pos (armsB_yes (by omega) (by omega) hG.out), hS.out, List.take_length])
      go_wp2_with fail
      go_ret2
      exact ⟨by rw [hn.out]; rfl, hB⟩

set_option maxRecDepth 100000 in
set_option maxHeartbeats 1000000 in
theorem implCrossWin_any (a : Option Addr) (c : Nat) (zs : List Int) (W : World) (ha : IntsAt W a zs) (hl : zs.length ≤ 1048576) :
    Calls Try.prog 23 #[.slice a zs.length c] W (PairI (winR zs) W) := by
  have HC := hide (implCross_any a c zs W ha hl)
  obtain ⟨R, hR⟩ : ∃ R, R = winR zs := ⟨_, rfl⟩
  have HR := hide hR
  rw [← hR]
  unfold crossR at HC
  cases hb : armsB zs
  · rw [hb] at HC
    have hn : Hid (R = (0, 2)) := hide (by rw [HR.out]; unfold winR; rw [hb]; rfl)
    rw [hn.out]
    clear hR hb
    go_enter Try.func23, Try.ntmps23
    go_wp2_with fail
    refine HC.out.mono ?_
    rintro e w1 ⟨rfl, hb1⟩
    go_wp2_with fail
    go_ret2
    exact ⟨rfl, hb1⟩
  · rw [hb] at HC
    obtain ⟨m, hm⟩ : ∃ m, m = (zs.length : Int) - 2 + sumL zs := ⟨_, rfl⟩
    have hn : Hid (R = (1 - m % 2, 0)) := hide (by rw [HR.out, hm]; unfold winR; rw [hb]; rfl)
    have hrg : 0 ≤ m ∧ m ≤ 1000000 := by rw [hm]; exact cross_range hb
    obtain ⟨m0, m1⟩ := hrg
    rw [if_pos rfl, ← hm] at HC
    rw [hn.out]
    clear hR hb hm
    go_enter Try.func23, Try.ntmps23
    go_wp2_with fail
    refine HC.out.mono ?_
    rintro e w1 ⟨rfl, hb1⟩
    go_wp2_with fail
    go_ret2
    exact ⟨rfl, hb1⟩

set_option maxRecDepth 100000 in
set_option maxHeartbeats 1000000 in
theorem l10Arms_any (a : Option Addr) (c : Nat) (zs : List Int) (W : World) (ha : IntsAt W a zs) (hl : zs.length ≤ 1048576) :
    Calls Try.prog 44 #[.slice a zs.length c] W (RetB (.int .i64 (if armsB zs then 0 else 2)) W) := by
  obtain ⟨R, hR⟩ : ∃ R : Int, R = if armsB zs then 0 else 2 := ⟨_, rfl⟩
  have HR := hide hR
  rw [← hR]
  clear hR
  by_cases h1 : zs.length < 1
  · have hn : Hid (R = 2) := hide (by rw [HR.out, armsB_len (by omega)]; rfl)
    have hd : decide (zs.length < 1) = true := decide_eq_true h1
    rw [hn.out]
    clear ha
    go_enter Try.func44, Try.ntmps44
    go_wp2_with fail
    go_ret
    exact ⟨rfl, Below.refl _ _⟩
  by_cases h2 : 100 < zs.length
  · have hn : Hid (R = 2) := hide (by rw [HR.out, armsB_len (by omega)]; rfl)
    rw [hn.out]
    clear ha
    go_enter Try.func44, Try.ntmps44
    go_wp2_with fail
    go_ret
    exact ⟨rfl, Below.refl _ _⟩
  have HA := hide ha
  clear ha
  go_enter Try.func44, Try.ntmps44
  go_wp2_with fail
  go_loopw [3] (fun i wr => ∃ (k : Nat), i = .int .i64 k ∧ k ≤ zs.length ∧ Hid (Good zs k) ∧ Below W.heap.size W wr) (fun i _ => zs.length - (intOf i).toNat)
  case atStart => exact ⟨0, rfl, Nat.zero_le _, hide (fun j z hj _ => by omega), Below.refl _ _⟩
  case round =>
    obtain ⟨k, rfl, hk, hG, hB⟩ := hrel
    by_cases hlt : k < zs.length
    · obtain ⟨b1, o1, z, rfl, hc, hz⟩ := (HA.out.keep hB).one hlt
      obtain ⟨i, hi⟩ : ∃ i, i = inn z 1 1000 := ⟨_, rfl⟩
      have HI := hide (fun V => inn_any z 1 1000 V)
      rw [← hi] at HI
      have Hi := hide hi.symm
      have HB := hide hB
      clear hi hB
      cases i
      · have hn : Hid (R = 2) := hide (by rw [HR.out, armsB_no (mem_of_get hz.out) (armB_no (inn_no Hi.out))]; rfl)
        rw [hn.out]
        go_wp2_with fail
        refine (HI.out _).mono ?_
        rintro e w1 ⟨rfl, hb1⟩
        have hB1 := hide (Below.trans' HB.out hb1)
        clear hb1 hc
        go_wp2_with fail
        go_ret
        exact ⟨rfl, hB1.out⟩
      · have hG2 := hide (hG.out.succ hz.out (armB_yes (inn_yes Hi.out).1 (inn_yes Hi.out).2))
        go_wp2_with fail
        refine (HI.out _).mono ?_
        rintro e w1 ⟨rfl, hb1⟩
        have hB1 := hide (Below.trans' HB.out hb1)
        clear hb1 hc
        go_wp2_with fail
        go_roundw
        case rel => exact ⟨k + 1, by go_num, by omega, hG2, hB1.out⟩
        case measure => simp [intOf]; omega
    · obtain rfl : k = zs.length := by omega
      have hn : Hid (R = 0) := hide (by rw [HR.out, armsB_yes (by omega) (by omega) hG.out]; rfl)
      go_wp2_with fail
      go_ret
      exact ⟨by rw [hn.out]; rfl, hB⟩

set_option maxRecDepth 100000 in
set_option maxHeartbeats 1000000 in
theorem l10Crosses_any (a : Option Addr) (c : Nat) (zs : List Int) (W : World) (ha : IntsAt W a zs) (hb : armsB zs = true) :
    Calls Try.prog 45 #[.slice a zs.length c] W (RetB (.int .i64 ((zs.length : Int) - 2 + sumL zs)) W) := by
  obtain ⟨h1, h2, h3⟩ := armsB_get hb
  obtain ⟨R, hR⟩ : ∃ R : Int, R = (zs.length : Int) - 2 + sumL zs := ⟨_, rfl⟩
  have HR := hide hR
  rw [← hR]
  have HA := hide ha
  have H3 := hide h3
  clear hR ha hb h3
  go_enter Try.func45, Try.ntmps45
  go_wp2_with fail
  go_loopw [3, 4] (fun m i wr => ∃ (k : Nat) (s : Int), m = .int .i64 ((zs.length : Int) - 2 + s) ∧ i = .int .i64 k ∧ k ≤ zs.length ∧ Hid (s = sumL (zs.take k)) ∧ (k : Int) ≤ s ∧ s ≤ 1000 * (k : Int) ∧ Below W.heap.size W wr) (fun _ i _ => zs.length - (intOf i).toNat)
  case atStart => exact ⟨0, 0, by congr 1; omega, rfl, Nat.zero_le _, hide rfl, by omega, by omega, Below.refl _ _⟩
  case round =>
    obtain ⟨k, s, rfl, rfl, hk, hS, hs0, hs1, hB⟩ := hrel
    by_cases hlt : k < zs.length
    · obtain ⟨b1, o1, z, rfl, hc, hz⟩ := (HA.out.keep hB).one hlt
      obtain ⟨z1, z2⟩ := H3.out z (mem_of_get hz.out)
      have hS2 : Hid (s + z = sumL (zs.take (k + 1))) := hide (by rw [sumL_snoc hz.out, hS.out])
      go_wp2_with fail
      go_roundw
      case rel => exact ⟨k + 1, s + z, by congr 1; omega, by go_num, by omega, hS2, by omega, by omega, hB⟩
      case measure => simp [intOf]; omega
    · obtain rfl : k = zs.length := by omega
      have hn : Hid (R = (zs.length : Int) - 2 + s) := hide (by rw [HR.out, hS.out, List.take_length])
      go_wp2_with fail
      go_ret
      exact ⟨by rw [hn.out]; rfl, hB⟩

set_option maxRecDepth 100000 in
set_option maxHeartbeats 1000000 in
theorem specCross_any (a : Option Addr) (c : Nat) (zs : List Int) (W : World) (ha : IntsAt W a zs) (hl : zs.length ≤ 1048576) :
    Calls Try.prog 18 #[.slice a zs.length c] W (PairI (crossR zs) W) := by
  have HC := hide (l10Arms_any a c zs W ha hl)
  obtain ⟨R, hR⟩ : ∃ R, R = crossR zs := ⟨_, rfl⟩
  have HR := hide hR
  have HA := hide ha
  rw [← hR]
  cases hb : armsB zs
  · rw [hb] at HC
    simp only [Bool.false_eq_true, if_false] at HC
    have hn : Hid (R = (0, 2)) := hide (by rw [HR.out]; unfold crossR; rw [hb]; rfl)
    rw [hn.out]
    clear hR hb ha
    go_enter Try.func18, Try.ntmps18
    go_wp2_with fail
    refine HC.out.mono ?_
    rintro e w1 ⟨rfl, hb1⟩
    go_wp2_with fail
    go_ret2
    exact ⟨rfl, hb1⟩
  · rw [hb] at HC
    simp only [if_true] at HC
    obtain ⟨m, hm⟩ : ∃ m, m = (zs.length : Int) - 2 + sumL zs := ⟨_, rfl⟩
    have hn : Hid (R = (m, 0)) := hide (by rw [HR.out, hm]; unfold crossR; rw [hb]; rfl)
    have hrg : 0 ≤ m ∧ m ≤ 1000000 := by rw [hm]; exact cross_range hb
    obtain ⟨m0, m1⟩ := hrg
    have HD : Hid (∀ V : World, IntsAt V a zs → Calls Try.prog 45 #[.slice a zs.length c] V (RetB (.int .i64 m) V)) := hide (fun V hv => by rw [hm]; exact l10Crosses_any a c zs V hv hb)
    rw [hn.out]
    clear hR hb hm ha
    go_enter Try.func18, Try.ntmps18
    go_wp2_with fail
    refine HC.out.mono ?_
    rintro e w1 ⟨rfl, hb1⟩
    have HB1 := hide hb1
    clear hb1
    go_wp2_with fail
    refine (HD.out _ (HA.out.keep HB1.out)).mono ?_
    rintro e w2 ⟨rfl, hb2⟩
    have HB2 := hide (Below.trans' HB1.out hb2)
    clear hb2
    go_wp2_with fail
    go_ret2
    exact ⟨rfl, HB2.out⟩

set_option maxRecDepth 100000 in
set_option maxHeartbeats 1000000 in
theorem specCrossWin_any (a : Option Addr) (c : Nat) (zs : List Int) (W : World) (ha : IntsAt W a zs) (hl : zs.length ≤ 1048576) :
    Calls Try.prog 22 #[.slice a zs.length c] W (PairI (winR zs) W) := by
  have HC := hide (l10Arms_any a c zs W ha hl)
  obtain ⟨R, hR⟩ : ∃ R, R = winR zs := ⟨_, rfl⟩
  have HR := hide hR
  have HA := hide ha
  rw [← hR]
  cases hb : armsB zs
  · rw [hb] at HC
    simp only [Bool.false_eq_true, if_false] at HC
    have hn : Hid (R = (0, 2)) := hide (by rw [HR.out]; unfold winR; rw [hb]; rfl)
    rw [hn.out]
    clear hR hb ha
    go_enter Try.func22, Try.ntmps22
    go_wp2_with fail
    refine HC.out.mono ?_
    rintro e w1 ⟨rfl, hb1⟩
    go_wp2_with fail
    go_ret2
    exact ⟨rfl, hb1⟩
  · rw [hb] at HC
    simp only [if_true] at HC
    obtain ⟨m, hm⟩ : ∃ m, m = (zs.length : Int) - 2 + sumL zs := ⟨_, rfl⟩
    have hn : Hid (R = (1 - m % 2, 0)) := hide (by rw [HR.out, hm]; unfold winR; rw [hb]; rfl)
    have hrg : 0 ≤ m ∧ m ≤ 1000000 := by rw [hm]; exact cross_range hb
    obtain ⟨m0, m1⟩ := hrg
    have HD : Hid (∀ V : World, IntsAt V a zs → Calls Try.prog 45 #[.slice a zs.length c] V (RetB (.int .i64 m) V)) := hide (fun V hv => by rw [hm]; exact l10Crosses_any a c zs V hv hb)
    rw [hn.out]
    clear hR hb hm ha
    go_enter Try.func22, Try.ntmps22
    go_wp2_with fail
    refine HC.out.mono ?_
    rintro e w1 ⟨rfl, hb1⟩
    have HB1 := hide hb1
    clear hb1
    go_wp2_with fail
    refine (HD.out _ (HA.out.keep HB1.out)).mono ?_
    rintro e w2 ⟨rfl, hb2⟩
    have HB2 := hide (Below.trans' HB1.out hb2)
    clear hb2
    go_wp2_with fail
    go_ret2
    exact ⟨rfl, HB2.out⟩
end Go.Proofs.Ytkekanllfpdeaab
