/-
  DriveRoute, plain; lists of moves.
-/
import Derived.Test.YtmoekjgnichgnaaDoorOs
namespace Go.Proofs.YtmoekjgnichgnaaDoor
open Go.RowKit
set_option linter.unusedVariables false

def drv (ss : List ByteArray) : Cr → List Int → Cr × Int
  | c, [] => (c, 0)
  | c, m :: r => if opn ss c m = true then drv ss (c.go m) r else (Cr.zero, 5)
def mvsOk (ms : List Int) : Bool := decide (ms.length ≤ 20) && ms.all fun m => inI m 0 8
def drR (ss : List ByteArray) (ms : List Int) : Cr × Int := if trk ss = true then (if mvsOk ms = true then drv ss (fstC ss) ms else (Cr.zero, 2)) else (Cr.zero, 1)
theorem mvsOk_parts {ms : List Int} (h : mvsOk ms = true) : ms.length ≤ 20 ∧ ∀ m ∈ ms, 0 ≤ m ∧ m ≤ 8 := by
  unfold mvsOk at h
  simp only [Bool.and_eq_true, decide_eq_true_eq, List.all_eq_true] at h
  exact ⟨h.1, fun m hm => inI_yes (h.2 m hm)⟩
theorem opn_okCr {ss : List ByteArray} {c : Cr} {m : Int} (h : opn ss c m = true) : okCr ss (c.go m) = true := by
  unfold opn at h
  rw [Bool.and_eq_true] at h
  exact h.1
theorem okCr_first {ss : List ByteArray} (h : trk ss = true) : okCr ss (fstC ss) = true := by
  obtain ⟨s, hg, hb, hs16, hr16, hc16, _, _⟩ := start_at h
  have hsh := trk_shp h
  obtain ⟨h1, h16, hw, hall⟩ := shp_parts hsh
  have hz := hall s (List.mem_of_getElem? hg)
  have hr : sRow ss < ss.length := (List.getElem?_eq_some_iff.1 hg).1
  have hc : sCol ss < s.data.toList.length := (List.getElem?_eq_some_iff.1 hb).1
  have hc2 : sCol ss < s.size := by rw [show s.size = s.data.toList.length from rfl]; exact hc
  have hgd : ss.getD (sRow ss) ByteArray.empty = s := by rw [List.getD_eq_getElem?_getD, hg]; rfl
  have hbd : s.data.toList.getD (sCol ss) 0 = 83 := by rw [List.getD_eq_getElem?_getD, hb]; rfl
  unfold okCr freeB onB at8 byte fstC inI
  simp only [Int.toNat_natCast, hgd, hbd]
  simp
  exact ⟨⟨by omega, by omega⟩, rfl⟩

set_option maxHeartbeats 1000000 in
theorem notMove_any (mv : Int) (W : World) : Calls Tryd.prog 118 #[.int .i64 mv] W (RetB (.bool (!inI mv 0 8)) W) := by
  obtain ⟨b, hb⟩ : ∃ b, b = inI mv 0 8 := ⟨_, rfl⟩
  have HIX : Hid (idxB mv 9 = b) := hide (by rw [idxB_inI, hb]; rfl)
  rw [← hb]
  clear hb
  go_enter Tryd.func118, Tryd.ntmps118
  go_wp2_with fail
  refine (isIndex_is HIX.out _).mono ?_
  rintro e w2 ⟨rfl, hb2⟩
  have HB2 := hide hb2
  clear hb2
  cases b
  · go_wp2_with fail
    go_ret
    exact ⟨rfl, HB2.out⟩
  · go_wp2_with fail
    go_ret
    exact ⟨rfl, HB2.out⟩

set_option maxRecDepth 100000 in
set_option maxHeartbeats 1000000 in
theorem indexM_any (a : Option Addr) (c : Nat) (ms : List Int) (W : World) (ha : IntsAt W a ms) (hl : ms.length ≤ 20) :
    Calls Tryd.prog 132 #[.slice a ms.length c, .func (.func 118) #[] #[]] W fun e w' => ∃ i : Int, e = .returned (.int .i64 i) ∧ decide (0 ≤ i) = (!ms.all fun m => inI m 0 8) ∧ Below W.heap.size W w' := by
  have HA := hide ha
  obtain ⟨n, hn⟩ : ∃ n, n = ms.length := ⟨_, rfl⟩
  have HN := hide hn
  rw [← hn] at hl ⊢
  clear ha hn
  go_enter Tryd.func132, Tryd.ntmps132
  go_wp2_with fail
  go_loopw [8] (fun v wr => ∃ y : Nat, v = .int .i64 y ∧ y ≤ n ∧ Hid (((ms.take y).all fun m => inI m 0 8) = true) ∧ Hid (Below W.heap.size W wr)) (fun v _ => n - (intOf v).toNat)
  case atStart => exact ⟨0, rfl, Nat.zero_le _, hide rfl, hide (Below.refl _ _)⟩
  case round =>
    obtain ⟨y, rfl, hy, hall, HB⟩ := hrel
    by_cases hyn : y < n
    · obtain ⟨b1, o1, z, rfl, hc1, hg1⟩ := (HA.out.keep HB.out).one (k := y) (by rw [← HN.out]; exact hyn)
      have htk : Hid (ms.take (y + 1) = ms.take y ++ [z]) := hide (by rw [List.take_add_one, hg1.out]; rfl)
      cases hz : inI z 0 8
      · have hno : Hid ((ms.all fun m => inI m 0 8) = false) := hide (by
          rw [List.all_eq_false]
          exact ⟨z, List.mem_of_getElem? hg1.out, by rw [hz]; simp⟩)
        have HC := hide (notMove_any z)
        rw [hz] at HC
        clear hz
        go_wp2_with fail
        refine (HC.out _).mono ?_
        rintro e w1 ⟨rfl, hb1⟩
        have HB1 := hide (Below.trans' HB.out hb1)
        clear hb1
        go_wp2_with fail
        go_ret
        exact ⟨_, rfl, by rw [hno.out]; simp, HB1.out⟩
      · have hnx : Hid (((ms.take (y + 1)).all fun m => inI m 0 8) = true) := hide (by rw [htk.out, List.all_append, hall.out]; simp [hz])
        have HC := hide (notMove_any z)
        rw [hz] at HC
        clear hz
        go_wp2_with fail
        refine (HC.out _).mono ?_
        rintro e w1 ⟨rfl, hb1⟩
        have HB1 := hide (Below.trans' HB.out hb1)
        clear hb1
        go_wp2_with fail
        go_roundw
        case rel => exact ⟨y + 1, by go_num, by omega, hnx, HB1⟩
        case measure => simp [intOf]; omega
    · have hfin : Hid ((ms.all fun m => inI m 0 8) = true) := hide (by
        have h := hall.out
        rw [List.take_of_length_le (by rw [← HN.out]; omega)] at h
        exact h)
      go_wp2_with fail
      go_ret
      exact ⟨_, rfl, by rw [hfin.out]; rfl, HB.out⟩

set_option maxRecDepth 100000 in
set_option maxHeartbeats 1000000 in
theorem containsM_any (a : Option Addr) (c : Nat) (ms : List Int) (W : World) (ha : IntsAt W a ms) (hl : ms.length ≤ 20) :
    Calls Tryd.prog 117 #[.slice a ms.length c, .func (.func 118) #[] #[]] W (RetB (.bool (!ms.all fun m => inI m 0 8)) W) := by
  have HC := hide (indexM_any a c ms W ha hl)
  clear ha
  go_enter Tryd.func117, Tryd.ntmps117
  go_wp2_with fail
  refine HC.out.mono ?_
  rintro e w1 ⟨i, rfl, hi, hb1⟩
  have HI := hide hi
  have HB := hide hb1
  clear hi hb1
  by_cases h0 : 0 ≤ i
  · have H0 : Hid ((!ms.all fun m => inI m 0 8) = true) := hide (by rw [← HI.out]; exact decide_eq_true h0)
    go_wp2_with fail
    go_ret
    first | exact ⟨ret_bool H0.out.symm, HB.out⟩ | exact ⟨ret_bool HI.out, HB.out⟩
  · have H0 : Hid ((!ms.all fun m => inI m 0 8) = false) := hide (by rw [← HI.out]; exact decide_eq_false h0)
    go_wp2_with fail
    go_ret
    first | exact ⟨ret_bool H0.out.symm, HB.out⟩ | exact ⟨ret_bool HI.out, HB.out⟩

set_option maxRecDepth 100000 in
set_option maxHeartbeats 1000000 in
theorem areMoves_any (a : Option Addr) (c : Nat) (ms : List Int) (W : World) (ha : IntsAt W a ms) (hl : ms.length ≤ 1048576) :
    Calls Tryd.prog 78 #[.slice a ms.length c] W (RetB (.bool (mvsOk ms)) W) := by
  by_cases h20 : ms.length ≤ 20
  · have HC := hide (containsM_any a c ms W ha h20)
    have hfin : Hid (mvsOk ms = ms.all fun m => inI m 0 8) := hide (by unfold mvsOk; rw [decide_eq_true h20, Bool.true_and])
    rw [hfin.out]
    obtain ⟨b, hb⟩ : ∃ b, b = ms.all fun m => inI m 0 8 := ⟨_, rfl⟩
    rw [← hb] at HC ⊢
    clear ha hb
    cases b
    · go_enter Tryd.func78, Tryd.ntmps78
      go_wp2_with fail
      refine HC.out.mono ?_
      rintro e w1 ⟨rfl, hb1⟩
      have HB := hide hb1
      clear hb1
      go_wp2_with fail
      go_ret
      exact ⟨rfl, HB.out⟩
    · go_enter Tryd.func78, Tryd.ntmps78
      go_wp2_with fail
      refine HC.out.mono ?_
      rintro e w1 ⟨rfl, hb1⟩
      have HB := hide hb1
      clear hb1
      go_wp2_with fail
      go_ret
      exact ⟨rfl, HB.out⟩
  · have hfin : Hid (mvsOk ms = false) := hide (by unfold mvsOk; rw [decide_eq_false h20, Bool.false_and])
    rw [hfin.out]
    clear ha
    go_enter Tryd.func78, Tryd.ntmps78
    go_wp2_with fail
    go_ret
    exact ⟨rfl, Below.refl _ _⟩
end Go.Proofs.YtmoekjgnichgnaaDoor
