/-
  Boards of hexagons: triangles: their check, their reduction, both texts.
-/
import Derived.Test.YtidcpocfdppobaaHa
import Derived.Test.YtidcpocfdppobaaPm
namespace Go.Proofs.Ytidcpocfdppobaa
open Go.RowKit
set_option linter.unusedVariables false

/-! ### the check -/
def trC (n lo : Int) (cs : List Int) : Int := if inn n 1 8 && decide (lo ≤ n) then (if decide ((cs.length : Int) = n * (n + 1) / 2) && cs.all plB then 0 else 1) else 2
theorem trC_two {n lo : Int} {cs : List Int} (h : (inn n 1 8 && decide (lo ≤ n)) = false) : trC n lo cs = 2 := by simp only [trC, h]; rfl
theorem trC_len {n lo : Int} {cs : List Int} (h : (inn n 1 8 && decide (lo ≤ n)) = true) (h2 : ¬ (cs.length : Int) = n * (n + 1) / 2) : trC n lo cs = 1 := by simp [trC, h, h2]
theorem trC_rest {n lo : Int} {cs : List Int} (h : (inn n 1 8 && decide (lo ≤ n)) = true) (h2 : (cs.length : Int) = n * (n + 1) / 2) : trC n lo cs = if cs.all plB = true then 0 else 1 := by simp [trC, h, h2]
theorem plB_inn (z : Int) : inn z 1 2 = plB z := by
  unfold inn plB
  by_cases h1 : z = 1
  · subst h1; rfl
  · by_cases h2 : z = 2
    · subst h2; rfl
    · have : ¬ (1 ≤ z ∧ z ≤ 2) := by omega
      rw [decide_eq_false h1, decide_eq_false h2, ← Bool.decide_and, decide_eq_false this]
      rfl
theorem trC_zero {n lo : Int} {cs : List Int} (h : trC n lo cs = 0) : lo ≤ n ∧ 1 ≤ n ∧ n ≤ 8 ∧ (cs.length : Int) = n * (n + 1) / 2 ∧ ∀ z ∈ cs, 1 ≤ z ∧ z ≤ 2 := by
  unfold trC at h
  split at h
  · rename_i h1
    split at h
    · rename_i h2
      simp only [Bool.and_eq_true, decide_eq_true_eq, List.all_eq_true] at h1 h2
      obtain ⟨i1, i2⟩ := inn_yes h1.1
      exact ⟨h1.2, i1, i2, h2.1, fun z hz => inn_yes (by rw [plB_inn]; exact h2.2 z hz)⟩
    · cases h
  · cases h
theorem tri_nums {n : Int} (h1 : 1 ≤ n) (h2 : n ≤ 8) : 0 ≤ n * (n + 1) ∧ n * (n + 1) ≤ 72 ∧ 1 ≤ n * (n + 1) / 2 ∧ n * (n + 1) / 2 ≤ 36 ∧ wrap64 (n * (n + 1)) = n * (n + 1) ∧ wrap64 ((n * (n + 1)).tdiv 2) = n * (n + 1) / 2 := by
  have : n = 1 ∨ n = 2 ∨ n = 3 ∨ n = 4 ∨ n = 5 ∨ n = 6 ∨ n = 7 ∨ n = 8 := by omega
  rcases this with rfl | rfl | rfl | rfl | rfl | rfl | rfl | rfl <;> decide +kernel
theorem tri_nums' {n : Int} (h1 : 0 ≤ n) (h2 : n ≤ 9) : 0 ≤ n * (n + 1) ∧ n * (n + 1) ≤ 90 ∧ 0 ≤ n * (n + 1) / 2 ∧ n * (n + 1) / 2 ≤ 45 ∧ wrap64 (n * (n + 1)) = n * (n + 1) ∧ wrap64 ((n * (n + 1)).tdiv 2) = n * (n + 1) / 2 := by
  have : n = 0 ∨ n = 1 ∨ n = 2 ∨ n = 3 ∨ n = 4 ∨ n = 5 ∨ n = 6 ∨ n = 7 ∨ n = 8 ∨ n = 9 := by omega
  rcases this with rfl | rfl | rfl | rfl | rfl | rfl | rfl | rfl | rfl | rfl <;> decide +kernel

set_option maxHeartbeats 400000 in
theorem tstart_any (n : Int) (h1 : 0 ≤ n) (h2 : n ≤ 9) (W : World) : Calls Try.prog 91 #[.int .i64 n] W (RetB (.int .i64 (tS n.toNat)) W) := by
  obtain ⟨q0, q1, q2, q3, q4, q5⟩ := tri_nums' h1 h2
  have hf := hide (tS_int h1)
  go_enter Try.func91, Try.ntmps91
  go_wp2
  go_ret
  exact ⟨ret_int hf.out, Below.refl _ _⟩
set_option maxHeartbeats 400000 in
theorem mostOf_any (a b c : Int) (W : World) : Calls Try.prog 92 #[.int .i64 a, .int .i64 b, .int .i64 c] W (RetB (.int .i64 (most a b c)) W) := by
  by_cases h : b = c
  · have hd : (b == c) = true := by simp [h]
    have hf : Hid (most a b c = b) := hide (by simp [most, h])
    clear h
    go_enter Try.func92, Try.ntmps92
    go_wp2
    go_ret
    exact ⟨ret_int hf.out.symm, Below.refl _ _⟩
  · have hd : (b == c) = false := by simp [h]
    have hf : Hid (most a b c = a) := hide (by simp [most, h])
    go_enter Try.func92, Try.ntmps92
    go_wp2
    go_ret
    exact ⟨ret_int hf.out.symm, Below.refl _ _⟩

set_option maxRecDepth 100000 in
set_option maxHeartbeats 2000000 in
theorem implTri_any (n lo : Int) (a : Option Addr) (c : Nat) (cs : List Int) (hlo : 1 ≤ lo ∧ lo ≤ 2) (W : World) (ha : IntsAt W a cs) (hl : cs.length ≤ 1048576) :
    Calls Try.prog 81 #[.int .i64 n, .int .i64 lo, .slice a cs.length c] W (RetB (.int .i64 (trC n lo cs)) W) := by
  obtain ⟨r, hr⟩ : ∃ r, r = trC n lo cs := ⟨_, rfl⟩
  rw [← hr]
  have HR := hide hr
  clear hr
  cases hs : inn n 1 8
  · have hf : Hid (r = 2) := hide (by rw [HR.out, trC_two (by rw [hs]; rfl)])
    have HS := hide hs
    clear hs
    go_enter Try.func81, Try.ntmps81
    go_wp2_with fail
    refine (side_is HS.out _).mono ?_
    rintro e w1 ⟨rfl, hb1⟩
    have hB1 := hide hb1
    clear hb1
    go_wp2_with fail
    go_ret
    exact ⟨by rw [hf.out]; rfl, hB1.out⟩
  · obtain ⟨n1, n8⟩ := inn_yes hs
    have HS := hide hs
    by_cases hno : n < lo
    · have hf : Hid (r = 2) := hide (by rw [HR.out, trC_two (by simp; omega)])
      clear hs
      go_enter Try.func81, Try.ntmps81
      go_wp2_with fail
      refine (side_is HS.out _).mono ?_
      rintro e w1 ⟨rfl, hb1⟩
      have hB1 := hide hb1
      clear hb1
      go_wp2_with fail
      go_ret
      exact ⟨by rw [hf.out]; rfl, hB1.out⟩
    · have hin : (inn n 1 8 && decide (lo ≤ n)) = true := by rw [hs]; simp; omega
      have hts := hide (tS_int (n := n) (by omega))
      by_cases hk : (cs.length : Int) = n * (n + 1) / 2
      · have hf : Hid (r = if cs.all plB = true then 0 else 1) := hide (by rw [HR.out, trC_rest hin hk])
        have hd : ((cs.length : Int) != (tS n.toNat : Int)) = false := by rw [← hts.out]; simp [hk]
        have hdn : decide (n < lo) = false := by simp; omega
        clear hs hin hk hno
        go_enter Try.func81, Try.ntmps81
        go_wp2_with fail
        refine (side_is HS.out _).mono ?_
        rintro e w1 ⟨rfl, hb1⟩
        have hB1 := hide hb1
        have hA1 := hide (ha.keep hb1)
        clear hb1 ha
        go_wp2_with fail
        refine (tstart_any n (by omega) (by omega) _).mono ?_
        rintro e w2 ⟨rfl, hb2⟩
        have hB2 := hide (Below.trans' hB1.out hb2)
        have hA2 := hide (hA1.out.keep hb2)
        clear hb2
        go_wp2_with fail
        go_loopw [24] (fun i wr => ∃ k : Nat, k ≤ cs.length ∧ i = .int .i64 k ∧ Hid ((cs.drop k).all plB = cs.all plB) ∧ Below w2.heap.size w2 wr) (fun i _ => cs.length - (intOf i).toNat)
        case atStart => exact ⟨0, Nat.zero_le _, rfl, by rw [List.drop_zero]; rfl, Below.refl _ _⟩
        case round =>
          obtain ⟨k, hkl, rfl, hS, hB⟩ := hrel
          by_cases hlt : k < cs.length
          · obtain ⟨b, off, z, rfl, hcell, hz⟩ := (hA2.out.keep hB).one hlt
            have hD : Hid ((z :: cs.drop (k + 1)).all plB = cs.all plB) := hide (by rw [← drop_of_get hz.out]; exact hS.out)
            have HB := hide hB
            clear hS hB hz
            cases hp : plB z
            · have hn : Hid (r = 1) := hide (by rw [hf.out, ← hD.out, List.all_cons, hp]; rfl)
              have HP := hide hp
              clear hp
              go_wp2_with fail
              refine (player_is HP.out _).mono ?_
              rintro e w3 ⟨rfl, hb3⟩
              have hB3 := hide (Below.trans' hB2.out (Below.trans' HB.out hb3))
              clear hb3
              go_wp2_with fail
              go_ret
              exact ⟨by rw [hn.out]; rfl, hB3.out⟩
            · have hn : Hid ((cs.drop (k + 1)).all plB = cs.all plB) := hide (by rw [← hD.out, List.all_cons, hp]; rfl)
              have HP := hide hp
              clear hp
              go_wp2_with fail
              refine (player_is HP.out _).mono ?_
              rintro e w3 ⟨rfl, hb3⟩
              have hB3 := hide (Below.trans' HB.out hb3)
              clear hb3
              go_wp2_with fail
              go_roundw
              case rel => exact ⟨k + 1, by omega, by go_num, hn.out, hB3.out⟩
              case measure => simp [intOf]; omega
          · have hn : Hid (r = 0) := hide (by rw [hf.out, ← hS.out, List.drop_eq_nil_of_le (by omega)]; rfl)
            have HB := hide hB
            clear hS hB
            go_wp2_with fail
            go_ret
            exact ⟨by rw [hn.out]; rfl, Below.trans' hB2.out HB.out⟩
      · have hf : Hid (r = 1) := hide (by rw [HR.out, trC_len hin hk])
        have hd : ((cs.length : Int) != (tS n.toNat : Int)) = true := by rw [← hts.out]; simp [hk]
        clear hs hin
        go_enter Try.func81, Try.ntmps81
        go_wp2_with fail
        refine (side_is HS.out _).mono ?_
        rintro e w1 ⟨rfl, hb1⟩
        have hB1 := hide hb1
        clear hb1 ha
        go_wp2_with fail
        refine (tstart_any n (by omega) (by omega) _).mono ?_
        rintro e w2 ⟨rfl, hb2⟩
        have hB2 := hide (Below.trans' hB1.out hb2)
        clear hb2
        go_wp2_with fail
        go_ret
        exact ⟨by rw [hf.out]; rfl, hB2.out⟩

set_option maxRecDepth 100000 in
set_option maxHeartbeats 2000000 in
theorem specTri_any (n lo : Int) (a : Option Addr) (c : Nat) (cs : List Int) (hlo : 1 ≤ lo ∧ lo ≤ 2) (W : World) (ha : IntsAt W a cs) (hl : cs.length ≤ 1048576) :
    Calls Try.prog 79 #[.int .i64 n, .int .i64 lo, .slice a cs.length c] W (RetB (.int .i64 (trC n lo cs)) W) := by
  obtain ⟨r, hr⟩ : ∃ r, r = trC n lo cs := ⟨_, rfl⟩
  rw [← hr]
  have HR := hide hr
  clear hr
  have hii : inn n lo 8 = (inn n 1 8 && decide (lo ≤ n)) := by
    unfold inn
    by_cases h1 : lo ≤ n
    · have : (1 : Int) ≤ n := by omega
      simp [h1, this]
    · simp [h1]
  cases hs : inn n lo 8
  · have hf : Hid (r = 2) := hide (by rw [HR.out, trC_two (by rw [← hii]; exact hs)])
    have HS := hide hs
    clear hs hii
    go_enter Try.func79, Try.ntmps79
    go_wp2_with fail
    refine (inn_is _ _ _ HS.out _).mono ?_
    rintro e w1 ⟨rfl, hb1⟩
    have hB1 := hide hb1
    clear hb1
    go_wp2_with fail
    go_ret
    exact ⟨by rw [hf.out]; rfl, hB1.out⟩
  · obtain ⟨n1, n8⟩ := inn_yes hs
    have HS := hide hs
    have hin : (inn n 1 8 && decide (lo ≤ n)) = true := by rw [← hii]; exact hs
    obtain ⟨q0, q1, q2, q3, q4, q5⟩ := tri_nums (n := n) (by omega) n8
    by_cases hk : (cs.length : Int) = n * (n + 1) / 2
    · have hf : Hid (r = if cs.all plB = true then 0 else 1) := hide (by rw [HR.out, trC_rest hin hk])
      have hd : ((cs.length : Int) != n * (n + 1) / 2) = false := by simp [hk]
      clear hs hin hii
      go_enter Try.func79, Try.ntmps79
      go_wp2_with fail
      refine (inn_is _ _ _ HS.out _).mono ?_
      rintro e w2 ⟨rfl, hb2⟩
      have hB2 := hide hb2
      have hA2 := hide (ha.keep hb2)
      clear hb2 ha
      go_wp2_with fail
      go_loopw [7] (fun i wr => ∃ k : Nat, k ≤ cs.length ∧ i = .int .i64 k ∧ Hid ((cs.drop k).all plB = cs.all plB) ∧ Below w2.heap.size w2 wr) (fun i _ => cs.length - (intOf i).toNat)
      case atStart => exact ⟨0, Nat.zero_le _, rfl, by rw [List.drop_zero]; rfl, Below.refl _ _⟩
      case round =>
        obtain ⟨k, hkl, rfl, hS, hB⟩ := hrel
        by_cases hlt : k < cs.length
        · obtain ⟨b, off, z, rfl, hcell, hz⟩ := (hA2.out.keep hB).one hlt
          have hD : Hid ((z :: cs.drop (k + 1)).all plB = cs.all plB) := hide (by rw [← drop_of_get hz.out]; exact hS.out)
          have HB := hide hB
          clear hS hB hz
          cases hp : plB z
          · have hn : Hid (r = 1) := hide (by rw [hf.out, ← hD.out, List.all_cons, hp]; rfl)
            have HP : Hid (inn z 1 2 = false) := hide (by rw [plB_inn]; exact hp)
            clear hp
            go_wp2_with fail
            refine (inn_is _ _ _ HP.out _).mono ?_
            rintro e w3 ⟨rfl, hb3⟩
            have hB3 := hide (Below.trans' hB2.out (Below.trans' HB.out hb3))
            clear hb3
            go_wp2_with fail
            go_ret
            exact ⟨by rw [hn.out]; rfl, hB3.out⟩
          · have hn : Hid ((cs.drop (k + 1)).all plB = cs.all plB) := hide (by rw [← hD.out, List.all_cons, hp]; rfl)
            have HP : Hid (inn z 1 2 = true) := hide (by rw [plB_inn]; exact hp)
            clear hp
            go_wp2_with fail
            refine (inn_is _ _ _ HP.out _).mono ?_
            rintro e w3 ⟨rfl, hb3⟩
            have hB3 := hide (Below.trans' HB.out hb3)
            clear hb3
            go_wp2_with fail
            go_roundw
            case rel => exact ⟨k + 1, by omega, by go_num, hn.out, hB3.out⟩
            case measure => simp [intOf]; omega
        · have hn : Hid (r = 0) := hide (by rw [hf.out, ← hS.out, List.drop_eq_nil_of_le (by omega)]; rfl)
          have HB := hide hB
          clear hS hB
          go_wp2_with fail
          go_ret
          exact ⟨by rw [hn.out]; rfl, Below.trans' hB2.out HB.out⟩
    · have hf : Hid (r = 1) := hide (by rw [HR.out, trC_len hin hk])
      have hd : ((cs.length : Int) != n * (n + 1) / 2) = true := by simp [hk]
      clear hs hin hii
      go_enter Try.func79, Try.ntmps79
      go_wp2_with fail
      refine (inn_is _ _ _ HS.out _).mono ?_
      rintro e w2 ⟨rfl, hb2⟩
      have hB2 := hide hb2
      clear hb2 ha
      go_wp2_with fail
      go_ret
      exact ⟨by rw [hf.out]; rfl, hB2.out⟩
end Go.Proofs.Ytidcpocfdppobaa
