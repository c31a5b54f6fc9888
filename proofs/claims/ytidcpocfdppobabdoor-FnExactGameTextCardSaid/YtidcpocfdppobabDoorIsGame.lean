/-
  IsGame: the program's text and the model's, against one plain function.
-/
import Derived.Test.YtidcpocfdppobabDoorGrid
namespace Go.Proofs.YtidcpocfdppobabDoor
open Go.RowKit

/-- strictly ascending with all elements in low..high -/
def ascB (low high : Int) : List Int → Bool
  | [] => true
  | x :: r => if x < low ∨ high < x then false else ascB (x + 1) high r
theorem ascB_no {low high x : Int} {r : List Int} (h : x < low ∨ high < x) : ascB low high (x :: r) = false := by rw [ascB, if_pos h]
theorem ascB_go {low high x : Int} {r : List Int} (h1 : low ≤ x) (h2 : x ≤ high) : ascB low high (x :: r) = ascB (x + 1) high r := by rw [ascB, if_neg (by omega)]
def rowsB (p n : Int) : List (List Int) → Bool
  | [] => true
  | zs :: r => ascB (p + 1) (n - 1) zs && rowsB (p + 1) n r
theorem rowsB_no {p n : Int} {zs : List Int} {r : List (List Int)} (h : ascB (p + 1) (n - 1) zs = false) : rowsB p n (zs :: r) = false := by rw [rowsB, h]; rfl
theorem rowsB_go {p n : Int} {zs : List Int} {r : List (List Int)} (h : ascB (p + 1) (n - 1) zs = true) : rowsB p n (zs :: r) = rowsB (p + 1) n r := by rw [rowsB, h]; rfl
def isGameB (xss : List (List Int)) : Bool := decide (1 ≤ xss.length) && decide (xss.length ≤ 40) && rowsB 0 xss.length xss
theorem isGameB_no {xss : List (List Int)} (h : xss.length < 1 ∨ 40 < xss.length) : isGameB xss = false := by
  unfold isGameB
  rcases h with h | h
  · have : decide (1 ≤ xss.length) = false := decide_eq_false (by omega)
    rw [this]; rfl
  · have : decide (xss.length ≤ 40) = false := decide_eq_false (by omega)
    rw [this]; simp
theorem isGameB_in {xss : List (List Int)} (h1 : 1 ≤ xss.length) (h2 : xss.length ≤ 40) : isGameB xss = rowsB 0 xss.length xss := by
  unfold isGameB
  rw [decide_eq_true h1, decide_eq_true h2]; rfl

set_option maxHeartbeats 400000 in
theorem isAscendingIn_any (a : Option Addr) (c : Nat) (zs : List Int) (low high : Int) (w : World) (ha : IntsAt w a zs) (hl : zs.length ≤ 1048576) (h0 : 0 ≤ low) (hh : high ≤ 1048576) :
    Calls Tryd.prog 24 #[.slice a zs.length c, .int .i64 low, .int .i64 high] w fun e w' => e = .returned (.bool (ascB low high zs)) ∧ w = w' := by
  go_enter Tryd.func24, Tryd.ntmps24
  go_wp2
  go_loop [1, 11] (fun l i => ∃ (k : Nat) (m : Int), l = .int .i64 m ∧ k ≤ zs.length ∧ i = .int .i64 k ∧ 0 ≤ m ∧ Hid (ascB m high (zs.drop k) = ascB low high zs)) (fun _ i => zs.length - (intOf i).toNat)
  case atStart => exact ⟨0, low, rfl, Nat.zero_le _, rfl, h0, rfl⟩
  case round =>
    obtain ⟨k, m, rfl, hk, rfl, hm, hA⟩ := hrel
    by_cases hlt : k < zs.length
    · obtain ⟨b1, o1, z, rfl, h1, hz⟩ := ha.one hlt
      clear ha
      have hA' : Hid (ascB m high (z :: zs.drop (k + 1)) = ascB low high zs) := by have := hA.out; rw [drop_of_get hz.out] at this; exact this
      clear hA
      by_cases hlow : z < m
      · go_wp2
        go_ret
        exact ⟨ret_bool (by rw [← hA'.out, ascB_no (.inl (by omega))]), rfl⟩
      · by_cases hhi : high < z
        · go_wp2
          go_ret
          exact ⟨ret_bool (by rw [← hA'.out, ascB_no (.inr (by omega))]), rfl⟩
        · have hb1 : 0 ≤ z := by omega
          have hb2 : z ≤ 1048576 := by omega
          go_wp2
          go_round
          case rel => exact ⟨k + 1, _, rfl, by omega, by go_num, by omega, by rw [← hA'.out, ascB_go (by omega) (by omega)]; rfl⟩
          case measure => simp [intOf]; omega
    · obtain rfl : k = zs.length := by omega
      go_wp2
      go_ret
      refine ⟨ret_bool ?_, rfl⟩
      have := hA.out
      rw [List.drop_length] at this
      exact this

set_option maxHeartbeats 400000 in
theorem implIsGame_any (a : Option Addr) (c : Nat) (xss : List (List Int)) (w : World) (ha : RowsAt w a xss) (hs : Small xss) :
    Calls Tryd.prog 13 #[.agg #[.slice a xss.length c]] w fun e w' => e = .returned (.bool (isGameB xss)) ∧ Below w.heap.size w w' := by
  have hl := hs.1
  have hB : Below w.heap.size w (w.alloc (.cells #[.slice a xss.length c] 28)) := (Below.refl _ _).alloc (Nat.le_refl _) _
  by_cases hn : xss.length < 1
  · rw [isGameB_no (.inl hn)]
    go_enter Tryd.func13, Tryd.ntmps13
    go_wp2_with fail
    go_ret
    exact ⟨rfl, hB⟩
  · by_cases hn2 : 40 < xss.length
    · rw [isGameB_no (.inr hn2)]
      go_enter Tryd.func13, Tryd.ntmps13
      go_wp2_with fail
      go_ret
      exact ⟨rfl, hB⟩
    · rw [isGameB_in (by omega) (by omega)]
      go_enter Tryd.func13, Tryd.ntmps13
      go_wp2_with fail
      go_loop [18] (fun i => ∃ k : Nat, k ≤ xss.length ∧ i = .int .i64 k ∧ Hid (rowsB k xss.length (xss.drop k) = rowsB 0 xss.length xss)) (fun i => xss.length - (intOf i).toNat)
      case atStart => exact ⟨0, Nat.zero_le _, rfl, rfl⟩
      case round =>
        obtain ⟨k, hk, rfl, hA⟩ := hrel
        by_cases hlt : k < xss.length
        · obtain ⟨b, off, ai, ci, zs, rfl, hcell, hz, hg⟩ := (ha.keep hB).one hlt
          have hzs : zs.length ≤ 1048576 := hs.2 _ (mem_of_get hg.out)
          have hA' : Hid (rowsB k xss.length (zs :: xss.drop (k + 1)) = rowsB 0 xss.length xss) := by have := hA.out; rw [drop_of_get hg.out] at this; exact this
          clear hA ha hs
          go_wp2_with fail
          refine (isAscendingIn_any _ _ zs _ _ _ hz hzs (by omega) (by omega)).mono ?_
          rintro e w1 ⟨rfl, rfl⟩
          cases hr : ascB (↑k + 1) (↑xss.length - 1) zs
          · have hA2 : Hid (rowsB 0 xss.length xss = false) := by rw [← hA'.out, rowsB_no hr]; rfl
            go_wp2_with fail
            go_ret
            exact ⟨ret_bool hA2.out.symm, hB⟩
          · have hA2 : Hid (rowsB ((k + 1 : Nat) : Int) xss.length (xss.drop (k + 1)) = rowsB 0 xss.length xss) := by
              rw [← hA'.out, rowsB_go hr]; rfl
            go_wp2_with fail
            go_round
            case rel => exact ⟨k + 1, by omega, by go_num, hA2⟩
            case measure => simp [intOf]; omega
        · obtain rfl : k = xss.length := by omega
          go_wp2_with fail
          go_ret
          refine ⟨ret_bool ?_, hB⟩
          have := hA.out
          rw [List.drop_length] at this
          exact this

theorem l01In_any (n low high : Int) (w : World) :
    Calls Tryd.prog 21 #[.int .i64 n, .int .i64 low, .int .i64 high] w fun e w' => e = .returned (.bool (decide (low ≤ n) && decide (n ≤ high))) ∧ w = w' := by
  by_cases h1 : low ≤ n
  · by_cases h2 : n ≤ high
    · go_enter Tryd.func21, Tryd.ntmps21
      go_wp2
      go_ret
      exact ⟨ret_bool (by simp [h1, h2]), rfl⟩
    · go_enter Tryd.func21, Tryd.ntmps21
      go_wp2
      go_ret
      exact ⟨ret_bool (by simp; omega), rfl⟩
  · go_enter Tryd.func21, Tryd.ntmps21
    go_wp2
    go_ret
    exact ⟨ret_bool (by simp; omega), rfl⟩

theorem l01N_any (a : Option Addr) (c n : Nat) (w : World) :
    Calls Tryd.prog 20 #[.agg #[.slice a n c]] w fun e w' => e = .returned (.int .i64 n) ∧ Below w.heap.size w w' := by
  go_enter Tryd.func20, Tryd.ntmps20
  go_wp2
  go_ret
  exact ⟨rfl, (Below.refl _ _).alloc (Nat.le_refl _) _⟩

set_option maxHeartbeats 1000000 in
theorem l01Is_any (a : Option Addr) (c : Nat) (xss : List (List Int)) (w : World) (ha : RowsAt w a xss) (hs : Small xss) :
    Calls Tryd.prog 10 #[.agg #[.slice a xss.length c]] w fun e w' => e = .returned (.bool (isGameB xss)) ∧ Below w.heap.size w w' := by
  have hl := hs.1
  have hB0 : Below w.heap.size w (w.alloc (.cells #[.slice a xss.length c] 28)) := (Below.refl _ _).alloc (Nat.le_refl _) _
  have hbox : (w.alloc (.cells #[.slice a xss.length c] 28)).cell? ⟨w.heap.size, 0, none⟩ = some (.slice a xss.length c) := by simp [go_sem]
  by_cases hn : xss.length < 1 ∨ 40 < xss.length
  · have hIn : (decide ((1 : Int) ≤ (xss.length : Int)) && decide ((xss.length : Int) ≤ 40)) = false := by
      rcases hn with h | h
      · rw [decide_eq_false (by omega)]; rfl
      · rw [decide_eq_false (p := (xss.length : Int) ≤ 40) (by omega)]; simp
    rw [isGameB_no hn]
    have HI := hide hIn
    clear hn hIn
    go_enter Tryd.func10, Tryd.ntmps10
    go_wp2_with fail
    refine (l01N_any _ _ _ _).mono ?_
    rintro e w1 ⟨rfl, hB1⟩
    go_wp2_with fail
    refine (l01In_any _ _ _ _).mono ?_
    rw [HI.out]
    rintro e w2 ⟨rfl, rfl⟩
    go_wp2_with fail
    go_ret
    exact ⟨rfl, Below.trans' hB0 hB1⟩
  · have hIn : (decide ((1 : Int) ≤ (xss.length : Int)) && decide ((xss.length : Int) ≤ 40)) = true := by
      rw [decide_eq_true (by omega), decide_eq_true (by omega)]; rfl
    rw [isGameB_in (by omega) (by omega)]
    have HI := hide hIn
    clear hIn
    go_enter Tryd.func10, Tryd.ntmps10
    go_wp2_with fail
    refine (l01N_any _ _ _ _).mono ?_
    rintro e w1 ⟨rfl, hB1⟩
    have hbox1 := (hB1.cell (p := ⟨w.heap.size, 0, none⟩) (by simp)).trans hbox
    have hBB := Below.trans' hB0 hB1
    have ha1 := ha.keep hBB
    clear hbox hB1 hB0 ha
    go_wp2_with fail
    refine (l01In_any _ _ _ _).mono ?_
    rw [HI.out]
    rintro e w2 ⟨rfl, rfl⟩
    go_wp2_with fail
    go_loop [4] (fun p => ∃ k : Nat, k ≤ xss.length ∧ p = .int .i64 k ∧ Hid (rowsB k xss.length (xss.drop k) = rowsB 0 xss.length xss)) (fun p => xss.length - (intOf p).toNat)
    case atStart => exact ⟨0, Nat.zero_le _, rfl, rfl⟩
    case round =>
      obtain ⟨k, hk, rfl, hA⟩ := hrel
      by_cases hlt : k < xss.length
      · obtain ⟨b, off, ai, ci, zs, rfl, hcell, hz, hg⟩ := ha1.one hlt
        have hzs : zs.length ≤ 1048576 := hs.2 _ (mem_of_get hg.out)
        have hA' : Hid (rowsB k xss.length (zs :: xss.drop (k + 1)) = rowsB 0 xss.length xss) := by have := hA.out; rw [drop_of_get hg.out] at this; exact this
        clear hA ha1 hs
        go_wp2_with fail
        go_loop [5, 6] (fun l i => ∃ (j : Nat) (m : Int), l = .int .i64 m ∧ j ≤ zs.length ∧ i = .int .i64 j ∧ Hid (ascB (m + 1) (↑xss.length - 1) (zs.drop j) = ascB (↑k + 1) (↑xss.length - 1) zs)) (fun _ i => zs.length - (intOf i).toNat)
        case atStart => exact ⟨0, _, rfl, Nat.zero_le _, rfl, rfl⟩
        case round =>
          obtain ⟨j, m, rfl, hj, rfl, hI⟩ := hrel
          by_cases hjlt : j < zs.length
          · obtain ⟨b1, o1, z, rfl, h1, hzj⟩ := hz.one hjlt
            have hI' : Hid (ascB (m + 1) (↑xss.length - 1) (z :: zs.drop (j + 1)) = ascB (↑k + 1) (↑xss.length - 1) zs) := by have := hI.out; rw [drop_of_get hzj.out] at this; exact this
            clear hI hz
            by_cases hlow : z ≤ m
            · have hF : Hid (rowsB 0 xss.length xss = false) := by rw [← hA'.out, rowsB_no (by rw [← hI'.out, ascB_no (.inl (by omega))])]; rfl
              go_wp2_with fail
              go_ret
              exact ⟨ret_bool hF.out.symm, hBB⟩
            · by_cases hhi : (xss.length : Int) ≤ z
              · have hF : Hid (rowsB 0 xss.length xss = false) := by rw [← hA'.out, rowsB_no (by rw [← hI'.out, ascB_no (.inr (by omega))])]; rfl
                go_wp2_with fail
                go_ret
                exact ⟨ret_bool hF.out.symm, hBB⟩
              · go_wp2_with fail
                go_round
                case rel => exact ⟨j + 1, z, rfl, by omega, by go_num, by rw [← hI'.out, ascB_go (by omega) (by omega)]; rfl⟩
                case measure => simp [intOf]; omega
          · obtain rfl : j = zs.length := by omega
            have hT : Hid (ascB (↑k + 1) (↑xss.length - 1) zs = true) := by rw [← hI.out, List.drop_length]; rfl
            have hA2 : Hid (rowsB ((k + 1 : Nat) : Int) xss.length (xss.drop (k + 1)) = rowsB 0 xss.length xss) := by
              rw [← hA'.out, rowsB_go hT.out]; rfl
            go_wp2_with fail
            go_round
            case rel => exact ⟨k + 1, by omega, by go_num, hA2⟩
            case measure => simp [intOf]; omega
      · obtain rfl : k = xss.length := by omega
        go_wp2_with fail
        go_ret
        refine ⟨ret_bool ?_, hBB⟩
        have := hA.out
        rw [List.drop_length] at this
        exact this

end Go.Proofs.YtidcpocfdppobabDoor
