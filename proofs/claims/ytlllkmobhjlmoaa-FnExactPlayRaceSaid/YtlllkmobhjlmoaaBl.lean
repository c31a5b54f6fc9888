/-
  LinesThrough: both texts.
-/
import Derived.Test.YtlllkmobhjlmoaaBf
import Derived.Test.YtlllkmobhjlmoaaBc
namespace Go.Proofs.Ytlllkmobhjlmoaa
open Go.RowKit
set_option linter.unusedVariables false

def thr (cs : List Int) (p : Int) : List Int := cs.filter fun l => drawn l p
def thrR (n : Int) (cs : List Int) (p : Int) : List Int × Int := if okB n cs = true then (if 0 ≤ p ∧ p < n then (thr cs p, 0) else ([], 2)) else ([], 1)
theorem thr_le (cs : List Int) (p : Int) : (thr cs p).length ≤ cs.length := List.length_filter_le _ _
theorem thrR_le {n : Int} {cs : List Int} {p : Int} (hl : cs.length ≤ 1048576) : (thrR n cs p).1.length ≤ 1048576 := by
  unfold thrR
  split
  · split
    · exact Nat.le_trans (thr_le _ _) hl
    · simp
  · simp
theorem newList_nil {W w : World} {c : Int} (hb : Below W.heap.size W w) : NewList ([], c) W (.returned (.tuple #[.slice none 0 0, .int .i64 c])) w := ⟨none, 0, rfl, World.ownsRow_nil _ _ _ _, hb⟩
theorem take_yes {cs : List Int} {q : Int → Bool} {k : Nat} {z : Int} (h : cs[k]? = some z) (hq : q z = true) : (cs.take (k + 1)).filter q = (cs.take k).filter q ++ [z] := by
  rw [List.take_add_one, h, List.filter_append]
  simp [hq]
theorem take_no {cs : List Int} {q : Int → Bool} {k : Nat} {z : Int} (h : cs[k]? = some z) (hq : q z = false) : (cs.take (k + 1)).filter q = (cs.take k).filter q := by
  rw [List.take_add_one, h, List.filter_append]
  simp [hq]
theorem take_fle {cs : List Int} {q : Int → Bool} {k : Nat} (h : cs.length ≤ 100) : ((cs.take k).filter q).length ≤ 100 := by
  have h1 := List.length_filter_le q (cs.take k)
  have h2 := List.length_take_le k cs
  have h3 : (cs.take k).length ≤ cs.length := by rw [List.length_take]; omega
  omega

set_option maxRecDepth 100000 in
set_option maxHeartbeats 4000000 in
theorem implThr_any (n : Int) (a : Option Addr) (c : Nat) (cs : List Int) (p : Int) (W : World) (ha : IntsAt W a cs) (hl : cs.length ≤ 1048576) :
    Calls Try.prog 21 #[.agg #[.int .i64 n, .slice a cs.length c], .int .i64 p] W (NewList (thrR n cs p) W) := by
  obtain ⟨i0, hi0, hz0, hz1, hz2⟩ := info_parts Try.info2
  obtain ⟨W0, hW0⟩ : ∃ W0, W0 = W.alloc (.cells #[.int .i64 n, .slice a cs.length c] 27) := ⟨_, rfl⟩
  have hB0 : Hid (Below W.heap.size W W0) := by rw [hW0]; exact hide (below_alloc _ _)
  have hX0 : Hid (HexIn W0 W.heap.size n a cs.length c) := by rw [hW0]; exact hide (hexIn_new _ _ _ _ _ _)
  have hA0 := hide (ha.keep hB0.out)
  obtain ⟨c0, c1⟩ := hX0.out
  clear ha
  cases hok : okB n cs
  · have HR : Hid (thrR n cs p = ([], 1)) := hide (by simp [thrR, hok])
    have HOK := hide hok
    rw [HR.out]
    clear hok
    go_enter Try.func21, Try.ntmps21
    go_wp2_with fail
    rw [← hW0]
    clear hW0
    refine (implIs_is HOK.out hA0.out hl).mono ?_
    rintro e w1 ⟨rfl, hb1⟩
    have hB1 := hide (Below.trans' hB0.out hb1)
    clear hb1
    go_wp2_with fail
    go_ret2
    exact newList_nil hB1.out
  · obtain ⟨⟨n1, n16⟩, hk100, _⟩ := okB_parts hok
    have HOK := hide hok
    have hSets := hide (sets_of hok)
    by_cases h0 : 0 ≤ p
    · have hp0 : ¬ (p < 0) := by omega
      by_cases h1 : p < n
      · have HR : Hid (thrR n cs p = (thr cs p, 0)) := hide (by simp [thrR, hok, h0, h1])
        rw [HR.out]
        have hpn : ¬ (n ≤ p) := by omega
        have hd1 : decide (p < 0) = false := decide_eq_false hp0
        have hd2 : decide (n ≤ p) = false := decide_eq_false hpn
        obtain ⟨q, hq⟩ : ∃ q : Int → Bool, q = fun l => drawn l p := ⟨_, rfl⟩
        have HQ : Hid (∀ z, q z = drawn z p) := hide (fun z => by rw [hq])
        have HT : Hid (thr cs p = (cs.take cs.length).filter q) := hide (by rw [List.take_length, hq]; rfl)
        rw [HT.out]
        clear hok hq
        go_enter Try.func21, Try.ntmps21
        go_wp2_with fail
        rw [← hW0]
        clear hW0
        refine (implIs_is HOK.out hA0.out hl).mono ?_
        rintro e w1 ⟨rfl, hb1⟩
        have hB1 := hide (Below.trans' hB0.out hb1)
        have hX1 := hide (hX0.out.keep hb1)
        have hA1 := hide (hA0.out.keep hb1)
        clear hb1 c0 c1
        obtain ⟨c0, c1⟩ := hX1.out
        go_wp2_with fail
        clear c0 c1 hd1 hd2
        go_loopw [6, 23] (fun v i wr => ∃ (k : Nat) (v0 : Value), v0 = v ∧ k ≤ cs.length ∧ i = .int .i64 k ∧ Owns w1.heap.size w1 wr v ((cs.take k).filter q)) (fun _ i _ => cs.length - (intOf i).toNat)
        case atStart => exact ⟨0, _, rfl, Nat.zero_le _, rfl, Owns.nil (Below.refl _ _) (Nat.le_refl _)⟩
        case round =>
          obtain ⟨k, v, rfl, hk, rfl, hO⟩ := hrel
          by_cases hlt : k < cs.length
          · obtain ⟨b, off, z, rfl, hcell, hz⟩ := (hA1.out.keep hO.old).one hlt
            obtain ⟨z0, z1⟩ := hSets.out z (mem_of_get hz.out)
            have hdw := dg_walkL (E := z) (k := p) z0 (by omega)
            have hfl := take_fle (q := q) (k := k) hk100
            have HO := hide hO
            have hown := hO.own
            have hsz := hO.size
            cases hd : drawn z p
            · have hdg := dg_of_free hd
              rw [hdg] at hdw
              have HN := hide (take_no (q := q) hz.out (by rw [HQ.out]; exact hd))
              clear hO hown hd hdg hz
              go_wp2_with fail
              go_roundw
              case rel => exact ⟨k + 1, _, rfl, by omega, by go_num, by rw [HN.out]; exact HO.out⟩
              case measure => simp [intOf]; omega
            · have hdg := dg_of_drawn hd
              rw [hdg] at hdw
              have HY := hide (take_yes (q := q) hz.out (by rw [HQ.out]; exact hd))
              clear hO hd hdg hz
              go_wp2_with (at_builtin; refine wpList_append_own _ rfl _ _ 22 rfl (w1.heap.size) 2 i0 (.int .i64 0) 1 8 Try.underlying22 hi0 hz0 hz1 hz2 rfl (by decide) _ _ _ rfl (hown.alloc _) ⟨wr.heap.size, 0, none⟩ 1 1 [.int .i64 z] rfl rfl (cell_one_new _ _ _) (by simp [Value.oneCell']) (by unfold maxLen; omega) (by omega) (by simp; omega) ?_)
              intro v' w5 hown' hgrow _
              have HO5 := hide (HO.out.snoc (by simpa using hown') hgrow)
              clear hown' hgrow hown
              go_wp2_with fail
              go_roundw
              case rel => exact ⟨k + 1, _, rfl, by omega, by go_num, by rw [HY.out]; exact HO5.out⟩
              case measure => simp [intOf]; omega
          · obtain rfl : k = cs.length := by omega
            have HL := hide (hO.listC hB1.out hB1.out.size 0)
            clear hO
            go_wp2_with fail
            go_ret2
            exact HL.out
      · have HR : Hid (thrR n cs p = ([], 2)) := hide (by simp [thrR, hok, h1])
        rw [HR.out]
        have hpn : n ≤ p := by omega
        have hd1 : decide (p < 0) = false := decide_eq_false hp0
        have hd2 : decide (n ≤ p) = true := decide_eq_true hpn
        clear hok
        go_enter Try.func21, Try.ntmps21
        go_wp2_with fail
        rw [← hW0]
        clear hW0
        refine (implIs_is HOK.out hA0.out hl).mono ?_
        rintro e w1 ⟨rfl, hb1⟩
        have hB1 := hide (Below.trans' hB0.out hb1)
        have hX1 := hide (hX0.out.keep hb1)
        clear hb1 c0 c1
        obtain ⟨c0, c1⟩ := hX1.out
        go_wp2_with fail
        go_ret2
        exact newList_nil hB1.out
    · have HR : Hid (thrR n cs p = ([], 2)) := hide (by simp [thrR, hok, h0])
      rw [HR.out]
      have hp0 : p < 0 := by omega
      have hd1 : decide (p < 0) = true := decide_eq_true hp0
      clear hok
      go_enter Try.func21, Try.ntmps21
      go_wp2_with fail
      rw [← hW0]
      clear hW0
      refine (implIs_is HOK.out hA0.out hl).mono ?_
      rintro e w1 ⟨rfl, hb1⟩
      have hB1 := hide (Below.trans' hB0.out hb1)
      have hX1 := hide (hX0.out.keep hb1)
      clear hb1 c0 c1
      obtain ⟨c0, c1⟩ := hX1.out
      go_wp2_with fail
      go_ret2
      exact newList_nil hB1.out

set_option maxRecDepth 100000 in
set_option maxHeartbeats 4000000 in
theorem specThr_any (n : Int) (a : Option Addr) (c : Nat) (cs : List Int) (p : Int) (W : World) (ha : IntsAt W a cs) (hl : cs.length ≤ 1048576) :
    Calls Try.prog 20 #[.agg #[.int .i64 n, .slice a cs.length c], .int .i64 p] W (NewList (thrR n cs p) W) := by
  obtain ⟨i0, hi0, hz0, hz1, hz2⟩ := info_parts Try.info2
  obtain ⟨W0, hW0⟩ : ∃ W0, W0 = W.alloc (.cells #[.int .i64 n, .slice a cs.length c] 27) := ⟨_, rfl⟩
  have hB0 : Hid (Below W.heap.size W W0) := by rw [hW0]; exact hide (below_alloc _ _)
  have hX0 : Hid (HexIn W0 W.heap.size n a cs.length c) := by rw [hW0]; exact hide (hexIn_new _ _ _ _ _ _)
  have hA0 := hide (ha.keep hB0.out)
  obtain ⟨c0, c1⟩ := hX0.out
  clear ha
  cases hok : okB n cs
  · have HR : Hid (thrR n cs p = ([], 1)) := hide (by simp [thrR, hok])
    have HOK := hide hok
    rw [HR.out]
    clear hok
    go_enter Try.func20, Try.ntmps20
    go_wp2_with fail
    rw [← hW0]
    clear hW0
    refine (l07Is_is HOK.out hA0.out hl).mono ?_
    rintro e w1 ⟨rfl, hb1⟩
    have hB1 := hide (Below.trans' hB0.out hb1)
    clear hb1
    go_wp2_with fail
    go_ret2
    exact newList_nil hB1.out
  · obtain ⟨⟨n1, n16⟩, hk100, _⟩ := okB_parts hok
    have HOK := hide hok
    have hSets := hide (sets_of hok)
    cases hp : inn p 0 (n - 1)
    · have HR : Hid (thrR n cs p = ([], 2)) := hide (by have := inn_no hp; unfold thrR; rw [if_pos hok, if_neg (by omega)])
      rw [HR.out]
      have HP := hide hp
      clear hok hp
      go_enter Try.func20, Try.ntmps20
      go_wp2_with fail
      rw [← hW0]
      clear hW0
      refine (l07Is_is HOK.out hA0.out hl).mono ?_
      rintro e w1 ⟨rfl, hb1⟩
      have hB1 := hide (Below.trans' hB0.out hb1)
      have hX1 := hide (hX0.out.keep hb1)
      clear hb1 c0 c1
      obtain ⟨c0, c1⟩ := hX1.out
      go_wp2_with fail
      refine (inn_is _ _ _ HP.out _).mono ?_
      rintro e w2 ⟨rfl, hb2⟩
      have hB2 := hide (Below.trans' hB1.out hb2)
      clear hb2
      go_wp2_with fail
      go_ret2
      exact newList_nil hB2.out
    · obtain ⟨p0, p1⟩ := inn_yes hp
      have HR : Hid (thrR n cs p = (thr cs p, 0)) := hide (by unfold thrR; rw [if_pos hok, if_pos (by omega)])
      rw [HR.out]
      have HP := hide hp
      obtain ⟨q, hq⟩ : ∃ q : Int → Bool, q = fun l => drawn l p := ⟨_, rfl⟩
      have HQ : Hid (∀ z, q z = drawn z p) := hide (fun z => by rw [hq])
      have HT : Hid (thr cs p = (cs.take cs.length).filter q) := hide (by rw [List.take_length, hq]; rfl)
      rw [HT.out]
      have hku := u64_small (k := p) (by omega) (by omega)
      clear hok hp hq
      go_enter Try.func20, Try.ntmps20
      go_wp2_with fail
      rw [← hW0]
      clear hW0
      refine (l07Is_is HOK.out hA0.out hl).mono ?_
      rintro e w1 ⟨rfl, hb1⟩
      have hB1 := hide (Below.trans' hB0.out hb1)
      have hX1 := hide (hX0.out.keep hb1)
      have hA1 := hide (hA0.out.keep hb1)
      clear hb1 c0 c1
      obtain ⟨c0, c1⟩ := hX1.out
      go_wp2_with fail
      refine (inn_is _ _ _ HP.out _).mono ?_
      rintro e w2 ⟨rfl, hb2⟩
      have hB2 := hide (Below.trans' hB1.out hb2)
      have hX2 := hide (hX1.out.keep hb2)
      have hA2 := hide (hA1.out.keep hb2)
      have hO0 : Hid (Owns w2.heap.size w2 (w2.alloc (.cells #[] 2)) (.slice (some ⟨w2.heap.size, 0, none⟩) 0 0) ((cs.take 0).filter q)) := hide (Owns.made (Below.refl _ _) (Nat.le_refl _))
      clear hb2 c0 c1
      go_wp2_with fail
      go_loopw [6, 7] (fun v i wr => ∃ (k : Nat) (v0 : Value), v0 = v ∧ k ≤ cs.length ∧ i = .int .i64 k ∧ Owns w2.heap.size w2 wr v ((cs.take k).filter q)) (fun _ i _ => cs.length - (intOf i).toNat)
      case atStart => exact ⟨0, _, rfl, Nat.zero_le _, rfl, hO0.out⟩
      case round =>
        clear hO0
        obtain ⟨k, v, rfl, hk, rfl, hO⟩ := hrel
        obtain ⟨c0, c1⟩ := hX2.out.keep hO.old
        by_cases hlt : k < cs.length
        · obtain ⟨b, off, z, rfl, hcell, hz⟩ := (hA2.out.keep hO.old).one hlt
          obtain ⟨z0, z1⟩ := hSets.out z (mem_of_get hz.out)
          have hdw := dg_walkL (E := z) (k := p) z0 (by omega)
          have hfl := take_fle (q := q) (k := k) hk100
          have HO := hide hO
          have hown := hO.own
          have hsz := hO.size
          cases hd : drawn z p
          · have hdg := dg_of_free hd
            rw [hdg] at hdw
            have HN := hide (take_no (q := q) hz.out (by rw [HQ.out]; exact hd))
            clear hO hown hd hdg hz
            go_wp2_with fail
            go_roundw
            case rel => exact ⟨k + 1, _, rfl, by omega, by go_num, by rw [HN.out]; exact HO.out⟩
            case measure => simp [intOf]; omega
          · have hdg := dg_of_drawn hd
            rw [hdg] at hdw
            have HY := hide (take_yes (q := q) hz.out (by rw [HQ.out]; exact hd))
            clear hO hd hdg hz
            go_wp2_with (at_builtin; refine wpList_append_own _ rfl _ _ 22 rfl (w2.heap.size) 2 i0 (.int .i64 0) 1 8 Try.underlying22 hi0 hz0 hz1 hz2 rfl (by decide) _ _ _ rfl (hown.alloc _) ⟨wr.heap.size, 0, none⟩ 1 1 [.int .i64 z] rfl rfl (cell_one_new _ _ _) (by simp [Value.oneCell']) (by unfold maxLen; omega) (by omega) (by simp; omega) ?_)
            intro v' w5 hown' hgrow _
            have HO5 := hide (HO.out.snoc (by simpa using hown') hgrow)
            clear hown' hgrow hown
            go_wp2_with fail
            go_roundw
            case rel => exact ⟨k + 1, _, rfl, by omega, by go_num, by rw [HY.out]; exact HO5.out⟩
            case measure => simp [intOf]; omega
        · obtain rfl : k = cs.length := by omega
          have HL := hide (hO.listC hB2.out hB2.out.size 0)
          clear hO
          go_wp2_with fail
          go_ret2
          exact HL.out
end Go.Proofs.Ytlllkmobhjlmoaa
