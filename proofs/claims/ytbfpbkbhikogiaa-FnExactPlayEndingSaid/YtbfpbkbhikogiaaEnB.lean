/-
  Ends of dots and boxes: BoxesOf, both texts.
-/
import Derived.Test.YtbfpbkbhikogiaaStr
namespace Go.Proofs.Ytbfpbkbhikogiaa
open Go.RowKit
set_option linter.unusedVariables false

def boxR (cs ls : List Int) : Int × Int := if okEn cs ls = true then (sumL cs + sumL ls, 0) else (0, 1)
theorem sumL_strs (cs ls : List Int) : sumL ((strs cs ls).map (·.2)) = sumL cs + sumL ls := by
  have h : ∀ (k : Int) (l : List Int), (l.map (fun b => (k, b))).map (·.2) = l := by
    intro k l
    induction l with
    | nil => rfl
    | cons x r ih => simp only [List.map_cons, ih]
  unfold strs
  rw [List.map_append, h, h, sumL_append]
theorem sumTo_bd {l : List Int} (h : ∀ x ∈ l, 0 ≤ x ∧ x ≤ 30) (hl : l.length ≤ 8) (k : Nat) : 0 ≤ sumL (l.take k) ∧ sumL (l.take k) ≤ 240 := by
  have h2 := sumL_bd (l.take k) (fun x hx => h x (List.mem_of_mem_take hx))
  have h3 := List.length_take_le k l
  have h4 := List.length_take_le' k l
  omega
theorem okEn_bd {cs ls : List Int} (h : okEn cs ls = true) : (∀ x ∈ cs, 0 ≤ x ∧ x ≤ 30) ∧ (∀ x ∈ ls, 0 ≤ x ∧ x ≤ 30) ∧ cs.length ≤ 8 ∧ ls.length ≤ 8 := by
  obtain ⟨h8, h1, h2⟩ := okEn_parts h
  exact ⟨fun x hx => by have := srt_mem h1 x hx; omega, fun x hx => by have := srt_mem h2 x hx; omega, by omega, by omega⟩

set_option maxHeartbeats 1000000 in
theorem sums_any (a : Option Addr) (c : Nat) (l : List Int) (W : World) (ha : IntsAt W a l) (hb : ∀ x ∈ l, 0 ≤ x ∧ x ≤ 30) (hl : l.length ≤ 8) :
    Calls Try.prog 88 #[.slice a l.length c] W (RetB (.int .i64 (sumL l)) W) := by
  have HS : Hid (∀ k, 0 ≤ sumL (l.take k) ∧ sumL (l.take k) ≤ 240) := hide (sumTo_bd hb hl)
  have HB := hide hb
  clear hb
  go_enter Try.func88, Try.ntmps88
  go_wp2
  go_loop [3, 4] (fun s i => ∃ k : Nat, k ≤ l.length ∧ i = .int .i64 k ∧ s = .int .i64 (sumL (l.take k))) (fun _ i => l.length - (intOf i).toNat)
  case atStart => exact ⟨0, Nat.zero_le _, rfl, rfl⟩
  case round =>
    obtain ⟨k, hk, rfl, rfl⟩ := hrel
    by_cases hlt : k < l.length
    · obtain ⟨b, off, z, rfl, hcell, hz⟩ := ha.one hlt
      obtain ⟨n, hn⟩ : ∃ n, n = sumL (l.take k) := ⟨_, rfl⟩
      have hbd := HS.out k
      have hzb := HB.out z (mem_of_get hz.out)
      rw [← hn] at hbd ⊢
      have hN : Hid (sumL (l.take (k + 1)) = n + z) := hide (by rw [sumL_take hz.out, hn])
      clear hn ha
      go_wp2_with fail
      go_round
      case rel => exact ⟨k + 1, by omega, by go_num, by rw [hN.out]⟩
      case measure => simp [intOf]; omega
    · obtain rfl : k = l.length := by omega
      go_wp2_with fail
      go_ret
      exact ⟨by first | rfl | (rw [List.take_length]; rfl), Below.refl _ _⟩

set_option maxRecDepth 100000 in
set_option maxHeartbeats 1000000 in
theorem specBoxes_any (a : Option Addr) (c : Nat) (cs : List Int) (a' : Option Addr) (c' : Nat) (ls : List Int) (W : World) (ha : IntsAt W a cs) (ha' : IntsAt W a' ls) (hl : cs.length ≤ 1048576) (hl' : ls.length ≤ 1048576) :
    Calls Try.prog 50 #[.agg #[.slice a cs.length c, .slice a' ls.length c']] W (RetB (numV (boxR cs ls)) W) := by
  obtain ⟨W0, hW0⟩ : ∃ W0, W0 = W.alloc (.cells #[.slice a cs.length c, .slice a' ls.length c'] 26) := ⟨_, rfl⟩
  have hB0 : Hid (Below W.heap.size W W0) := by rw [hW0]; exact hide (below_alloc _ _)
  have hX0 : Hid (EndIn W0 W.heap.size a cs.length c a' ls.length c') := by rw [hW0]; exact hide (endIn_new _ _ _ _ _ _ _ _)
  have hA0 := hide (ha.keep hB0.out)
  have hA0' := hide (ha'.keep hB0.out)
  obtain ⟨r, hr⟩ : ∃ r, r = boxR cs ls := ⟨_, rfl⟩
  rw [← hr]
  unfold boxR at hr
  obtain ⟨c0, c1⟩ := hX0.out
  clear ha ha'
  cases hok : okEn cs ls
  · have HR : Hid (r = (0, 1)) := hide (by rw [hr, hok]; rfl)
    have HK := hide hok
    clear hr hok
    go_enter Try.func50, Try.ntmps50
    go_wp2_with fail
    rw [← hW0]
    clear hW0
    (try go_wp2_with fail)
    refine (specIs_any _ _ cs _ _ ls _ hA0.out hA0'.out hl hl').mono ?_
    rw [HK.out]
    rintro e w1 ⟨rfl, hb1⟩
    have hB1 := hide (Below.trans' hB0.out hb1)
    clear hb1 c0 c1
    go_wp2_with fail
    go_ret2
    exact ⟨by rw [HR.out]; rfl, hB1.out⟩
  · have HR : Hid (r = (sumL cs + sumL ls, 0)) := hide (by rw [hr, hok]; rfl)
    have HK := hide hok
    have HE := hide (okEn_bd hok)
    obtain ⟨n, hn⟩ : ∃ n, n = sumL cs := ⟨_, rfl⟩
    obtain ⟨m, hm⟩ : ∃ m, m = sumL ls := ⟨_, rfl⟩
    have hnb : 0 ≤ n ∧ n ≤ 240 := by rw [hn]; have := sumTo_bd HE.out.1 HE.out.2.2.1 cs.length; rwa [List.take_length] at this
    have hmb : 0 ≤ m ∧ m ≤ 240 := by rw [hm]; have := sumTo_bd HE.out.2.1 HE.out.2.2.2 ls.length; rwa [List.take_length] at this
    have HNM := hide (And.intro hn hm)
    obtain ⟨n1, n2⟩ := hnb
    obtain ⟨m1, m2⟩ := hmb
    clear hr hok hn hm
    go_enter Try.func50, Try.ntmps50
    go_wp2_with fail
    rw [← hW0]
    clear hW0
    (try go_wp2_with fail)
    refine (specIs_any _ _ cs _ _ ls _ hA0.out hA0'.out hl hl').mono ?_
    rw [HK.out]
    rintro e w1 ⟨rfl, hb1⟩
    have hB1 := hide (Below.trans' hB0.out hb1)
    have hA1 := hide (hA0.out.keep hb1)
    have hA1' := hide (hA0'.out.keep hb1)
    have hX1 := hX0.out.keep hb1
    clear hb1 c0 c1
    obtain ⟨c0, c1⟩ := hX1.past
    have S1 : Hid (∀ p : Past w1, Calls Try.prog 88 #[.slice a cs.length c] p.to (RetB (.int .i64 n) p.to)) := hide (fun p => by rw [HNM.out.1]; exact sums_any _ _ cs _ (p.ints hA1.out) HE.out.1 HE.out.2.2.1)
    have S2 : Hid (∀ p : Past w1, Calls Try.prog 88 #[.slice a' ls.length c'] p.to (RetB (.int .i64 m) p.to)) := hide (fun p => by rw [HNM.out.2]; exact sums_any _ _ ls _ (p.ints hA1'.out) HE.out.2.1 HE.out.2.2.2)
    go_wp2_with fail
    refine wp_region_past (by kernel_rfl) (by kernel_rfl) ?_
    repeat (first | go_big_quiet_step ((go_at_call 88; (first | (with_reducible exact ret_past (S1.out _)) | (with_reducible exact ret_past (S2.out _))))) | quiet_step ((go_at_call 88; (first | (with_reducible exact ret_past (S1.out _)) | (with_reducible exact ret_past (S2.out _))))))
    refine wpQuiet_nil ?_
    rintro _ ⟨pq, rfl⟩
    go_wp2_with fail
    go_ret2
    exact ⟨by rw [HR.out, HNM.out.1, HNM.out.2]; rfl, Below.trans' hB1.out pq.old⟩

set_option maxRecDepth 100000 in
set_option maxHeartbeats 1000000 in
theorem implBoxes_any (a : Option Addr) (c : Nat) (cs : List Int) (a' : Option Addr) (c' : Nat) (ls : List Int) (W : World) (ha : IntsAt W a cs) (ha' : IntsAt W a' ls) (hl : cs.length ≤ 1048576) (hl' : ls.length ≤ 1048576) :
    Calls Try.prog 34 #[.agg #[.slice a cs.length c, .slice a' ls.length c']] W (RetB (numV (boxR cs ls)) W) := by
  obtain ⟨W0, hW0⟩ : ∃ W0, W0 = W.alloc (.cells #[.slice a cs.length c, .slice a' ls.length c'] 26) := ⟨_, rfl⟩
  have hB0 : Hid (Below W.heap.size W W0) := by rw [hW0]; exact hide (below_alloc _ _)
  have hX0 : Hid (EndIn W0 W.heap.size a cs.length c a' ls.length c') := by rw [hW0]; exact hide (endIn_new _ _ _ _ _ _ _ _)
  have hA0 := hide (ha.keep hB0.out)
  have hA0' := hide (ha'.keep hB0.out)
  obtain ⟨r, hr⟩ : ∃ r, r = boxR cs ls := ⟨_, rfl⟩
  rw [← hr]
  unfold boxR at hr
  obtain ⟨c0, c1⟩ := hX0.out
  clear ha ha'
  cases hok : okEn cs ls
  · have HR : Hid (r = (0, 1)) := hide (by rw [hr, hok]; rfl)
    have HK := hide hok
    clear hr hok
    go_enter Try.func34, Try.ntmps34
    go_wp2_with fail
    rw [← hW0]
    clear hW0
    (try go_wp2_with fail)
    refine (implIsE_any _ _ cs _ _ ls _ hA0.out hA0'.out hl hl').mono ?_
    rw [HK.out]
    rintro e w1 ⟨rfl, hb1⟩
    have hB1 := hide (Below.trans' hB0.out hb1)
    clear hb1 c0 c1
    go_wp2_with fail
    go_ret2
    exact ⟨by rw [HR.out]; rfl, hB1.out⟩
  · have HR : Hid (r = (sumL cs + sumL ls, 0)) := hide (by rw [hr, hok]; rfl)
    have HK := hide hok
    obtain ⟨ss, hss⟩ : ∃ ss, ss = strs cs ls := ⟨_, rfl⟩
    have HSS := hide hss
    have h8 := (okEn_parts hok).1
    have hs8 : ss.length ≤ 8 := by rw [hss, strs_len]; exact h8
    have hsm : ∀ x ∈ ss.map (·.2), 0 ≤ x ∧ x ≤ 30 := by
      intro x hx
      obtain ⟨s, hs, rfl⟩ := List.mem_map.1 hx
      rw [hss] at hs
      have := strs_mem hok s hs
      omega
    have HS : Hid (∀ k, 0 ≤ sumL ((ss.map (·.2)).take k) ∧ sumL ((ss.map (·.2)).take k) ≤ 240) := hide (sumTo_bd hsm (by simpa using hs8))
    have HM := hide hsm
    have HF : Hid (sumL (ss.map (·.2)) = sumL cs + sumL ls) := hide (by rw [hss, sumL_strs])
    clear hr hok hss hsm
    go_enter Try.func34, Try.ntmps34
    go_wp2_with fail
    rw [← hW0]
    clear hW0
    (try go_wp2_with fail)
    refine (implIsE_any _ _ cs _ _ ls _ hA0.out hA0'.out hl hl').mono ?_
    rw [HK.out]
    rintro e w1 ⟨rfl, hb1⟩
    have hB1 := hide (Below.trans' hB0.out hb1)
    have hA1 := hide (hA0.out.keep hb1)
    have hA1' := hide (hA0'.out.keep hb1)
    have hX1 := hX0.out.keep hb1
    clear hb1 c0 c1
    obtain ⟨c0, c1⟩ := hX1
    go_wp2_with fail
    refine (strandsOf_any _ _ cs _ _ ls _ hA1.out hA1'.out h8).mono ?_
    rw [← HSS.out]
    rintro e w2 ⟨a2, k2, rfl, ho2, hb2⟩
    have hB2 := hide (Below.trans' hB1.out hb2)
    have hS2 := hide (sliceS_of_own ho2)
    clear hb2 ho2 c0 c1
    go_wp2_with fail
    go_loopw [4, 13] (fun s i wr => ∃ k : Nat, k ≤ ss.length ∧ i = .int .i64 k ∧ s = .int .i64 (sumL ((ss.map (·.2)).take k)) ∧ Below w2.heap.size w2 wr) (fun _ i _ => ss.length - (intOf i).toNat)
    case atStart => exact ⟨0, Nat.zero_le _, rfl, rfl, Below.refl _ _⟩
    case round =>
      obtain ⟨k, hk, rfl, rfl, hB⟩ := hrel
      by_cases hlt : k < ss.length
      · obtain ⟨g, x, y, rfl, e0, e1, hz⟩ := (hS2.out.keep hB).one hlt
        obtain ⟨n, hn⟩ : ∃ n, n = sumL ((ss.map (·.2)).take k) := ⟨_, rfl⟩
        have hbd := HS.out k
        have hzy : (ss.map (·.2))[k]? = some y := by rw [List.getElem?_map, hz.out]; rfl
        have hzb := HM.out y (mem_of_get hzy)
        rw [← hn] at hbd ⊢
        have hN : Hid (sumL ((ss.map (·.2)).take (k + 1)) = n + y) := hide (by rw [sumL_take hzy, hn])
        have HBB := hide (hB.alloc hB.size (.cells #[.int .i64 x, .int .i64 y] 65))
        clear hn hzy hB
        go_wp2_with fail
        go_roundw
        case rel => exact ⟨k + 1, by omega, by go_num, by rw [hN.out], HBB.out⟩
        case measure => simp [intOf]; omega
      · obtain rfl : k = ss.length := by omega
        have hfin : Hid (Below W.heap.size W wr) := hide (Below.trans' hB2.out hB)
        clear hB
        go_wp2_with fail
        go_ret2
        exact ⟨by rw [HR.out, ← HF.out, ← List.length_map (f := fun s : Int × Int => s.2), List.take_length]; rfl, hfin.out⟩
end Go.Proofs.Ytbfpbkbhikogiaa
