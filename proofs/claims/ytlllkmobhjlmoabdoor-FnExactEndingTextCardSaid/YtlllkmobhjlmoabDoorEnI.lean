/-
  Ends of dots and boxes: IsEnding, both texts.
-/
import Derived.Test.YtlllkmobhjlmoabDoorEn
import Derived.Test.YtlllkmobhjlmoabDoorCo
import Derived.Deep.LoopGhost
namespace Go.Proofs.YtlllkmobhjlmoabDoor
open Go.RowKit
set_option linter.unusedVariables false

def inn (n lo hi : Int) : Bool := decide (lo ≤ n) && decide (n ≤ hi)
set_option maxHeartbeats 400000 in
theorem inn_any (n lo hi : Int) (W : World) : Calls Tryd.prog 28 #[.int .i64 n, .int .i64 lo, .int .i64 hi] W (RetB (.bool (inn n lo hi)) W) := by
  by_cases h1 : lo ≤ n
  · by_cases h2 : n ≤ hi
    · go_enter Tryd.func28, Tryd.ntmps28
      go_wp2
      go_ret
      exact ⟨ret_bool (by simp [inn, h1, h2]), Below.refl _ _⟩
    · go_enter Tryd.func28, Tryd.ntmps28
      go_wp2
      go_ret
      exact ⟨ret_bool (by simp [inn, h2]), Below.refl _ _⟩
  · go_enter Tryd.func28, Tryd.ntmps28
    go_wp2
    go_ret
    exact ⟨ret_bool (by simp [inn]; omega), Below.refl _ _⟩
theorem inn_is {b : Bool} (n lo hi : Int) (h : inn n lo hi = b) (W : World) : Calls Tryd.prog 28 #[.int .i64 n, .int .i64 lo, .int .i64 hi] W (RetB (.bool b) W) := by
  rw [← h]
  exact inn_any n lo hi W

set_option maxHeartbeats 400000 in
theorem isSorted_any (a : Option Addr) (c : Nat) (l : List Int) (lo : Int) (W : World) (ha : IntsAt W a l) (hl : l.length ≤ 1048576) :
    Calls Tryd.prog 38 #[.slice a l.length c, .int .i64 lo, .int .i64 30] W fun e W' => e = .returned (.bool (srt lo l)) ∧ W = W' := by
  obtain ⟨r, hr⟩ : ∃ r, r = srt lo l := ⟨_, rfl⟩
  rw [← hr]
  have HR := hide hr
  clear hr
  go_enter Tryd.func38, Tryd.ntmps38
  go_wp2
  go_loop [1, 11] (fun s i => ∃ (k : Nat) (m : Int), s = .int .i64 m ∧ k ≤ l.length ∧ i = .int .i64 k ∧ Hid (srt m (l.drop k) = r)) (fun _ i => l.length - (intOf i).toNat)
  case atStart => exact ⟨0, lo, rfl, Nat.zero_le _, rfl, by rw [List.drop_zero]; exact HR.out.symm⟩
  case round =>
    obtain ⟨k, m, rfl, hk, rfl, hS⟩ := hrel
    by_cases hlt : k < l.length
    · obtain ⟨b, off, z, rfl, hcell, hz⟩ := ha.one hlt
      have hD : Hid (srt m (z :: l.drop (k + 1)) = r) := hide (by rw [← drop_of_get hz.out]; exact hS.out)
      clear ha hS
      by_cases h1 : z < m
      · have hf : Hid (r = false) := hide (by rw [← hD.out, srt_low h1])
        go_wp2
        go_ret
        exact ⟨by rw [hf.out]; rfl, rfl⟩
      · by_cases h2 : 30 < z
        · have hf : Hid (r = false) := hide (by rw [← hD.out, srt_high h2])
          go_wp2
          go_ret
          exact ⟨by rw [hf.out]; rfl, rfl⟩
        · have hn : Hid (srt z (l.drop (k + 1)) = r) := hide (by rw [← hD.out, srt_yes (by omega) (by omega)])
          go_wp2
          go_round
          case rel => exact ⟨k + 1, z, rfl, by omega, by go_num, hn.out⟩
          case measure => simp [intOf]; omega
    · have hf : Hid (r = true) := hide (by rw [← hS.out, List.drop_eq_nil_of_le (by omega)]; rfl)
      clear hS
      go_wp2
      go_ret
      exact ⟨by rw [hf.out]; rfl, rfl⟩

set_option maxHeartbeats 1000000 in
theorem ascends_any (a : Option Addr) (c : Nat) (l : List Int) (lo : Int) (W : World) (ha : IntsAt W a l) (hl : l.length ≤ 1048576) :
    Calls Tryd.prog 37 #[.slice a l.length c, .int .i64 lo] W (RetB (.bool (srt lo l)) W) := by
  obtain ⟨r, hr⟩ : ∃ r, r = srt lo l := ⟨_, rfl⟩
  rw [← hr]
  have HR := hide hr
  have HL := hide hl
  clear hr
  go_enter Tryd.func37, Tryd.ntmps37
  go_wp2
  go_loopw [5] (fun i wr => ∃ (k : Nat) (m : Int), k ≤ l.length ∧ i = .int .i64 k ∧ lo ≤ m ∧ Hid ((k = 0 ∧ m = lo) ∨ ∃ j, k = j + 1 ∧ l[j]? = some m) ∧ Hid (srt m (l.drop k) = r) ∧ Below W.heap.size W wr) (fun i _ => l.length - (intOf i).toNat)
  case atStart => exact ⟨0, lo, Nat.zero_le _, rfl, Int.le_refl _, .inl ⟨rfl, rfl⟩, by rw [List.drop_zero]; exact HR.out.symm, Below.refl _ _⟩
  case round =>
    obtain ⟨k, m, hk, rfl, hlo, hP, hS, hB⟩ := hrel
    by_cases hlt : k < l.length
    · obtain ⟨z, hz⟩ : ∃ z, l[k]? = some z := ⟨_, List.getElem?_eq_getElem hlt⟩
      obtain ⟨b, off, rfl, hcells⟩ := (ha.keep hB).get hlt
      have hc1 := hcells k hlt
      rw [hz] at hc1
      have hD : Hid (srt m (z :: l.drop (k + 1)) = r) := hide (by rw [← drop_of_get hz]; exact hS.out)
      have c1 : ∀ p : Past wr, p.to.cell? ⟨b, off + k, none⟩ = some (.int .i64 z) := fun p => p.cell hc1
      have HB := hide hB
      have HZ := hide hz
      clear ha hS hc1 hz
      cases hi : inn z lo 30
      · have H1 := hide hi
        have hf : Hid (r = false) := hide (by
          simp only [inn, Bool.and_eq_false_iff, decide_eq_false_iff_not] at hi
          rcases hi with hi | hi
          · rw [← hD.out, srt_low (by omega)]
          · rw [← hD.out, srt_high (by omega)])
        clear hi hB hP hlo hcells
        go_wp2_with fail
        refine wp_region_past (by kernel_rfl) (by kernel_rfl) ?_
        repeat (first | go_big_quiet_step ((go_at_call 28; (with_reducible exact ret_past (inn_is _ _ _ H1.out _)))) | quiet_step ((go_at_call 28; (with_reducible exact ret_past (inn_is _ _ _ H1.out _)))))
        refine wpQuiet_nil ?_
        rintro _ ⟨pq, rfl⟩
        go_wp2_with fail
        go_ret
        exact ⟨by rw [hf.out]; rfl, Below.trans' HB.out pq.old⟩
      · have H1 := hide hi
        have hz30 : lo ≤ z ∧ z ≤ 30 := by simpa [inn] using hi
        clear hi
        rcases hP.out with ⟨rfl, rfl⟩ | ⟨j, rfl, hj⟩
        · have hn : Hid (srt z (l.drop (0 + 1)) = r) := hide (by rw [← hD.out, srt_yes hz30.1 hz30.2])
          have HZ3 := hide hz30
          have HLO := hide hlo
          rw [Nat.add_zero] at c1
          clear hB hP hcells hz30 hlo
          go_wp2_with fail
          refine wp_region_past (by kernel_rfl) (by kernel_rfl) ?_
          repeat (first | go_big_quiet_step ((go_at_call 28; (with_reducible exact ret_past (inn_is _ _ _ H1.out _)))) | quiet_step ((go_at_call 28; (with_reducible exact ret_past (inn_is _ _ _ H1.out _)))))
          refine wpQuiet_nil ?_
          rintro _ ⟨pq, rfl⟩
          go_wp2_with fail
          go_roundw
          case rel => exact ⟨0 + 1, z, by omega, by go_num, by have := HZ3.out; omega, .inr ⟨0, rfl, HZ.out⟩, hn.out, Below.trans' HB.out pq.old⟩
          case measure => simp [intOf]; omega
        · have hc0 := hcells j (by omega)
          rw [hj] at hc0
          have c0 : ∀ p : Past wr, p.to.cell? ⟨b, off + j, none⟩ = some (.int .i64 m) := fun p => p.cell hc0
          have hLl := HL.out
          have e1 : IntKind.i64.wrap (((j + 1 : Nat) : Int) - 1) = (j : Int) := by rw [IntKind.wrap_i64]; omega
          have e2 : (((j + 1 : Nat) : Int) - 1) = (j : Int) := by omega
          by_cases hmz : z < m
          · have hf : Hid (r = false) := hide (by rw [← hD.out, srt_low hmz])
            clear hB hP hcells hz30 hlo hj hc0
            go_wp2_with fail
            refine wp_region_past (by kernel_rfl) (by kernel_rfl) ?_
            repeat (first | go_big_quiet_step ((go_at_call 28; (with_reducible exact ret_past (inn_is _ _ _ H1.out _)))) | quiet_step ((go_at_call 28; (with_reducible exact ret_past (inn_is _ _ _ H1.out _)))))
            refine wpQuiet_nil ?_
            rintro _ ⟨pq, rfl⟩
            go_wp2_with fail
            go_ret
            exact ⟨by rw [hf.out]; rfl, Below.trans' HB.out pq.old⟩
          · have hn : Hid (srt z (l.drop (j + 1 + 1)) = r) := hide (by rw [← hD.out, srt_yes (by omega) hz30.2])
            have HLO : Hid (lo ≤ z) := hide hz30.1
            clear hB hP hcells hz30 hlo hj hc0
            go_wp2_with fail
            refine wp_region_past (by kernel_rfl) (by kernel_rfl) ?_
            repeat (first | go_big_quiet_step ((go_at_call 28; (with_reducible exact ret_past (inn_is _ _ _ H1.out _)))) | quiet_step ((go_at_call 28; (with_reducible exact ret_past (inn_is _ _ _ H1.out _)))))
            refine wpQuiet_nil ?_
            rintro _ ⟨pq, rfl⟩
            go_wp2_with fail
            go_roundw
            case rel => exact ⟨j + 1 + 1, z, by omega, by go_num, HLO.out, .inr ⟨j + 1, rfl, HZ.out⟩, hn.out, Below.trans' HB.out pq.old⟩
            case measure => simp [intOf]; omega
    · have hf : Hid (r = true) := hide (by rw [← hS.out, List.drop_eq_nil_of_le (by omega)]; rfl)
      clear hS hP
      go_wp2
      go_ret
      exact ⟨by rw [hf.out]; rfl, hB⟩

theorem calls_eq {P : Program} {f : FuncId} {args : Array Value} {W : World} {v : Value} (h : Calls P f args W fun e W' => e = .returned v ∧ W = W') : Calls P f args W (RetB v W) := h.mono fun _ _ h => by obtain ⟨h1, rfl⟩ := h; exact ⟨h1, Below.refl _ _⟩

set_option maxHeartbeats 1000000 in
theorem implIsE_any (a : Option Addr) (c : Nat) (cs : List Int) (a' : Option Addr) (c' : Nat) (ls : List Int) (W : World) (ha : IntsAt W a cs) (ha' : IntsAt W a' ls) (hl : cs.length ≤ 1048576) (hl' : ls.length ≤ 1048576) :
    Calls Tryd.prog 27 #[.agg #[.slice a cs.length c, .slice a' ls.length c']] W (RetB (.bool (okEn cs ls)) W) := by
  obtain ⟨W0, hW0⟩ : ∃ W0, W0 = W.alloc (.cells #[.slice a cs.length c, .slice a' ls.length c'] 36) := ⟨_, rfl⟩
  have hB0 : Hid (Below W.heap.size W W0) := by rw [hW0]; exact hide (below_alloc _ _)
  have hX0 : Hid (EndIn W0 W.heap.size a cs.length c a' ls.length c') := by rw [hW0]; exact hide (endIn_new _ _ _ _ _ _ _ _)
  have hA0 := hide (ha.keep hB0.out)
  have hA0' := hide (ha'.keep hB0.out)
  obtain ⟨r, hr⟩ : ∃ r, r = okEn cs ls := ⟨_, rfl⟩
  rw [← hr]
  have HR := hide hr
  obtain ⟨c0, c1⟩ := hX0.out
  clear ha ha' hr
  by_cases h8 : cs.length + ls.length ≤ 8
  · have H8 := hide h8
    cases h1 : srt 1 cs
    · have hf : Hid (r = false) := hide (by rw [HR.out, okEn_one h1])
      have H1 := hide h1
      clear h1
      go_enter Tryd.func27, Tryd.ntmps27
      go_wp2_with fail
      rw [← hW0]
      clear hW0
      refine (isSorted_any _ _ cs _ _ hA0.out hl).mono ?_
      rw [H1.out]
      rintro e w1 ⟨rfl, rfl⟩
      go_wp2_with fail
      go_ret
      exact ⟨by rw [hf.out]; rfl, hB0.out⟩
    · have hf : Hid (r = srt 4 ls) := hide (by rw [HR.out, okEn_rest h8 h1])
      have H1 := hide h1
      clear h1
      go_enter Tryd.func27, Tryd.ntmps27
      go_wp2_with fail
      rw [← hW0]
      clear hW0
      refine (isSorted_any _ _ cs _ _ hA0.out hl).mono ?_
      rw [H1.out]
      rintro e w1 ⟨rfl, rfl⟩
      go_wp2_with fail
      refine (isSorted_any _ _ ls _ _ hA0'.out hl').mono ?_
      rw [← hf.out]
      rintro e w1 ⟨rfl, rfl⟩
      go_wp2_with fail
      go_ret
      exact ⟨rfl, hB0.out⟩
  · have hf : Hid (r = false) := hide (by rw [HR.out, okEn_many h8])
    have h8' : ¬ ((cs.length : Int) + (ls.length : Int) ≤ 8) := by omega
    go_enter Tryd.func27, Tryd.ntmps27
    go_wp2_with fail
    rw [← hW0]
    clear hW0
    (try go_wp2_with fail)
    go_ret
    exact ⟨by rw [hf.out]; rfl, hB0.out⟩

set_option maxHeartbeats 1000000 in
theorem specIs_any (a : Option Addr) (c : Nat) (cs : List Int) (a' : Option Addr) (c' : Nat) (ls : List Int) (W : World) (ha : IntsAt W a cs) (ha' : IntsAt W a' ls) (hl : cs.length ≤ 1048576) (hl' : ls.length ≤ 1048576) :
    Calls Tryd.prog 25 #[.agg #[.slice a cs.length c, .slice a' ls.length c']] W (RetB (.bool (okEn cs ls)) W) := by
  obtain ⟨W0, hW0⟩ : ∃ W0, W0 = W.alloc (.cells #[.slice a cs.length c, .slice a' ls.length c'] 36) := ⟨_, rfl⟩
  have hB0 : Hid (Below W.heap.size W W0) := by rw [hW0]; exact hide (below_alloc _ _)
  have hX0 : Hid (EndIn W0 W.heap.size a cs.length c a' ls.length c') := by rw [hW0]; exact hide (endIn_new _ _ _ _ _ _ _ _)
  have hA0 := hide (ha.keep hB0.out)
  have hA0' := hide (ha'.keep hB0.out)
  obtain ⟨r, hr⟩ : ∃ r, r = okEn cs ls := ⟨_, rfl⟩
  rw [← hr]
  have HR := hide hr
  obtain ⟨c0, c1⟩ := hX0.out
  clear ha ha' hr
  by_cases h8 : cs.length + ls.length ≤ 8
  · have H8 := hide h8
    cases h1 : srt 1 cs
    · have hf : Hid (r = false) := hide (by rw [HR.out, okEn_one h1])
      have H1 := hide h1
      clear h1
      go_enter Tryd.func25, Tryd.ntmps25
      go_wp2_with fail
      rw [← hW0]
      clear hW0
      refine (ascends_any _ _ cs _ _ hA0.out hl).mono ?_
      rw [H1.out]
      rintro e w1 ⟨rfl, hb1⟩
      have hB1 := hide (Below.trans' hB0.out hb1)
      clear hb1 c0 c1
      go_wp2_with fail
      go_ret
      exact ⟨by rw [hf.out]; rfl, hB1.out⟩
    · have hf : Hid (r = srt 4 ls) := hide (by rw [HR.out, okEn_rest h8 h1])
      have H1 := hide h1
      clear h1
      go_enter Tryd.func25, Tryd.ntmps25
      go_wp2_with fail
      rw [← hW0]
      clear hW0
      refine (ascends_any _ _ cs _ _ hA0.out hl).mono ?_
      rw [H1.out]
      rintro e w1 ⟨rfl, hb1⟩
      have hB1 := hide (Below.trans' hB0.out hb1)
      have hA1' := hide (hA0'.out.keep hb1)
      obtain ⟨d0, d1⟩ := hX0.out.keep hb1
      clear hb1 c0 c1
      go_wp2_with fail
      refine (ascends_any _ _ ls _ _ hA1'.out hl').mono ?_
      rw [← hf.out]
      rintro e w2 ⟨rfl, hb2⟩
      have hB2 := hide (Below.trans' hB1.out hb2)
      clear hb2 d0 d1
      go_wp2_with fail
      go_ret
      exact ⟨rfl, hB2.out⟩
  · have hf : Hid (r = false) := hide (by rw [HR.out, okEn_many h8])
    have h8' : ¬ ((cs.length : Int) + (ls.length : Int) ≤ 8) := by omega
    go_enter Tryd.func25, Tryd.ntmps25
    go_wp2_with fail
    rw [← hW0]
    clear hW0
    (try go_wp2_with fail)
    go_ret
    exact ⟨by rw [hf.out]; rfl, hB0.out⟩

end Go.Proofs.YtlllkmobhjlmoabDoor
