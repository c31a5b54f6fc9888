/-
  Texts of endings, the model's text.
-/
import Derived.Test.YtlllkmobhjlmoabDoorZd
namespace Go.Proofs.YtlllkmobhjlmoabDoor
open Go.RowKit
set_option linter.unusedVariables false

theorem pj_step (P : List UInt8) (l : List Int) (x : Int) : P ++ jn (l ++ [x]) = (if l.length = 0 then P ++ jn l else P ++ jn l ++ [44]) ++ decL x := by
  rw [jn_snoc]
  split <;> simp [List.append_assoc]

set_option maxRecDepth 100000 in
set_option maxHeartbeats 8000000 in
theorem specTxt_any (a : Option Addr) (c : Nat) (cs : List Int) (a' : Option Addr) (c' : Nat) (ls : List Int) (W : World) (ha : IntsAt W a cs) (ha' : IntsAt W a' ls) (hok : okEn cs ls = true) :
    Calls Tryd.prog 26 #[.agg #[.slice a cs.length c, .slice a' ls.length c']] W (RetB (.string ⟨(txtE cs ls).toArray⟩) W) := by
  obtain ⟨h8, hs1, hs2⟩ := okEn_parts hok
  have hm1 := srt_mem hs1
  have hm2 := srt_mem hs2
  obtain ⟨W0, hW0⟩ : ∃ W0, W0 = W.alloc (.cells #[.slice a cs.length c, .slice a' ls.length c'] 36) := ⟨_, rfl⟩
  have hB0 : Hid (Below W.heap.size W W0) := by rw [hW0]; exact hide (below_alloc _ _)
  have hX0 : Hid (EndIn W0 W.heap.size a cs.length c a' ls.length c') := by rw [hW0]; exact hide (endIn_new _ _ _ _ _ _ _ _)
  have hA0 := hide (ha.keep hB0.out)
  have hA0' := hide (ha'.keep hB0.out)
  obtain ⟨r, hr⟩ : ∃ r, r = txtE cs ls := ⟨_, rfl⟩
  rw [← hr]
  have HR := hide hr
  have HM1 := hide hm1
  have HM2 := hide hm2
  obtain ⟨n, hn⟩ : ∃ n, n = cs.length := ⟨_, rfl⟩
  obtain ⟨n', hn'⟩ : ∃ n', n' = ls.length := ⟨_, rfl⟩
  rw [← hn, ← hn'] at h8 hX0 hW0 ⊢
  have HN := hide hn
  have HN' := hide hn'
  obtain ⟨c0, c1⟩ := hX0.out
  clear ha ha' hr hm1 hm2 hs1 hs2 hok hn hn'
  go_enter Tryd.func26, Tryd.ntmps26
  go_wp2_with fail
  rw [← hW0]
  clear hW0
  (try go_wp2_with fail)
  clear c0 c1
  go_loopg [3, 4] n (fun g t i wr => ∃ (k : Nat) (l : List UInt8), k + g = n ∧ i = .int .i64 k ∧ t = .string ⟨l.toArray⟩ ∧ Hid (l = [] ++ jn (cs.take k)) ∧ Hid (Below W0.heap.size W0 wr))
  case atStart => exact ⟨0, [], by omega, rfl, rfl, hide rfl, hide (Below.refl _ _)⟩
  case round =>
    obtain ⟨k, l, hk, rfl, rfl, hl, hB⟩ := hrel
    obtain ⟨c0, c1⟩ := hX0.out.keep hB.out
    have hlen : l.length ≤ 24 := by rw [hl.out]; have := jn_le (cs.take k); simp at this ⊢; omega
    cases gk with
    | zero =>
      obtain rfl : k = n := by omega
      have hl1 : Hid (l = jn cs) := hide (by rw [hl.out, HN.out, List.take_length]; rfl)
      have hadd0 : ∀ w' : World, (Op.stringOp .add ⟨l.toArray⟩ ⟨#[59]⟩).run Tryd.prog w' = .ok (.string ⟨(l ++ [59]).toArray⟩) w' := fun w' => run_string_add_lists w' l [59] (by omega) (by simp)
      go_wp2_with fail
      clear c0 c1 hadd0
      obtain ⟨w1, hw1⟩ : ∃ w1 : World, w1 = wr := ⟨_, rfl⟩
      go_loopg [3, 5] n' (fun g t i wi => ∃ (j : Nat) (m : List UInt8), j + g = n' ∧ i = .int .i64 j ∧ t = .string ⟨m.toArray⟩ ∧ Hid (m = (l ++ [59]) ++ jn (ls.take j)) ∧ Hid (Below W0.heap.size W0 wi))
      case atStart => exact ⟨0, l ++ [59], by omega, rfl, rfl, hide (by simp [jn_nil]), hB⟩
      case round =>
        obtain ⟨j, m, hj, rfl, rfl, hmm, hBi⟩ := hrel
        obtain ⟨c0, c1⟩ := hX0.out.keep hBi.out
        have hlenm : m.length ≤ 60 := by rw [hmm.out]; have := jn_le (ls.take j); simp at this ⊢; omega
        cases gk with
        | zero =>
          obtain rfl : j = n' := by omega
          have hfin : Hid (r = m) := hide (by rw [HR.out, hmm.out, HN'.out, List.take_length, hl1.out]; rfl)
          have hbf := hide (Below.trans' hB0.out hBi.out)
          go_wp2_with fail
          refine bodyPost_ret (v := .string ⟨m.toArray⟩) (by simp [results, Tryd.results26, go_sem]) rfl ⟨by rw [hfin.out], hbf.out⟩
        | succ g2 =>
          have hjn : j < ls.length := by rw [← HN'.out]; omega
          obtain ⟨b, off, z, e0, hcell, hz⟩ := (hA0'.out.keep hBi.out).one hjn
          subst e0
          have hzb := HM2.out z (List.mem_of_getElem? hz.out)
          have hdec := hide (dec_any z (by omega) (by omega))
          have hst := pj_step (l ++ [59]) (ls.take j) z
          rw [List.length_take_of_le (by omega), ← hmm.out] at hst
          have htk : Hid (ls.take (j + 1) = ls.take j ++ [z]) := hide (by rw [List.take_add_one, hz.out]; rfl)
          obtain ⟨D, hD⟩ : ∃ D, D = decL z := ⟨_, rfl⟩
          have hDl : D.length ≤ 2 := by rw [hD]; exact decL_le z
          rw [← hD] at hdec hst
          clear hzb hD
          by_cases hj0 : j = 0
          · rw [if_pos hj0] at hst
            subst hj0
            rw [Nat.add_zero] at hcell
            have HST := hide hst
            have hadd2 : ∀ w' : World, (Op.stringOp .add ⟨m.toArray⟩ ⟨D.toArray⟩).run Tryd.prog w' = .ok (.string ⟨(m ++ D).toArray⟩) w' := fun w' => run_string_add_lists w' m D (by omega) (by omega)
            clear hst
            go_wp2_with fail
            refine (hdec.out _).mono ?_
            rintro e w5 ⟨rfl, hb5⟩
            have hB5 := hide (Below.trans' hBi.out hb5)
            clear hb5 hcell c0 c1
            go_wp2_with fail
            go_roundg g2
            case rel => exact ⟨0 + 1, m ++ D, by omega, by go_num, rfl, hide (by rw [htk.out]; exact HST.out.symm), hB5⟩
            case measure => omega
          · rw [if_neg hj0] at hst
            have HST := hide hst
            have hadd1 : ∀ w' : World, (Op.stringOp .add ⟨m.toArray⟩ ⟨#[44]⟩).run Tryd.prog w' = .ok (.string ⟨(m ++ [44]).toArray⟩) w' := fun w' => run_string_add_lists w' m [44] (by omega) (by simp)
            have hadd2 : ∀ w' : World, (Op.stringOp .add ⟨(m ++ [44]).toArray⟩ ⟨D.toArray⟩).run Tryd.prog w' = .ok (.string ⟨((m ++ [44]) ++ D).toArray⟩) w' := fun w' => run_string_add_lists w' (m ++ [44]) D (by simp; omega) (by omega)
            have hj0' : 0 < j := by omega
            clear hst
            go_wp2_with fail
            refine (hdec.out _).mono ?_
            rintro e w5 ⟨rfl, hb5⟩
            have hB5 := hide (Below.trans' hBi.out hb5)
            clear hb5 hcell c0 c1
            go_wp2_with fail
            go_roundg g2
            case rel => exact ⟨j + 1, m ++ 44 :: D, by omega, by go_num, rfl, hide (by rw [htk.out]; have h := HST.out; rw [h]; simp), hB5⟩
            case measure => omega
    | succ g2 =>
      have hjn : k < cs.length := by rw [← HN.out]; omega
      obtain ⟨b, off, z, e0, hcell, hz⟩ := (hA0.out.keep hB.out).one hjn
      subst e0
      have hzb := HM1.out z (List.mem_of_getElem? hz.out)
      have hdec := hide (dec_any z (by omega) (by omega))
      have hst := pj_step [] (cs.take k) z
      rw [List.length_take_of_le (by omega), ← hl.out] at hst
      have htk : Hid (cs.take (k + 1) = cs.take k ++ [z]) := hide (by rw [List.take_add_one, hz.out]; rfl)
      obtain ⟨D, hD⟩ : ∃ D, D = decL z := ⟨_, rfl⟩
      have hDl : D.length ≤ 2 := by rw [hD]; exact decL_le z
      rw [← hD] at hdec hst
      clear hzb hD
      by_cases hk0 : k = 0
      · rw [if_pos hk0] at hst
        subst hk0
        rw [Nat.add_zero] at hcell
        have HST := hide hst
        have hadd2 : ∀ w' : World, (Op.stringOp .add ⟨l.toArray⟩ ⟨D.toArray⟩).run Tryd.prog w' = .ok (.string ⟨(l ++ D).toArray⟩) w' := fun w' => run_string_add_lists w' l D (by omega) (by omega)
        clear hst
        go_wp2_with fail
        refine (hdec.out _).mono ?_
        rintro e w5 ⟨rfl, hb5⟩
        have hB5 := hide (Below.trans' hB.out hb5)
        clear hb5 hcell c0 c1
        go_wp2_with fail
        go_roundg g2
        case rel => exact ⟨0 + 1, l ++ D, by omega, by go_num, rfl, hide (by rw [htk.out]; exact HST.out.symm), hB5⟩
        case measure => omega
      · rw [if_neg hk0] at hst
        have HST := hide hst
        have hadd1 : ∀ w' : World, (Op.stringOp .add ⟨l.toArray⟩ ⟨#[44]⟩).run Tryd.prog w' = .ok (.string ⟨(l ++ [44]).toArray⟩) w' := fun w' => run_string_add_lists w' l [44] (by omega) (by simp)
        have hadd2 : ∀ w' : World, (Op.stringOp .add ⟨(l ++ [44]).toArray⟩ ⟨D.toArray⟩).run Tryd.prog w' = .ok (.string ⟨((l ++ [44]) ++ D).toArray⟩) w' := fun w' => run_string_add_lists w' (l ++ [44]) D (by simp; omega) (by omega)
        have hk0' : 0 < k := by omega
        clear hst
        go_wp2_with fail
        refine (hdec.out _).mono ?_
        rintro e w5 ⟨rfl, hb5⟩
        have hB5 := hide (Below.trans' hB.out hb5)
        clear hb5 hcell c0 c1
        go_wp2_with fail
        go_roundg g2
        case rel => exact ⟨k + 1, l ++ 44 :: D, by omega, by go_num, rfl, hide (by rw [htk.out]; have h := HST.out; rw [h]; simp), hB5⟩
        case measure => omega
end Go.Proofs.YtlllkmobhjlmoabDoor
