/-
  Ends of dots and boxes: the best opening, the model's text.
-/
import Derived.Test.YtbfpbkbhikogiabVs
import Derived.Deep.DeepCutAuto
namespace Go.Proofs.Ytbfpbkbhikogiab
open Go.RowKit
set_option linter.unusedVariables false

set_option maxRecDepth 100000 in
set_option maxHeartbeats 8000000 in
theorem opening_any (n : Nat) (a : Option Addr) (c : Nat) (cs : List Int) (a' : Option Addr) (c' : Nat) (ls : List Int) (W : World) (ha : IntsAt W a cs) (ha' : IntsAt W a' ls) (hok : okEn cs ls = true) (hn : cs.length + ls.length = n + 1)
    (hV : ∀ (a : Option Addr) (c : Nat) (cs : List Int) (a' : Option Addr) (c' : Nat) (ls : List Int) (W : World), IntsAt W a cs → IntsAt W a' ls → okEn cs ls = true → cs.length + ls.length = n → Calls Try.prog 11 #[.agg #[.slice a cs.length c, .slice a' ls.length c']] W (RetB (.int .i64 (vT (cntL cs ls))) W)) :
    Calls Try.prog 21 #[.agg #[.slice a cs.length c, .slice a' ls.length c']] W (RetB (.tuple #[.bool (lV (some (opT (cntL cs ls)))), .int .i64 (xV (some (opT (cntL cs ls)))), .int .i64 (bV (cntL cs ls) (some (opT (cntL cs ls))))]) W) := by
  obtain ⟨W0, hW0⟩ : ∃ W0, W0 = W.alloc (.cells #[.slice a cs.length c, .slice a' ls.length c'] 33) := ⟨_, rfl⟩
  have hB0 : Hid (Below W.heap.size W W0) := by rw [hW0]; exact hide (below_alloc _ _)
  have hX0 : Hid (EndIn W0 W.heap.size a cs.length c a' ls.length c') := by rw [hW0]; exact hide (endIn_new _ _ _ _ _ _ _ _)
  have hA0 := hide (ha.keep hB0.out)
  have hA0' := hide (ha'.keep hB0.out)
  obtain ⟨L, hL⟩ : ∃ L, L = cntL cs ls := ⟨_, rfl⟩
  have hOT := okT_cnt hok
  have hf0 := fld0 hok
  have hf1 := fld1 hok
  have hsum : (cntL cs ls).sum = n + 1 := by
    rw [cntL_sum cs ls (fun x hx => by have := (okEn_rng hok).1 x hx; omega) (fun x hx => by have := (okEn_rng hok).2 x hx; omega)]
    exact hn
  have hpb : ∀ m, m < 62 → 0 < tg L m → 1 ≤ bxs m ∧ bxs m ≤ 30 := by rw [hL]; exact fun m h1 h2 => bxs_pos hok h1 h2
  rw [← hL] at hOT hf0 hf1 hsum ⊢
  have HL := hide hL
  have HOT := hide hOT
  have F0 := hide hf0
  have F1 := hide hf1
  have HPB := hide hpb
  have HOK := hide hok
  have HNL := hide hn
  have HV := hide hV
  have h8 := (okEn_parts hok).1
  have HN8 := hide h8
  have hlc : cs.length ≤ 8 := by omega
  have hll : ls.length ≤ 8 := by omega
  have hop : Hid (bst (tkT L) (plc L) = some (opT L)) := hide (bst_op hOT.1 (by omega))
  have hst : Hid (Best L 0 none) := hide ⟨by rw [seen_zero]; rfl⟩
  obtain ⟨c0, c1⟩ := hX0.out
  clear ha ha' hL hOT hf0 hf1 hpb hok hV hsum h8 hn
  go_enter Try.func21, Try.ntmps21
  go_wp2_with fail
  rw [← hW0]
  clear hW0
  (try go_wp2_with fail)
  go_loopg [5, 6, 7, 8] 2 (fun g s5 s6 s7 s8 wr => ∃ (k : Nat) (o : Option Nat), k + g = 2 ∧ s8 = .int .i64 k ∧ s5 = .int .i64 (bV L o) ∧ s6 = .bool (lV o) ∧ s7 = .int .i64 (xV o) ∧ Best L (31 * k) o ∧ Below W0.heap.size W0 wr)
  case atStart => exact ⟨0, none, by omega, rfl, rfl, rfl, rfl, hst.out, Below.refl _ _⟩
  case round =>
    clear hst c0 c1
    obtain ⟨k, o, hk, rfl, rfl, rfl, rfl, ho, hB⟩ := hrel
    cases gk with
    | zero =>
      obtain rfl : k = 2 := by omega
      obtain rfl : o = some (opT L) := by rw [ho.is, show 31 * 2 = 62 by omega, seen_all]; exact hop.out
      have hfin := hide (Below.trans' hB0.out hB)
      obtain ⟨B1, hB1⟩ : ∃ B1, B1 = bV L (some (opT L)) := ⟨_, rfl⟩
      obtain ⟨B2, hB2⟩ : ∃ B2, B2 = lV (some (opT L)) := ⟨_, rfl⟩
      obtain ⟨B3, hB3⟩ : ∃ B3, B3 = xV (some (opT L)) := ⟨_, rfl⟩
      have HBB := hide (And.intro hB1 (And.intro hB2 hB3))
      rw [← hB1, ← hB2, ← hB3]
      clear ho hB hB1 hB2 hB3
      go_wp2_with fail
      refine bodyPost_ret (v := .tuple #[.bool B2, .int .i64 B3, .int .i64 B1]) (by simp [results, Try.results21, go_sem]) rfl ⟨by rw [← HBB.out.1, ← HBB.out.2.1, ← HBB.out.2.2], hfin.out⟩
    | succ g =>
      rcases (by omega : k = 0 ∨ k = 1) with rfl | rfl
      · -- k = 0
        obtain ⟨wo, hwo⟩ : ∃ wo : World, wo = wr := ⟨_, rfl⟩
        have HO := hide ho
        have HBW := hide hB
        have hbg : Hid (Best L 0 o) := hide (by simpa using ho)
        obtain ⟨c0, c1⟩ := hX0.out.keep hB
        clear ho hB
        go_wp2_with fail
        go_loopg [5, 6, 7, 10] cs.length (fun g2 s5 s6 s7 i wi => ∃ (j bd : Nat) (o : Option Nat), j + g2 = cs.length ∧ i = .int .i64 j ∧ s5 = .int .i64 (bV L o) ∧ s6 = .bool (lV o) ∧ s7 = .int .i64 (xV o) ∧ BdOk cs 0 j bd ∧ Best L bd o ∧ Below W0.heap.size W0 wi)
        case atStart => exact ⟨0, 0, o, by omega, rfl, rfl, rfl, rfl, .inl ⟨rfl, rfl⟩, hbg.out, HBW.out⟩
        case round =>
          clear HO HBW hbg hwo c0 c1
          obtain ⟨j, bd, o, hj, rfl, rfl, rfl, rfl, hbd, hbe, hB⟩ := hrel
          have HBD := hide hbd
          have HBE := hide hbe
          have HBW := hide hB
          obtain ⟨c0, c1⟩ := hX0.out.keep hB
          have hAr := hide (hA0.out.keep hB)
          clear hbd hbe hB
          cases gk with
          | zero =>
            obtain rfl : j = cs.length := by omega
            have hbn : Hid (Best L (31 * (0 + 1)) o) := hide (by have := F0.out.done HBD.out; exact ⟨by rw [HBE.out.is]; rw [show 31 * (0 + 1) = 0 + 31 by omega, this]⟩)
            clear c0 c1
            go_wp2_with fail
            go_roundg g
            case rel => exact ⟨0 + 1, o, by omega, by go_num, rfl, rfl, rfl, hbn.out, HBW.out⟩
            case measure => omega
          | succ g2 =>
            have hlt : j < cs.length := by omega
            obtain ⟨z, hz⟩ : ∃ z, cs[j]? = some z := ⟨_, List.getElem?_eq_getElem hlt⟩
            obtain ⟨bb, off, rfl, hcells⟩ := hAr.out.get hlt
            have hcz := hcells j hlt
            rw [hz] at hcz
            simp only [Option.getD_some] at hcz
            have hzr := F0.out.rng z (List.mem_of_getElem? hz)
            have HZ := hide hz
            by_cases hdup : ∃ i y, j = i + 1 ∧ cs[i]? = some y ∧ y = z
            · obtain ⟨i, y, rfl, hy, rfl⟩ := hdup
              have hcy := hcells i (by omega)
              rw [hy] at hcy
              simp only [Option.getD_some] at hcy
              have hbn := hide (bd_dup HBD.out hy hz)
              have e1 : IntKind.i64.wrap (((i + 1 : Nat) : Int) - 1) = (i : Int) := by rw [IntKind.wrap_i64]; omega
              have e2 : (((i + 1 : Nat) : Int) - 1) = (i : Int) := by omega
              clear hcells hz hy
              go_wp2_with fail
              go_quiet (fail)
              have hB2 := hide (HBW.out.trans (below_drewN (Below.refl _ _) nq))
              go_wp2_with fail
              go_roundg g2
              case rel => exact ⟨i + 1 + 1, bd, o, by omega, by go_num, rfl, rfl, rfl, hbn.out, HBE.out, hB2.out⟩
              case measure => omega
            · have hsn : Hid (seen L (0 + z.toNat + 1) = seen L bd ++ [0 + z.toNat]) := hide (F0.out.new HBD.out hz (fun i y e hy ez => hdup ⟨i, y, e, hy, ez⟩))
              have hbn : Hid (BdOk cs 0 (j + 1) (0 + z.toNat + 1)) := hide (bd_put hz)
              have hpu := hide (HBE.out.put hsn.out)
              obtain ⟨pz, hpz⟩ : ∃ pz, pz = 0 + z.toNat := ⟨_, rfl⟩
              rw [← hpz] at hpu hbn
              have hkz : knd pz = 0 ∧ bxs pz = z := by unfold knd bxs; omega
              have hpos : 0 < tg L pz := by rw [hpz]; exact F0.out.pos z (List.mem_of_getElem? hz)
              have hp62 : pz < 62 := by omega
              obtain ⟨T, hT⟩ : ∃ T, T = tkT L pz := ⟨_, rfl⟩
              have hTb : -360 ≤ T ∧ T ≤ 360 := by rw [hT]; exact HOT.out.tk hp62 hpos
              obtain ⟨V, hV0⟩ : ∃ V, V = vT (decT L pz) := ⟨_, rfl⟩
              have hVb : -320 ≤ V ∧ V ≤ 320 := by rw [hV0]; exact (HOT.out.dec pz hpos).bd
              have hTV : Hid (T = (ansB (kindOf false) z V).1) := hide (by rw [hT, hV0]; unfold tkT; rw [hkz.1, hkz.2]; rfl)
              have hmem := List.mem_of_getElem? hz
              have hcnt : Hid (cntL (cs.erase z) (ls) = decT L pz) := hide (by rw [HL.out, hpz, Nat.zero_add]; exact cntL_erase0 (by omega) hmem)
              have hlen : Hid ((cs.erase z).length + (ls).length = n) := hide (by have := HNL.out; have := List.length_erase_of_mem hmem; omega)
              have hok2 : Hid (okEn (cs.erase z) ls = true) := hide (okEn_mk (by have := hlen.out; have := HN8.out; have := HNL.out; omega) (srt_erase (okEn_parts HOK.out).2.1) (okEn_parts HOK.out).2.2)
              have HT := hide hT
              have HV0 := hide hV0
              have HKZ := hide hkz
              have HPZ := hide hpz
              have HPOS := hide hpos
              clear hT hV0 hkz hpz hpos hmem hp62
              obtain ⟨f2, hf2⟩ : ∃ f2, f2 = (ansB (kindOf false) z V).2 := ⟨_, rfl⟩
              have hAns : Hid (∀ W' : World, Calls Try.prog 28 #[.bool false, .int .i64 z, .int .i64 V] W' (RetB (.tuple #[.int .i64 T, .bool f2]) W')) := hide (fun W' => by
                have h := answer_any false z V W' (by omega) hzr.2 hVb.1 hVb.2
                unfold ansV at h
                rw [← hf2, ← hTV.out] at h
                exact h)
              have hwo : Hid (woL cs ls false z = ((cs.erase z), ls, decide (z ∈ cs))) := hide rfl
              obtain ⟨f3, hf3⟩ : ∃ f3, f3 = decide (z ∈ cs) := ⟨_, rfl⟩
              rw [← hf3] at hwo
              obtain ⟨xs, hxs⟩ : ∃ xs, xs = (cs.erase z) := ⟨_, rfl⟩
              obtain ⟨ys, hys⟩ : ∃ ys, ys = ls := ⟨_, rfl⟩
              have hval : Hid (∀ (a c a' c') (W' : World), IntsAt W' a xs → IntsAt W' a' ys → Calls Try.prog 11 #[.agg #[.slice a xs.length c, .slice a' ys.length c']] W' (RetB (.int .i64 V) W')) := hide (fun a c a' c' W' h1 h2 => by
                have h := HV.out a c xs a' c' ys W' h1 h2 (by rw [hxs, hys]; exact hok2.out) (by rw [hxs, hys]; exact hlen.out)
                rw [show cntL xs ys = decT L pz by rw [hxs, hys]; exact hcnt.out, ← HV0.out] at h
                exact h)
              have hwoc : Hid (woL cs ls false z = (xs, ys, f3)) := hide (by rw [hwo.out, hxs, hys])
              have hxl : xs.length ≤ 8 := by have := hlen.out; have := HNL.out; have := HN8.out; rw [hxs]; omega
              have hyl : ys.length ≤ 8 := by have := hlen.out; have := HNL.out; have := HN8.out; rw [hys]; omega
              clear hf2 hf3 hxs hys hwo
              obtain ⟨hz1, hz2⟩ := hzr
              obtain ⟨hT0, hT1⟩ := hTb
              obtain ⟨hV1, hV2⟩ := hVb
              have hcase : (j = 0) ∨ ∃ i y, j = i + 1 ∧ cs[i]? = some y ∧ y ≠ z := by
                rcases Nat.eq_zero_or_pos j with h0 | h0
                · exact .inl h0
                · obtain ⟨i, rfl⟩ : ∃ i, j = i + 1 := ⟨j - 1, by omega⟩
                  obtain ⟨y, hy⟩ : ∃ y, cs[i]? = some y := ⟨_, List.getElem?_eq_getElem (by omega)⟩
                  exact .inr ⟨i, y, rfl, hy, fun e => hdup ⟨i, y, rfl, hy, e⟩⟩
              clear hz hdup
              refine Or.elim hcase (fun h0 => ?_) (fun h1 => ?_)
              have hj0 : decide (0 < j) = false := decide_eq_false (by omega)
              clear h0 hcells hcase
              go_wp2_with fail
              go_quiet (fail)
              rotate_left
              obtain ⟨i, y, hij, hy, hyz⟩ := h1
              have e2 : (j : Int) - 1 = (i : Int) := by omega
              have hcy := hcells i (by omega)
              rw [hy] at hcy
              simp only [Option.getD_some] at hcy
              have hj0 : decide (0 < j) = true := decide_eq_true (by omega)
              have e1 : IntKind.i64.wrap ((j : Int) - 1) = (i : Int) := by rw [IntKind.wrap_i64]; omega
              have hil : (i : Int) < (cs.length : Int) := by omega
              have hi0 : 0 ≤ (i : Int) := by omega
              have hzy : (z == y) = false := by rw [beq_eq_false_iff_ne]; exact fun e => hyz e.symm
              clear hy hyz hij hcells hcase
              go_wp2_with fail
              go_quiet (fail)
              all_goals
                obtain ⟨W5, hW5⟩ : ∃ W5, W5 = wr.drewN nq := ⟨_, rfl⟩
                have hB5 : Below W0.heap.size W0 W5 := by rw [hW5]; exact HBW.out.trans (below_drewN (Below.refl _ _) nq)
                have hX5 := hX0.out.keep hB5
                have hz5 : Hid (∀ V, Below W5.heap.size W5 V → V.cell? ⟨bb, off + j, none⟩ = some (.int .i64 z)) := hide (fun V hV => by
                  have h := (hAr.out.keep (show Below wr.heap.size wr V from (by rw [hW5] at hV; exact (below_drewN (Below.refl _ _) nq).trans (hV.mono (by simp)))) ).get hlt
                  obtain ⟨b', o', e, hc⟩ := h
                  cases e
                  have := hc j hlt
                  rw [HZ.out] at this
                  exact this)
                have HB5 := hide hB5
                have HX5 := hide hX5
                rw [← hW5]
                clear hW5 hB5 hX5 c0 c1 hcz hj0
                have hc5 := hz5.out W5 (Below.refl _ _)
                obtain ⟨c0, c1⟩ := HX5.out
                have hd : Below W5.heap.size W5 W5.drew := Below.drew (Below.refl _ _)
                have hI : Hid (∀ V, Below W5.heap.size W5 V → IntsAt V (some ⟨bb, off, none⟩) cs ∧ IntsAt V a' ls) := hide (fun V hV => ⟨hA0.out.keep (Below.trans' HB5.out hV), hA0'.out.keep (Below.trans' HB5.out hV)⟩)
                have hlc1 : Hid (cs.length ≤ 1048576) := hide (by omega)
                have hll1 : Hid (ls.length ≤ 1048576) := hide (by omega)
                go_upto_region 12 with fail
                go_cut [11] (fun s11 wx => CutPost W5 xs ys s11 wx)
                case first =>
                  go_region_held3 (fun V => V.cell? ⟨bb, off + j, none⟩ = some (.int .i64 z) ∧ V.cell? ⟨W.heap.size, 0, none⟩ = some (.slice (some ⟨bb, off, none⟩) cs.length c) ∧ V.cell? ⟨W.heap.size, 1, none⟩ = some (.slice a' ls.length c'))
                    (first | (have BB : Below W5.heap.size W5 W5.drew := hd; exact ⟨cell_keep BB hc5, cell_keep BB c0, cell_keep BB c1⟩) | (refine ⟨cell_keep ?_ hc5, cell_keep ?_ c0, cell_keep ?_ c1⟩ <;> (repeat (first | exact hd | exact Below.refl _ _ | refine Below.drew ?_ | refine Below.alloc' ?_ _ | (refine Below.trans' ?_ hb3) | (refine Below.setCell ?_ (by first | exact Nat.le_refl _ | (simp; omega)) _)))))
                    ((go_at_call 27; (first | (with_reducible refine (without_at _ _ cs _ _ ls false z xs ys f3 hwoc.out _ (hI.out _ hd).1 (hI.out _ hd).2 hlc1.out hll1.out).mono ?_) | (with_reducible refine (without_at _ _ cs _ _ ls false z xs ys f3 hwoc.out _ (hI.out _ ((below_alloc _ _).drew)).1 (hI.out _ ((below_alloc _ _).drew)).2 hlc1.out hll1.out).mono ?_)); rintro e1 w3 ⟨a6, k6, a6', k6', rfl, ho6, ho6', hap, hb3⟩; (have HO6 := hide (And.intro ho6 ho6')); (have hz3 : W5.heap.size ≤ w3.heap.size := by (have hq := hb3.size); (try simp at hq); omega); (try have hb4 : Hid (w3.heap[W5.heap.size]? = some (.cells #[.slice none 0 0, .slice none 0 0] 33 (0, 0))) := hide (box_keep (w := (W5.alloc (.cells #[.slice none 0 0, .slice none 0 0] 33)).drew) (heap_alloc_new W5 _) hb3)); (try have q0 := (row2' hb4.out).1); (try have q1 := (row2' hb4.out).2.1); (try have f0 := (row2' hb4.out).2.2.1); (try have f1 := (row2' hb4.out).2.2.2); clear ho6 ho6' hap))
                  all_goals (go_wp2_with fail; go_meet; first | exact cut_new hd HO6.out.1 HO6.out.2 hb3 | exact cut_new ((below_alloc _ _).drew) HO6.out.1 HO6.out.2 hb3 | exact cut_old ((below_alloc _ _).drew) (Nat.le_refl _) (by simp) (heap_alloc_new W5 _) HO6.out.1 HO6.out.2 hb3)
                case rest =>
                  obtain ⟨nb, a6, k6, a6', k6', rfl, hE6, hI6, hI6', hb6⟩ := hcut
                  have hz6 := hz5.out _ hb6
                  have HB6 := hide (Below.trans' HB5.out hb6)
                  obtain ⟨n0, n1⟩ := hE6.past
                  have nz : ∀ p : Past wc, p.to.cell? ⟨bb, off + j, none⟩ = some (.int .i64 z) := fun p => p.cell hz6
                  have hvc : Hid (∀ p : Past wc, Calls Try.prog 11 #[.agg #[.slice a6 xs.length k6, .slice a6' ys.length k6']] p.to (RetB (.int .i64 V) p.to)) := hide (fun p => hval.out _ _ _ _ _ (hI6.keep p.old) (hI6'.keep p.old))
                  clear c0 c1 hc5 hd hE6 hI6 hI6' hb6 hz6 hz5 hval hwoc
                  cases o with
                  | none =>
                    have hnew : Hid (Best L (pz + 1) (some pz)) := hpu
                    simp only [bV, lV, xV]
                    go_wp2_with fail
                    refine wp_region_past (by kernel_rfl) (by kernel_rfl) ?_
                    repeat (first | go_big_quiet_step ((first | (go_at_call 11; (with_reducible exact ret_past (hvc.out _))) | (go_at_call 28; (with_reducible exact ret_past (hAns.out _))))) | quiet_step ((first | (go_at_call 11; (with_reducible exact ret_past (hvc.out _))) | (go_at_call 28; (with_reducible exact ret_past (hAns.out _))))))
                    refine wpQuiet_nil ?_
                    rintro _ ⟨pq, rfl⟩
                    have HB7 := hide (Below.trans' HB6.out pq.old)
                    have nz7 := nz pq
                    clear n0 n1 nz
                    go_wp2_with fail
                    go_roundg g2
                    case rel => exact ⟨j + 1, pz + 1, some pz, by omega, by go_num, (by show Value.int .i64 (-T) = .int .i64 (-tkT L pz); rw [HT.out]), (by show Value.bool false = .bool (decide (knd pz = 1)); rw [HKZ.out.1]; rfl), (by show Value.int .i64 z = .int .i64 (bxs pz); rw [HKZ.out.2]), hbn.out, hnew.out, HB7.out⟩
                    case measure => omega
                  | some m =>
                    have hmm := HBE.out.mem
                    have hxm := HPB.out m hmm.1 hmm.2
                    have htm := HOT.out.tk hmm.1 hmm.2
                    obtain ⟨X, hX⟩ : ∃ X, X = bxs m := ⟨_, rfl⟩
                    obtain ⟨D, hD⟩ : ∃ D, D = tkT L m := ⟨_, rfl⟩
                    obtain ⟨lm, hlm⟩ : ∃ lm, lm = decide (knd m = 1) := ⟨_, rfl⟩
                    simp only [bV, lV, xV]
                    rw [← hX, ← hD, ← hlm]
                    rw [← hX] at hxm
                    rw [← hD] at htm
                    obtain ⟨hx1, hx2⟩ := hxm
                    obtain ⟨ht1, ht2⟩ := htm
                    have hX0n : (X == 0) = false := by rw [beq_eq_false_iff_ne]; omega
                    have HXD := hide (And.intro hX (And.intro hD hlm))
                    have hput : Hid (Best L (pz + 1) (if T < D then some pz else some m)) := hide (by have := hpu.out; rw [HT.out, hD]; exact this)
                    clear hmm hX hD hlm
                    by_cases hup : T < D
                    · have hnew : Hid (Best L (pz + 1) (some pz)) := hide (by have := hput.out; rw [if_pos hup] at this; exact this)
                      go_wp2_with fail
                      refine wp_region_past (by kernel_rfl) (by kernel_rfl) ?_
                      repeat (first | go_big_quiet_step ((first | (go_at_call 11; (with_reducible exact ret_past (hvc.out _))) | (go_at_call 28; (with_reducible exact ret_past (hAns.out _))))) | quiet_step ((first | (go_at_call 11; (with_reducible exact ret_past (hvc.out _))) | (go_at_call 28; (with_reducible exact ret_past (hAns.out _))))))
                      refine wpQuiet_nil ?_
                      rintro _ ⟨pq, rfl⟩
                      have HB7 := hide (Below.trans' HB6.out pq.old)
                      have nz7 := nz pq
                      clear n0 n1 nz
                      go_wp2_with fail
                      go_roundg g2
                      case rel => exact ⟨j + 1, pz + 1, some pz, by omega, by go_num, (by show Value.int .i64 (-T) = .int .i64 (-tkT L pz); rw [HT.out]), (by show Value.bool false = .bool (decide (knd pz = 1)); rw [HKZ.out.1]; rfl), (by show Value.int .i64 z = .int .i64 (bxs pz); rw [HKZ.out.2]), hbn.out, hnew.out, HB7.out⟩
                      case measure => omega
                    · have hnew : Hid (Best L (pz + 1) (some m)) := hide (by have := hput.out; rw [if_neg hup] at this; exact this)
                      go_wp2_with fail
                      refine wp_region_past (by kernel_rfl) (by kernel_rfl) ?_
                      repeat (first | go_big_quiet_step ((first | (go_at_call 11; (with_reducible exact ret_past (hvc.out _))) | (go_at_call 28; (with_reducible exact ret_past (hAns.out _))))) | quiet_step ((first | (go_at_call 11; (with_reducible exact ret_past (hvc.out _))) | (go_at_call 28; (with_reducible exact ret_past (hAns.out _))))))
                      refine wpQuiet_nil ?_
                      rintro _ ⟨pq, rfl⟩
                      have HB7 := hide (Below.trans' HB6.out pq.old)
                      have nz7 := nz pq
                      clear n0 n1 nz
                      go_wp2_with fail
                      go_roundg g2
                      case rel => exact ⟨j + 1, pz + 1, some m, by omega, by go_num, (by show Value.int .i64 (-D) = .int .i64 (-tkT L m); rw [HXD.out.2.1]), (by show Value.bool lm = .bool (decide (knd m = 1)); rw [HXD.out.2.2]), (by show Value.int .i64 X = .int .i64 (bxs m); rw [HXD.out.1]), hbn.out, hnew.out, HB7.out⟩
                      case measure => omega
      · -- k = 1
        obtain ⟨wo, hwo⟩ : ∃ wo : World, wo = wr := ⟨_, rfl⟩
        have HO := hide ho
        have HBW := hide hB
        have hbg : Hid (Best L 31 o) := hide (by simpa using ho)
        obtain ⟨c0, c1⟩ := hX0.out.keep hB
        clear ho hB
        go_wp2_with fail
        go_loopg [5, 6, 7, 10] ls.length (fun g2 s5 s6 s7 i wi => ∃ (j bd : Nat) (o : Option Nat), j + g2 = ls.length ∧ i = .int .i64 j ∧ s5 = .int .i64 (bV L o) ∧ s6 = .bool (lV o) ∧ s7 = .int .i64 (xV o) ∧ BdOk ls 31 j bd ∧ Best L bd o ∧ Below W0.heap.size W0 wi)
        case atStart => exact ⟨0, 31, o, by omega, rfl, rfl, rfl, rfl, .inl ⟨rfl, rfl⟩, hbg.out, HBW.out⟩
        case round =>
          clear HO HBW hbg hwo c0 c1
          obtain ⟨j, bd, o, hj, rfl, rfl, rfl, rfl, hbd, hbe, hB⟩ := hrel
          have HBD := hide hbd
          have HBE := hide hbe
          have HBW := hide hB
          obtain ⟨c0, c1⟩ := hX0.out.keep hB
          have hAr := hide (hA0'.out.keep hB)
          clear hbd hbe hB
          cases gk with
          | zero =>
            obtain rfl : j = ls.length := by omega
            have hbn : Hid (Best L (31 * (1 + 1)) o) := hide (by have := F1.out.done HBD.out; exact ⟨by rw [HBE.out.is]; rw [show 31 * (1 + 1) = 31 + 31 by omega, this]⟩)
            clear c0 c1
            go_wp2_with fail
            go_roundg g
            case rel => exact ⟨1 + 1, o, by omega, by go_num, rfl, rfl, rfl, hbn.out, HBW.out⟩
            case measure => omega
          | succ g2 =>
            have hlt : j < ls.length := by omega
            obtain ⟨z, hz⟩ : ∃ z, ls[j]? = some z := ⟨_, List.getElem?_eq_getElem hlt⟩
            obtain ⟨bb, off, rfl, hcells⟩ := hAr.out.get hlt
            have hcz := hcells j hlt
            rw [hz] at hcz
            simp only [Option.getD_some] at hcz
            have hzr := F1.out.rng z (List.mem_of_getElem? hz)
            have HZ := hide hz
            by_cases hdup : ∃ i y, j = i + 1 ∧ ls[i]? = some y ∧ y = z
            · obtain ⟨i, y, rfl, hy, rfl⟩ := hdup
              have hcy := hcells i (by omega)
              rw [hy] at hcy
              simp only [Option.getD_some] at hcy
              have hbn := hide (bd_dup HBD.out hy hz)
              have e1 : IntKind.i64.wrap (((i + 1 : Nat) : Int) - 1) = (i : Int) := by rw [IntKind.wrap_i64]; omega
              have e2 : (((i + 1 : Nat) : Int) - 1) = (i : Int) := by omega
              clear hcells hz hy
              go_wp2_with fail
              go_quiet (fail)
              have hB2 := hide (HBW.out.trans (below_drewN (Below.refl _ _) nq))
              go_wp2_with fail
              go_roundg g2
              case rel => exact ⟨i + 1 + 1, bd, o, by omega, by go_num, rfl, rfl, rfl, hbn.out, HBE.out, hB2.out⟩
              case measure => omega
            · have hsn : Hid (seen L (31 + z.toNat + 1) = seen L bd ++ [31 + z.toNat]) := hide (F1.out.new HBD.out hz (fun i y e hy ez => hdup ⟨i, y, e, hy, ez⟩))
              have hbn : Hid (BdOk ls 31 (j + 1) (31 + z.toNat + 1)) := hide (bd_put hz)
              have hpu := hide (HBE.out.put hsn.out)
              obtain ⟨pz, hpz⟩ : ∃ pz, pz = 31 + z.toNat := ⟨_, rfl⟩
              rw [← hpz] at hpu hbn
              have hkz : knd pz = 1 ∧ bxs pz = z := by unfold knd bxs; omega
              have hpos : 0 < tg L pz := by rw [hpz]; exact F1.out.pos z (List.mem_of_getElem? hz)
              have hp62 : pz < 62 := by omega
              obtain ⟨T, hT⟩ : ∃ T, T = tkT L pz := ⟨_, rfl⟩
              have hTb : -360 ≤ T ∧ T ≤ 360 := by rw [hT]; exact HOT.out.tk hp62 hpos
              obtain ⟨V, hV0⟩ : ∃ V, V = vT (decT L pz) := ⟨_, rfl⟩
              have hVb : -320 ≤ V ∧ V ≤ 320 := by rw [hV0]; exact (HOT.out.dec pz hpos).bd
              have hTV : Hid (T = (ansB (kindOf true) z V).1) := hide (by rw [hT, hV0]; unfold tkT; rw [hkz.1, hkz.2]; rfl)
              have hmem := List.mem_of_getElem? hz
              have hcnt : Hid (cntL (cs) (ls.erase z) = decT L pz) := hide (by rw [HL.out, hpz]; exact cntL_erase1 (by omega) hmem)
              have hlen : Hid ((cs).length + (ls.erase z).length = n) := hide (by have := HNL.out; have := List.length_erase_of_mem hmem; omega)
              have hok2 : Hid (okEn cs (ls.erase z) = true) := hide (okEn_mk (by have := hlen.out; have := HN8.out; have := HNL.out; omega) (okEn_parts HOK.out).2.1 (srt_erase (okEn_parts HOK.out).2.2))
              have HT := hide hT
              have HV0 := hide hV0
              have HKZ := hide hkz
              have HPZ := hide hpz
              have HPOS := hide hpos
              clear hT hV0 hkz hpz hpos hmem hp62
              obtain ⟨f2, hf2⟩ : ∃ f2, f2 = (ansB (kindOf true) z V).2 := ⟨_, rfl⟩
              have hAns : Hid (∀ W' : World, Calls Try.prog 28 #[.bool true, .int .i64 z, .int .i64 V] W' (RetB (.tuple #[.int .i64 T, .bool f2]) W')) := hide (fun W' => by
                have h := answer_any true z V W' (by omega) hzr.2 hVb.1 hVb.2
                unfold ansV at h
                rw [← hf2, ← hTV.out] at h
                exact h)
              have hwo : Hid (woL cs ls true z = (cs, (ls.erase z), decide (z ∈ ls))) := hide rfl
              obtain ⟨f3, hf3⟩ : ∃ f3, f3 = decide (z ∈ ls) := ⟨_, rfl⟩
              rw [← hf3] at hwo
              obtain ⟨xs, hxs⟩ : ∃ xs, xs = cs := ⟨_, rfl⟩
              obtain ⟨ys, hys⟩ : ∃ ys, ys = (ls.erase z) := ⟨_, rfl⟩
              have hval : Hid (∀ (a c a' c') (W' : World), IntsAt W' a xs → IntsAt W' a' ys → Calls Try.prog 11 #[.agg #[.slice a xs.length c, .slice a' ys.length c']] W' (RetB (.int .i64 V) W')) := hide (fun a c a' c' W' h1 h2 => by
                have h := HV.out a c xs a' c' ys W' h1 h2 (by rw [hxs, hys]; exact hok2.out) (by rw [hxs, hys]; exact hlen.out)
                rw [show cntL xs ys = decT L pz by rw [hxs, hys]; exact hcnt.out, ← HV0.out] at h
                exact h)
              have hwoc : Hid (woL cs ls true z = (xs, ys, f3)) := hide (by rw [hwo.out, hxs, hys])
              have hxl : xs.length ≤ 8 := by have := hlen.out; have := HNL.out; have := HN8.out; rw [hxs]; omega
              have hyl : ys.length ≤ 8 := by have := hlen.out; have := HNL.out; have := HN8.out; rw [hys]; omega
              clear hf2 hf3 hxs hys hwo
              obtain ⟨hz1, hz2⟩ := hzr
              obtain ⟨hT0, hT1⟩ := hTb
              obtain ⟨hV1, hV2⟩ := hVb
              have hcase : (j = 0) ∨ ∃ i y, j = i + 1 ∧ ls[i]? = some y ∧ y ≠ z := by
                rcases Nat.eq_zero_or_pos j with h0 | h0
                · exact .inl h0
                · obtain ⟨i, rfl⟩ : ∃ i, j = i + 1 := ⟨j - 1, by omega⟩
                  obtain ⟨y, hy⟩ : ∃ y, ls[i]? = some y := ⟨_, List.getElem?_eq_getElem (by omega)⟩
                  exact .inr ⟨i, y, rfl, hy, fun e => hdup ⟨i, y, rfl, hy, e⟩⟩
              clear hz hdup
              refine Or.elim hcase (fun h0 => ?_) (fun h1 => ?_)
              have hj0 : decide (0 < j) = false := decide_eq_false (by omega)
              clear h0 hcells hcase
              go_wp2_with fail
              go_quiet (fail)
              rotate_left
              obtain ⟨i, y, hij, hy, hyz⟩ := h1
              have e2 : (j : Int) - 1 = (i : Int) := by omega
              have hcy := hcells i (by omega)
              rw [hy] at hcy
              simp only [Option.getD_some] at hcy
              have hj0 : decide (0 < j) = true := decide_eq_true (by omega)
              have e1 : IntKind.i64.wrap ((j : Int) - 1) = (i : Int) := by rw [IntKind.wrap_i64]; omega
              have hil : (i : Int) < (ls.length : Int) := by omega
              have hi0 : 0 ≤ (i : Int) := by omega
              have hzy : (z == y) = false := by rw [beq_eq_false_iff_ne]; exact fun e => hyz e.symm
              clear hy hyz hij hcells hcase
              go_wp2_with fail
              go_quiet (fail)
              all_goals
                obtain ⟨W5, hW5⟩ : ∃ W5, W5 = wr.drewN nq := ⟨_, rfl⟩
                have hB5 : Below W0.heap.size W0 W5 := by rw [hW5]; exact HBW.out.trans (below_drewN (Below.refl _ _) nq)
                have hX5 := hX0.out.keep hB5
                have hz5 : Hid (∀ V, Below W5.heap.size W5 V → V.cell? ⟨bb, off + j, none⟩ = some (.int .i64 z)) := hide (fun V hV => by
                  have h := (hAr.out.keep (show Below wr.heap.size wr V from (by rw [hW5] at hV; exact (below_drewN (Below.refl _ _) nq).trans (hV.mono (by simp)))) ).get hlt
                  obtain ⟨b', o', e, hc⟩ := h
                  cases e
                  have := hc j hlt
                  rw [HZ.out] at this
                  exact this)
                have HB5 := hide hB5
                have HX5 := hide hX5
                rw [← hW5]
                clear hW5 hB5 hX5 c0 c1 hcz hj0
                have hc5 := hz5.out W5 (Below.refl _ _)
                obtain ⟨c0, c1⟩ := HX5.out
                have hd : Below W5.heap.size W5 W5.drew := Below.drew (Below.refl _ _)
                have hI : Hid (∀ V, Below W5.heap.size W5 V → IntsAt V a cs ∧ IntsAt V (some ⟨bb, off, none⟩) ls) := hide (fun V hV => ⟨hA0.out.keep (Below.trans' HB5.out hV), hA0'.out.keep (Below.trans' HB5.out hV)⟩)
                have hlc1 : Hid (cs.length ≤ 1048576) := hide (by omega)
                have hll1 : Hid (ls.length ≤ 1048576) := hide (by omega)
                go_upto_region 12 with fail
                go_cut [11] (fun s11 wx => CutPost W5 xs ys s11 wx)
                case first =>
                  go_region_held3 (fun V => V.cell? ⟨bb, off + j, none⟩ = some (.int .i64 z) ∧ V.cell? ⟨W.heap.size, 0, none⟩ = some (.slice a cs.length c) ∧ V.cell? ⟨W.heap.size, 1, none⟩ = some (.slice (some ⟨bb, off, none⟩) ls.length c'))
                    (first | (have BB : Below W5.heap.size W5 W5.drew := hd; exact ⟨cell_keep BB hc5, cell_keep BB c0, cell_keep BB c1⟩) | (refine ⟨cell_keep ?_ hc5, cell_keep ?_ c0, cell_keep ?_ c1⟩ <;> (repeat (first | exact hd | exact Below.refl _ _ | refine Below.drew ?_ | refine Below.alloc' ?_ _ | (refine Below.trans' ?_ hb3) | (refine Below.setCell ?_ (by first | exact Nat.le_refl _ | (simp; omega)) _)))))
                    ((go_at_call 27; (first | (with_reducible refine (without_at _ _ cs _ _ ls true z xs ys f3 hwoc.out _ (hI.out _ hd).1 (hI.out _ hd).2 hlc1.out hll1.out).mono ?_) | (with_reducible refine (without_at _ _ cs _ _ ls true z xs ys f3 hwoc.out _ (hI.out _ ((below_alloc _ _).drew)).1 (hI.out _ ((below_alloc _ _).drew)).2 hlc1.out hll1.out).mono ?_)); rintro e1 w3 ⟨a6, k6, a6', k6', rfl, ho6, ho6', hap, hb3⟩; (have HO6 := hide (And.intro ho6 ho6')); (have hz3 : W5.heap.size ≤ w3.heap.size := by (have hq := hb3.size); (try simp at hq); omega); (try have hb4 : Hid (w3.heap[W5.heap.size]? = some (.cells #[.slice none 0 0, .slice none 0 0] 33 (0, 0))) := hide (box_keep (w := (W5.alloc (.cells #[.slice none 0 0, .slice none 0 0] 33)).drew) (heap_alloc_new W5 _) hb3)); (try have q0 := (row2' hb4.out).1); (try have q1 := (row2' hb4.out).2.1); (try have f0 := (row2' hb4.out).2.2.1); (try have f1 := (row2' hb4.out).2.2.2); clear ho6 ho6' hap))
                  all_goals (go_wp2_with fail; go_meet; first | exact cut_new hd HO6.out.1 HO6.out.2 hb3 | exact cut_new ((below_alloc _ _).drew) HO6.out.1 HO6.out.2 hb3 | exact cut_old ((below_alloc _ _).drew) (Nat.le_refl _) (by simp) (heap_alloc_new W5 _) HO6.out.1 HO6.out.2 hb3)
                case rest =>
                  obtain ⟨nb, a6, k6, a6', k6', rfl, hE6, hI6, hI6', hb6⟩ := hcut
                  have hz6 := hz5.out _ hb6
                  have HB6 := hide (Below.trans' HB5.out hb6)
                  obtain ⟨n0, n1⟩ := hE6.past
                  have nz : ∀ p : Past wc, p.to.cell? ⟨bb, off + j, none⟩ = some (.int .i64 z) := fun p => p.cell hz6
                  have hvc : Hid (∀ p : Past wc, Calls Try.prog 11 #[.agg #[.slice a6 xs.length k6, .slice a6' ys.length k6']] p.to (RetB (.int .i64 V) p.to)) := hide (fun p => hval.out _ _ _ _ _ (hI6.keep p.old) (hI6'.keep p.old))
                  clear c0 c1 hc5 hd hE6 hI6 hI6' hb6 hz6 hz5 hval hwoc
                  cases o with
                  | none =>
                    have hnew : Hid (Best L (pz + 1) (some pz)) := hpu
                    simp only [bV, lV, xV]
                    go_wp2_with fail
                    refine wp_region_past (by kernel_rfl) (by kernel_rfl) ?_
                    repeat (first | go_big_quiet_step ((first | (go_at_call 11; (with_reducible exact ret_past (hvc.out _))) | (go_at_call 28; (with_reducible exact ret_past (hAns.out _))))) | quiet_step ((first | (go_at_call 11; (with_reducible exact ret_past (hvc.out _))) | (go_at_call 28; (with_reducible exact ret_past (hAns.out _))))))
                    refine wpQuiet_nil ?_
                    rintro _ ⟨pq, rfl⟩
                    have HB7 := hide (Below.trans' HB6.out pq.old)
                    have nz7 := nz pq
                    clear n0 n1 nz
                    go_wp2_with fail
                    go_roundg g2
                    case rel => exact ⟨j + 1, pz + 1, some pz, by omega, by go_num, (by show Value.int .i64 (-T) = .int .i64 (-tkT L pz); rw [HT.out]), (by show Value.bool true = .bool (decide (knd pz = 1)); rw [HKZ.out.1]; rfl), (by show Value.int .i64 z = .int .i64 (bxs pz); rw [HKZ.out.2]), hbn.out, hnew.out, HB7.out⟩
                    case measure => omega
                  | some m =>
                    have hmm := HBE.out.mem
                    have hxm := HPB.out m hmm.1 hmm.2
                    have htm := HOT.out.tk hmm.1 hmm.2
                    obtain ⟨X, hX⟩ : ∃ X, X = bxs m := ⟨_, rfl⟩
                    obtain ⟨D, hD⟩ : ∃ D, D = tkT L m := ⟨_, rfl⟩
                    obtain ⟨lm, hlm⟩ : ∃ lm, lm = decide (knd m = 1) := ⟨_, rfl⟩
                    simp only [bV, lV, xV]
                    rw [← hX, ← hD, ← hlm]
                    rw [← hX] at hxm
                    rw [← hD] at htm
                    obtain ⟨hx1, hx2⟩ := hxm
                    obtain ⟨ht1, ht2⟩ := htm
                    have hX0n : (X == 0) = false := by rw [beq_eq_false_iff_ne]; omega
                    have HXD := hide (And.intro hX (And.intro hD hlm))
                    have hput : Hid (Best L (pz + 1) (if T < D then some pz else some m)) := hide (by have := hpu.out; rw [HT.out, hD]; exact this)
                    clear hmm hX hD hlm
                    by_cases hup : T < D
                    · have hnew : Hid (Best L (pz + 1) (some pz)) := hide (by have := hput.out; rw [if_pos hup] at this; exact this)
                      go_wp2_with fail
                      refine wp_region_past (by kernel_rfl) (by kernel_rfl) ?_
                      repeat (first | go_big_quiet_step ((first | (go_at_call 11; (with_reducible exact ret_past (hvc.out _))) | (go_at_call 28; (with_reducible exact ret_past (hAns.out _))))) | quiet_step ((first | (go_at_call 11; (with_reducible exact ret_past (hvc.out _))) | (go_at_call 28; (with_reducible exact ret_past (hAns.out _))))))
                      refine wpQuiet_nil ?_
                      rintro _ ⟨pq, rfl⟩
                      have HB7 := hide (Below.trans' HB6.out pq.old)
                      have nz7 := nz pq
                      clear n0 n1 nz
                      go_wp2_with fail
                      go_roundg g2
                      case rel => exact ⟨j + 1, pz + 1, some pz, by omega, by go_num, (by show Value.int .i64 (-T) = .int .i64 (-tkT L pz); rw [HT.out]), (by show Value.bool true = .bool (decide (knd pz = 1)); rw [HKZ.out.1]; rfl), (by show Value.int .i64 z = .int .i64 (bxs pz); rw [HKZ.out.2]), hbn.out, hnew.out, HB7.out⟩
                      case measure => omega
                    · have hnew : Hid (Best L (pz + 1) (some m)) := hide (by have := hput.out; rw [if_neg hup] at this; exact this)
                      go_wp2_with fail
                      refine wp_region_past (by kernel_rfl) (by kernel_rfl) ?_
                      repeat (first | go_big_quiet_step ((first | (go_at_call 11; (with_reducible exact ret_past (hvc.out _))) | (go_at_call 28; (with_reducible exact ret_past (hAns.out _))))) | quiet_step ((first | (go_at_call 11; (with_reducible exact ret_past (hvc.out _))) | (go_at_call 28; (with_reducible exact ret_past (hAns.out _))))))
                      refine wpQuiet_nil ?_
                      rintro _ ⟨pq, rfl⟩
                      have HB7 := hide (Below.trans' HB6.out pq.old)
                      have nz7 := nz pq
                      clear n0 n1 nz
                      go_wp2_with fail
                      go_roundg g2
                      case rel => exact ⟨j + 1, pz + 1, some m, by omega, by go_num, (by show Value.int .i64 (-D) = .int .i64 (-tkT L m); rw [HXD.out.2.1]), (by show Value.bool lm = .bool (decide (knd m = 1)); rw [HXD.out.2.2]), (by show Value.int .i64 X = .int .i64 (bxs m); rw [HXD.out.1]), hbn.out, hnew.out, HB7.out⟩
                      case measure => omega
end Go.Proofs.Ytbfpbkbhikogiab
