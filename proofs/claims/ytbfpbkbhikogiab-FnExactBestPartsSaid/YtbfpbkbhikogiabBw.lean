/-
  Ends of dots and boxes: BestParts, the program's text: the whole.
-/
import Derived.Test.YtbfpbkbhikogiabBv
import Derived.Laws.EntriesVeiled
namespace Go.Proofs.Ytbfpbkbhikogiab
open Go.RowKit Go.Maps
set_option linter.unusedVariables false

theorem ListO.get {A B : Nat} {w : World} {v : Value} {vs : List Value} {xss : List (List Int)} (h : ListO A B w v vs xss) {i : Nat} {u : Value} (hi : vs[i]? = some u) : ∃ a c zs, u = .slice a zs.length c ∧ xss[i]? = some zs ∧ w.ownsRow B 2 1 (.slice a zs.length c) zs.length (zs.map intV) := by
  have hl := (List.getElem?_eq_some_iff.1 hi).1
  obtain ⟨a, c, zs, h1, h2, h3⟩ := h.row (i := i) (by rw [← h.len]; exact hl)
  rw [hi] at h1
  exact ⟨a, c, zs, Option.some.inj h1, h2, h3⟩

theorem compares (m B2 B3 : Nat) (A B : Nat) (v : Value) (ps : List (List Int)) (vs : List Value) (w : World) (hL : ListO A B w v vs ps) (hK : KnowsT m w) (h2 : w.heap[B2]? = some (.cells #[.map (some m)] 36 (0, 0)))
    (h3 : w.heap[B3]? = some (.cells #[.func (.func 13) #[] #[.pointer (some ⟨B2, 0, none⟩)]] 43 (0, 0))) (hall : ∀ xs ∈ ps, okEn xs [] = true) :
    ∀ (i j : Nat) (u u' : Value), vs[i]? = some u → vs[j]? = some u' → ∀ W' : World, But m w W' → KnowsT m W' → Calls Try.prog 18 #[u, u', .pointer (some ⟨B3, 0, none⟩)] W' (RetK m (KnowsT m) (.int .i64 (cmpI (vI ps i) (vI ps j))) W') := by
  intro i j u u' hi hj W' hb hk
  obtain ⟨a, c, zs, rfl, hz, ho⟩ := hL.get hi
  obtain ⟨a', c', zs', rfl, hz', ho'⟩ := hL.get hj
  have hn2 := knows_row hK h2
  have hn3 := knows_row hK h3
  have hc3 : W'.cell? ⟨B3, 0, none⟩ = some (.func (.func 13) #[] #[.pointer (some ⟨B2, 0, none⟩)]) := hb.cell ((cell_of_row _ _ 0 _ _ (0, 0) h3).trans rfl) hn3
  rw [vI_is hz, vI_is hz']
  exact cmpP_any m B2 B3 _ _ _ _ W' hk hn3 hc3
    (fun p => valOf_any m B2 a c zs p.to (p.inv hk) ((hb.trans p.old).row h2 hn2) ((hb.trans p.old).ints (intsAt_of_ownsRow ho) (row_far ho hK)) (row_far ho hK) (hall zs (List.mem_of_getElem? hz)))
    (fun p => valOf_any m B2 a' c' zs' p.to (p.inv hk) ((hb.trans p.old).row h2 hn2) ((hb.trans p.old).ints (intsAt_of_ownsRow ho') (row_far ho' hK)) (row_far ho' hK) (hall zs' (List.mem_of_getElem? hz')))

set_option maxRecDepth 100000 in
set_option maxHeartbeats 8000000 in
theorem implPartsOk (N k : Nat) (hN : 1 ≤ N) (hN' : N ≤ 20) (hk : k + 1 ≤ 6) (hkn : k + 1 ≤ N) (W : World) : Calls Try.prog 5 #[.int .i64 N, .int .i64 ((k + 1 : Nat) : Int)] W (NewList (bestP (pt (k + 1) 1 N), 0) W) := by
  obtain ⟨_, hne, hall⟩ := parts_ok (n := N) (k := k + 1) (by omega) (by omega) (by omega) (by omega)
  have hle : (pt (k + 1) 1 N).length ≤ 85766121 := Nat.le_trans (pt_le (k + 1) 1 N hN') (pow_bd hk)
  obtain ⟨K, hKe⟩ : ∃ K : Int, K = ((k + 1 : Nat) : Int) := ⟨_, rfl⟩
  rw [← hKe]
  have hls : Hid (∀ V : World, Calls Try.prog 17 #[.int .i64 N, .int .i64 K, .int .i64 1] V (NewP (pt (k + 1) 1 N) V)) := hide (fun V => parts_any k 1 N K V hKe (by omega) hN' (by omega) (by omega))
  obtain ⟨ps, hps⟩ : ∃ ps, ps = pt (k + 1) 1 N := ⟨_, rfl⟩
  rw [← hps] at hne hall hle hls ⊢
  have hK1 : 1 ≤ K := by omega
  have hK6 : K ≤ 6 := by omega
  have hKN : K ≤ N := by omega
  obtain ⟨len, hlen⟩ : ∃ len, len = ps.length := ⟨_, rfl⟩
  rw [← hlen] at hle
  have hpos : 0 < len := by rw [hlen]; exact List.length_pos_iff.2 hne
  have HLEN := hide hlen
  have HALL := hide hall
  have HPOS := hide hpos
  have HLE := hide hle
  clear hKe hps hne hall hle hlen hpos
  by_cases h6 : (N : Int) < 6
  all_goals
    go_enter Try.func5, Try.ntmps5
    go_wp2_with fail
    refine (search_new _).mono ?_
    rintro e w1 ⟨m, rfl, hk1, hm1, hb1⟩
    obtain ⟨W2, hW2⟩ : ∃ W2, W2 = w1.alloc (.cells #[.map (some m)] 36) := ⟨_, rfl⟩
    obtain ⟨W3, hW3⟩ : ∃ W3, W3 = W2.alloc (.cells #[.func (.func 13) #[] #[.pointer (some ⟨w1.heap.size, 0, none⟩)]] 43) := ⟨_, rfl⟩
    have hb2 : Below w1.heap.size w1 W2 := by rw [hW2]; exact below_alloc _ _
    have hb3 : Below W2.heap.size W2 W3 := by rw [hW3]; exact below_alloc _ _
    have hr2 : W2.heap[w1.heap.size]? = some (.cells #[.map (some m)] 36 (0, 0)) := by rw [hW2]; exact heap_alloc_new w1 _
    have hs2 : W2.heap.size = w1.heap.size + 1 := by rw [hW2]; simp
    have hr3 : Hid (W3.heap[w1.heap.size + 1]? = some (.cells #[.func (.func 13) #[] #[.pointer (some ⟨w1.heap.size, 0, none⟩)]] 43 (0, 0))) := by
      rw [hW3, ← hs2]
      exact hide (heap_alloc_new W2 _)
    have HV3 := hide (hW3.trans (by rw [hW2]))
    have hr23 := hide (box_keep hr2 hb3)
    have hK3 := hide ((hk1.keep hb2).keep hb3)
    have hB3 := hide (Below.trans' (Below.trans' hb1 hb2) hb3)
    have hM := hide hm1
    clear hk1 hm1 hb1 hb2 hb3 hr2 hs2 hW3 hW2
    go_wp2_with fail
    rw [← HV3.out]
    clear HV3
    (try go_wp2_with fail)
    refine (hls.out _).mono ?_
    rintro e w4 ⟨v, vs, rfl, hL, hb4⟩
    obtain ⟨a, c, rfl⟩ := own_form hL.own
    obtain ⟨g, rfl⟩ := own_at hL.own (by rw [← HLEN.out]; exact HPOS.out)
    have hK4 := hide (hK3.out.keep hb4)
    have hB4 := hide (Below.trans' hB3.out hb4)
    have hr24 := hide (box_keep hr23.out hb4)
    have hr34 := hide (box_keep hr3.out hb4)
    have HL := hide hL
    have hbase : Hid (W.heap.size ≤ W3.heap.size) := hide hB3.out.size
    have hcmp := hide (compares m w1.heap.size (w1.heap.size + 1) _ _ _ ps vs w4 hL hK4.out hr24.out hr34.out HALL.out)
    rw [← HLEN.out]
    clear hb4 hL
    go_wp2_with fail
    refine (maxF_any m (w1.heap.size + 1) _ _ g c len ps vs w4 HL.out HLEN.out HPOS.out HLE.out hK4.out hcmp.out).mono ?_
    rintro e w5 ⟨mi, u, rfl, hmi, hu, hb5, hk5⟩
    obtain ⟨a5, c5, zs, rfl, hz, ho⟩ := HL.out.get hu
    have hfin : Hid (NewList (bestP ps, 0) W (.returned (.tuple #[.slice a5 zs.length c5, .int .i64 0])) w5) := hide (by
      rw [bestP_is (by rw [← HLEN.out]; exact hmi) hz]
      refine ⟨a5, c5, rfl, ?_, below_but hB4.out hb5 hM.out⟩
      exact ownsRow_base (rowI_by ho (fun k cs hc => hb5.row hc (knows_row hK4.out hc))) hbase.out)
    clear hmi hu hb5 hk5 hz ho
    go_wp2_with fail
    go_ret2
    exact hfin.out

set_option maxRecDepth 100000 in
set_option maxHeartbeats 4000000 in
theorem implParts_any (n k : Int) (W : World) : Calls Try.prog 5 #[.int .i64 n, .int .i64 k] W (NewList (bpR n k) W) := by
  by_cases h : (1 ≤ n ∧ n ≤ 20) ∧ (1 ≤ k ∧ k ≤ 6) ∧ k ≤ n
  · obtain ⟨N, rfl⟩ : ∃ N : Nat, n = N := ⟨n.toNat, by omega⟩
    obtain ⟨K, rfl⟩ : ∃ K : Nat, k = ((K + 1 : Nat) : Int) := ⟨k.toNat - 1, by omega⟩
    rw [bp_yes (by omega)]
    exact implPartsOk N K (by omega) (by omega) (by omega) (by omega) W
  · rw [bp_no h]
    by_cases h1 : n < 1
    · clear h
      go_enter Try.func5, Try.ntmps5
      go_wp2_with fail
      go_ret2
      exact newList_no _ _ (Below.refl _ _)
    · by_cases h2 : 20 < n
      · clear h
        go_enter Try.func5, Try.ntmps5
        go_wp2_with fail
        go_ret2
        exact newList_no _ _ (Below.refl _ _)
      · by_cases h3 : k < 1
        · clear h
          go_enter Try.func5, Try.ntmps5
          go_wp2_with fail
          go_ret2
          exact newList_no _ _ (Below.refl _ _)
        · by_cases h4 : n < 6
          · have h5 : n < k := by omega
            clear h
            go_enter Try.func5, Try.ntmps5
            go_wp2_with fail
            go_ret2
            exact newList_no _ _ (Below.refl _ _)
          · have h5 : 6 < k ∨ (k ≤ 6 ∧ n < k) := by omega
            have h6 : 6 < k := by omega
            clear h h5
            go_enter Try.func5, Try.ntmps5
            go_wp2_with fail
            go_ret2
            exact newList_no _ _ (Below.refl _ _)
end Go.Proofs.Ytbfpbkbhikogiab
