/-
  The model's l01Own and l01Put: a number put into a list in order.
-/
import Derived.Test.YtkekanllfpdeaabSf
import Derived.Test.YtkekanllfpdeaabSa
namespace Go.Proofs.Ytkekanllfpdeaab
open Go.RowKit
set_option linter.unusedVariables false

def NewRowV (zs : List Int) (w : World) (e : Ending) (w' : World) : Prop :=
  ∃ g c, e = .returned (.slice (some ⟨g, 0, none⟩) zs.length c) ∧ w'.ownsRow w.heap.size 2 1 (.slice (some ⟨g, 0, none⟩) zs.length c) zs.length (zs.map intV) ∧ Below w.heap.size w w'
theorem own_some {w : World} {base n : Nat} {v : Value} {e : TypeId} {xs : List Value} (h : w.ownsRow base e 1 v n xs) (hne : v ≠ .slice none 0 0) : ∃ g c, v = .slice (some ⟨g, 0, none⟩) n c := by
  rcases h.2 with ⟨h0, _⟩ | ⟨g, cap, cur, rfl, _⟩
  · exact absurd h0 hne
  · exact ⟨g, cap, rfl⟩
theorem own_cap {w : World} {base n c : Nat} {a : Option Addr} {e : TypeId} {xs : List Value} (h : w.ownsRow base e 1 (.slice a n c) n xs) : n ≤ c ∧ c ≤ maxLen := by
  rcases h.2 with ⟨h0, h1⟩ | ⟨g, cap, cur, hv, _, _, h2, h3, _⟩
  · simp at h0
    omega
  · simp only [Value.slice.injEq, true_and] at hv
    omega
theorem ints_cell {w : World} {g : Nat} {zs : List Int} (h : IntsAt w (some ⟨g, 0, none⟩) zs) {k : Nat} {z : Int} (hk : zs[k]? = some z) : w.cell? ⟨g, k, none⟩ = some (.int .i64 z) := by
  obtain ⟨b, o, z', he, hc, hz⟩ := h.one (List.getElem?_eq_some_iff.1 hk).1
  cases he
  rw [hz.out] at hk
  cases hk
  rwa [Nat.zero_add] at hc
theorem ints_take {w : World} {g : Nat} {zs : List Int} (h : IntsAt w (some ⟨g, 0, none⟩) zs) (k : Nat) : IntsAt w (some ⟨g, 0, none⟩) (zs.take k) := by
  intro hne
  refine ⟨g, 0, rfl, fun i hi => ?_⟩
  rw [List.length_map, List.length_take] at hi
  have h1 : (zs.take k)[i]? = zs[i]? := List.getElem?_take_of_lt (by omega)
  rw [List.getElem?_map, h1, List.getElem?_eq_getElem (show i < zs.length by omega), Nat.zero_add]
  exact ints_cell h (List.getElem?_eq_getElem _)
theorem ints_news {w : World} {g : Nat} {zs : List Int} (h : IntsAt w (some ⟨g, 0, none⟩) zs) (k : Nat) : ∀ j u, ((zs.drop k).map intV)[j]? = some u → w.cell? ((⟨g, k, none⟩ : Addr).add j) = some u := by
  intro j u hu
  rw [List.getElem?_map, List.getElem?_drop] at hu
  cases hz : zs[k + j]? with
  | none => rw [hz] at hu; cases hu
  | some z =>
    rw [hz] at hu
    cases hu
    have := ints_cell h hz
    simp only [Addr.add]
    split
    · rename_i e; subst e; simpa [intV] using this
    · exact this

set_option maxRecDepth 100000 in
set_option maxHeartbeats 1000000 in
theorem l01Own_any (g c n : Nat) (zs : List Int) (w : World) (ha : IntsAt w (some ⟨g, 0, none⟩) zs) (hn : zs.length = n) (hl : zs.length ≤ 1000) :
    Calls Try.prog 59 #[.slice (some ⟨g, 0, none⟩) n c] w (NewRowV zs w) := by
  subst hn
  obtain ⟨i0, hi, hz0, hz1, hz2⟩ := info_parts Try.info2
  have hB0 : Below w.heap.size w (w.alloc (.cells #[] 2)) := (Below.refl _ _).alloc (Nat.le_refl _) _
  have hown : (w.alloc (.cells #[] 2)).ownsRow w.heap.size 2 1 (.slice (some ⟨w.heap.size, 0, none⟩) 0 0) 0 [] := ⟨rfl, .inr ⟨w.heap.size, 0, #[], rfl, Nat.le_refl _, heap_alloc_new w _, Nat.le_refl _, Nat.zero_le _, rfl, rfl⟩⟩
  have HN := hide (ints_news (ha.keep hB0) 0)
  rw [List.drop_zero] at HN
  clear ha
  go_enter Try.func59, Try.ntmps59
  go_wp2_with (at_builtin; refine wpList_append_own _ rfl _ _ 22 rfl w.heap.size 2 i0 (.int .i64 0) 1 8 Try.underlying22 hi hz0 hz1 hz2 rfl (by decide) _ _ _ rfl hown ⟨g, 0, none⟩ zs.length c (zs.map intV) rfl (by simp) HN.out (by simp [intV, Value.oneCell']) (by unfold maxLen; omega) (by omega) (by simp) ?_)
  intro v' w4 hown' hgrow hnil
  have hne : v' ≠ .slice none 0 0 := by intro e; first | exact hnil e | (have := hnil.1 e; simp at this)
  obtain ⟨g', c', rfl⟩ := own_some hown' hne
  have hfin : Hid (NewRowV zs w (.returned (.slice (some ⟨g', 0, none⟩) (0 + zs.length) c')) w4) := by
    refine hide ⟨g', c', by rw [Nat.zero_add], ?_, hB0.grown hgrow (by simp) (fun j hj => (hown.lt j hj).1)⟩
    simpa using hown'
  clear hown' hgrow hnil hne hown
  go_wp2_with fail
  go_ret
  simpa using hfin.out

/-- A list of the call's own that is not nil. -/
def PutPost (B : Nat) (W0 : World) (zs : List Int) (e : Ending) (w' : World) : Prop :=
  ∃ g c, e = .returned (.slice (some ⟨g, 0, none⟩) zs.length c) ∧ w'.ownsRow B 2 1 (.slice (some ⟨g, 0, none⟩) zs.length c) zs.length (zs.map intV) ∧ Below B W0 w' ∧ B ≤ w'.heap.size
theorem scan_zero {x : Int} {zs : List Int} (h : scanAt x zs 0 = scanAt x zs zs.length) : putS x zs = zs.take 0 ++ x :: zs.drop 0 := by
  unfold putS
  rw [← h, if_neg (by simp [scanAt])]
  rfl
theorem scan_at {x z : Int} {zs : List Int} {j : Nat} (h : scanAt x zs (j + 1) = scanAt x zs zs.length) (hz : zs[j]? = some z) (hx : ¬ x < z) : scanAt x zs zs.length = j + 1 := by
  rw [← h]
  unfold scanAt
  rw [List.getD_eq_getElem?_getD, hz]
  exact if_neg hx
theorem scan_on {x z : Int} {zs : List Int} {j : Nat} (h : scanAt x zs (j + 1) = scanAt x zs zs.length) (hz : zs[j]? = some z) (hx : x < z) : scanAt x zs j = scanAt x zs zs.length := by
  rw [← h, scanAt.eq_2, List.getD_eq_getElem?_getD, hz]
  exact (if_pos hx).symm
theorem put_same {x : Int} {zs : List Int} {j : Nat} (h : scanAt x zs zs.length = j + 1) (hz : zs[j]? = some x) : putS x zs = zs := by
  unfold putS
  rw [h, if_pos]
  exact ⟨by omega, by rw [Nat.add_sub_cancel, List.getD_eq_getElem?_getD, hz]; rfl⟩
theorem put_new {x z : Int} {zs : List Int} {j : Nat} (h : scanAt x zs zs.length = j + 1) (hz : zs[j]? = some z) (hx : z ≠ x) : putS x zs = zs.take (j + 1) ++ x :: zs.drop (j + 1) := by
  unfold putS
  rw [h, if_neg]
  rintro ⟨_, h2⟩
  rw [Nat.add_sub_cancel, List.getD_eq_getElem?_getD, hz] at h2
  exact hx h2

set_option maxRecDepth 100000 in
set_option maxHeartbeats 4000000 in
theorem l01Put_any (B g c : Nat) (zs : List Int) (x : Int) (W0 w : World) (ho : Owns B W0 w (.slice (some ⟨g, 0, none⟩) zs.length c) zs) (hl : zs.length ≤ 100) :
    Calls Try.prog 72 #[.slice (some ⟨g, 0, none⟩) zs.length c, .int .i64 x] w (PutPost B W0 (putS x zs)) := by
  obtain ⟨i0, hi, hz0, hz1, hz2⟩ := info_parts Try.info2
  have HO := hide ho
  have HA := hide (intsAt_of_ownsRow ho.own)
  obtain ⟨hcl, hcm⟩ := own_cap ho.own
  unfold maxLen at hcm
  obtain ⟨n, hn⟩ : ∃ n, n = zs.length := ⟨_, rfl⟩
  clear ho hn
  go_enter Try.func72, Try.ntmps72
  go_wp2_with fail
  go_loop [5] (fun i => ∃ k : Nat, k ≤ zs.length ∧ i = .int .i64 k ∧ Hid (scanAt x zs k = scanAt x zs zs.length)) (fun i => (intOf i).toNat)
  case atStart => exact ⟨zs.length, Nat.le_refl _, rfl, hide rfl⟩
  case round =>
    obtain ⟨k, hk, rfl, hS⟩ := hrel
    rcases Nat.eq_zero_or_pos k with h0 | h0
    · subst h0
      have hd : decide ((0 : Int) < ((0 : Nat) : Int)) = false := by decide
      by_cases hc0 : c = 0
      · subst hc0
        have HPU : Hid (putS x zs = zs.take 0 ++ x :: zs.drop 0) := hide (scan_zero hS.out)
        have hzl : zs.length = 0 := by omega
        go_wp2_with fail
        refine (l01Own_any g _ 0 (zs.take 0) w (ints_take HA.out 0) (by first | (simp; done) | (simp; omega) | omega) (by first | (simp; done) | (simp; omega) | omega)).mono ?_
        rintro e w1 ⟨g1, c1, rfl, hown1, hB1⟩
        have hsz1 := hB1.size
        have hlt1 : (zs.take 0).length = 0 := by simp
        rw [hlt1] at hown1
        skip
        go_wp2_with (at_builtin; refine wpList_append_own _ rfl _ _ 22 rfl w.heap.size 2 i0 (.int .i64 0) 1 8 Try.underlying22 hi hz0 hz1 hz2 rfl (by decide) _ _ _ rfl (hown1.alloc _) ⟨w1.heap.size, 0, none⟩ 1 1 [.int .i64 x] rfl rfl (cell_one_new _ _ _) (by simp [Value.oneCell']) (by unfold maxLen; first | (simp; done) | (simp; omega) | omega) (by first | (simp; done) | (simp; omega) | omega) (by first | (simp; done) | (simp; omega) | omega) ?_)
        intro v2 w2 hown2 hgrow2 hnil2
        have hne2 : v2 ≠ .slice none 0 0 := by intro e; first | exact hnil2 e | (have := hnil2.1 e; simp at this)
        obtain ⟨g2, c2, rfl⟩ := own_some hown2 hne2
        have hB2 : Below w.heap.size w w2 := (hB1.alloc hsz1 _).grown hgrow2 (by first | (simp; done) | (simp; omega) | omega) (fun j hj => ((hown1.alloc (.cells #[Value.int .i64 x] 2)).lt j hj).1)
        have hsz2 := hB2.size
        have HNW := hide (ints_news (HA.out.keep hB2) 0)
        clear hown1 hgrow2 hnil2 hne2 hB1
        go_wp2_with (at_builtin; refine wpList_append_own _ rfl _ _ 22 rfl w.heap.size 2 i0 (.int .i64 0) 1 8 Try.underlying22 hi hz0 hz1 hz2 rfl (by decide) _ _ _ rfl hown2 _ 0 _ [] rfl rfl (fun j u h => by simp at h) (fun u h => by simp at h) (by unfold maxLen; first | (simp; done) | (simp; omega) | omega) (by first | (simp; done) | (simp; omega) | omega) (by omega) ?_)
        intro v3 w3 hown3 hgrow3 hnil3
        have hne3 : v3 ≠ .slice none 0 0 := by intro e; first | exact hnil3 e | (have := hnil3.1 e; simp at this)
        obtain ⟨g3, c3, rfl⟩ := own_some hown3 hne3
        have hB3 : Below w.heap.size w w3 := hB2.grown hgrow3 hsz2 (fun j hj => (hown2.lt j hj).1)
        have hlen : 0 + 1 + 0 = (putS x zs).length := by rw [HPU.out]; first | (simp; done) | (simp; omega) | (simp; exact List.eq_nil_of_length_eq_zero (by omega))
        have hfin : Hid (PutPost B W0 (putS x zs) (.returned (.slice (some ⟨g3, 0, none⟩) (0 + 1 + 0) c3)) w3) := by
          refine hide ⟨g3, c3, by rw [hlen], ?_, HO.out.old.trans (hB3.mono HO.out.size), by have := hB3.size; have := HO.out.size; omega⟩
          rw [← hlen]
          have h4 : (putS x zs).map intV = (zs.take 0).map intV ++ [.int .i64 x] ++ [] := by rw [HPU.out]; (rw [List.drop_of_length_le (by omega)]; simp [intV])
          rw [h4]
          have h5 := ownsRow_base hown3 HO.out.size
          simpa using h5
        clear hown2 hown3 hgrow3 hnil3 hne3 hB2 hB3
        go_wp2_with fail
        go_ret
        simpa using hfin.out
      · have hcp : 0 < c := by omega
        have HPU : Hid (putS x zs = zs.take 0 ++ x :: zs.drop 0) := hide (scan_zero hS.out)
        skip
        go_wp2_with fail
        refine (l01Own_any g _ 0 (zs.take 0) w (ints_take HA.out 0) (by first | (simp; done) | (simp; omega) | omega) (by first | (simp; done) | (simp; omega) | omega)).mono ?_
        rintro e w1 ⟨g1, c1, rfl, hown1, hB1⟩
        have hsz1 := hB1.size
        have hlt1 : (zs.take 0).length = 0 := by simp
        rw [hlt1] at hown1
        skip
        go_wp2_with (at_builtin; refine wpList_append_own _ rfl _ _ 22 rfl w.heap.size 2 i0 (.int .i64 0) 1 8 Try.underlying22 hi hz0 hz1 hz2 rfl (by decide) _ _ _ rfl (hown1.alloc _) ⟨w1.heap.size, 0, none⟩ 1 1 [.int .i64 x] rfl rfl (cell_one_new _ _ _) (by simp [Value.oneCell']) (by unfold maxLen; first | (simp; done) | (simp; omega) | omega) (by first | (simp; done) | (simp; omega) | omega) (by first | (simp; done) | (simp; omega) | omega) ?_)
        intro v2 w2 hown2 hgrow2 hnil2
        have hne2 : v2 ≠ .slice none 0 0 := by intro e; first | exact hnil2 e | (have := hnil2.1 e; simp at this)
        obtain ⟨g2, c2, rfl⟩ := own_some hown2 hne2
        have hB2 : Below w.heap.size w w2 := (hB1.alloc hsz1 _).grown hgrow2 (by first | (simp; done) | (simp; omega) | omega) (fun j hj => ((hown1.alloc (.cells #[Value.int .i64 x] 2)).lt j hj).1)
        have hsz2 := hB2.size
        have HNW := hide (ints_news (HA.out.keep hB2) 0)
        clear hown1 hgrow2 hnil2 hne2 hB1
        go_wp2_with (at_builtin; refine wpList_append_own _ rfl _ _ 22 rfl w.heap.size 2 i0 (.int .i64 0) 1 8 Try.underlying22 hi hz0 hz1 hz2 rfl (by decide) _ _ _ rfl hown2 ⟨g, 0, none⟩ (zs.length - 0) _ ((zs.drop 0).map intV) rfl (by simp) HNW.out (fun u h => by obtain ⟨z, _, rfl⟩ := List.mem_map.1 h; rfl) (by unfold maxLen; first | (simp; done) | (simp; omega) | omega) (by first | (simp; done) | (simp; omega) | omega) (by omega) ?_)
        intro v3 w3 hown3 hgrow3 hnil3
        have hne3 : v3 ≠ .slice none 0 0 := by intro e; first | exact hnil3 e | (have := hnil3.1 e; simp at this)
        obtain ⟨g3, c3, rfl⟩ := own_some hown3 hne3
        have hB3 : Below w.heap.size w w3 := hB2.grown hgrow3 hsz2 (fun j hj => (hown2.lt j hj).1)
        have hlen : 0 + 1 + (zs.length - 0) = (putS x zs).length := by rw [HPU.out]; first | (simp; done) | (simp; omega) | (simp; exact List.eq_nil_of_length_eq_zero (by omega))
        have hfin : Hid (PutPost B W0 (putS x zs) (.returned (.slice (some ⟨g3, 0, none⟩) (0 + 1 + (zs.length - 0)) c3)) w3) := by
          refine hide ⟨g3, c3, by rw [hlen], ?_, HO.out.old.trans (hB3.mono HO.out.size), by have := hB3.size; have := HO.out.size; omega⟩
          rw [← hlen]
          have h4 : (putS x zs).map intV = (zs.take 0).map intV ++ [.int .i64 x] ++ ((zs.drop 0).map intV) := by rw [HPU.out]; simp [intV]
          rw [h4]
          have h5 := ownsRow_base hown3 HO.out.size
          simpa using h5
        clear hown2 hown3 hgrow3 hnil3 hne3 hB2 hB3
        go_wp2_with fail
        go_ret
        simpa using hfin.out
    · obtain ⟨j, rfl⟩ : ∃ j, k = j + 1 := ⟨k - 1, by omega⟩
      obtain ⟨b2, o2, z, he2, hc2, hz⟩ := HA.out.one (k := j) (by omega)
      cases he2
      rw [Nat.zero_add] at hc2
      have hjw : (((j + 1 : Nat) : Int) - 1) = (j : Int) := by omega
      have hjp : (0 : Int) < ((j + 1 : Nat) : Int) := by omega
      have hjl : j < zs.length := by omega
      by_cases hx : x < z
      · have hnx : Hid (scanAt x zs j = scanAt x zs zs.length) := hide (scan_on hS.out hz.out hx)
        clear hS
        go_wp2_with fail
        go_round
        case rel => exact ⟨j, by omega, by go_num, hnx⟩
        case measure => simp [intOf] <;> omega
      · have hat := scan_at hS.out hz.out hx
        by_cases he : z = x
        · subst he
          have hfin : Hid (PutPost B W0 (putS z zs) (.returned (.slice (some ⟨g, 0, none⟩) zs.length c)) w) := by
            rw [put_same hat hz.out]
            exact hide ⟨g, c, rfl, HO.out.own, HO.out.old, HO.out.size⟩
          clear hS hat
          go_wp2_with fail
          go_ret
          exact hfin.out
        · have hne : (z == x) = false := by simp [he]
          by_cases hcj : c = j + 1
          · subst hcj
            have HPU : Hid (putS x zs = zs.take (j + 1) ++ x :: zs.drop (j + 1)) := hide (put_new hat hz.out he)
            have hzl : zs.length = j + 1 := by omega
            go_wp2_with fail
            refine (l01Own_any g _ (j + 1) (zs.take (j + 1)) w (ints_take HA.out (j + 1)) (by first | (simp; done) | (simp; omega) | omega) (by first | (simp; done) | (simp; omega) | omega)).mono ?_
            rintro e w1 ⟨g1, c1, rfl, hown1, hB1⟩
            have hsz1 := hB1.size
            have hlt1 : (zs.take (j + 1)).length = (j + 1) := by first | (simp; done) | (simp; omega)
            rw [hlt1] at hown1
            skip
            go_wp2_with (at_builtin; refine wpList_append_own _ rfl _ _ 22 rfl w.heap.size 2 i0 (.int .i64 0) 1 8 Try.underlying22 hi hz0 hz1 hz2 rfl (by decide) _ _ _ rfl (hown1.alloc _) ⟨w1.heap.size, 0, none⟩ 1 1 [.int .i64 x] rfl rfl (cell_one_new _ _ _) (by simp [Value.oneCell']) (by unfold maxLen; first | (simp; done) | (simp; omega) | omega) (by first | (simp; done) | (simp; omega) | omega) (by first | (simp; done) | (simp; omega) | omega) ?_)
            intro v2 w2 hown2 hgrow2 hnil2
            have hne2 : v2 ≠ .slice none 0 0 := by intro e; first | exact hnil2 e | (have := hnil2.1 e; simp at this)
            obtain ⟨g2, c2, rfl⟩ := own_some hown2 hne2
            have hB2 : Below w.heap.size w w2 := (hB1.alloc hsz1 _).grown hgrow2 (by first | (simp; done) | (simp; omega) | omega) (fun j hj => ((hown1.alloc (.cells #[Value.int .i64 x] 2)).lt j hj).1)
            have hsz2 := hB2.size
            have HNW := hide (ints_news (HA.out.keep hB2) (j + 1))
            clear hown1 hgrow2 hnil2 hne2 hB1
            go_wp2_with (at_builtin; refine wpList_append_own _ rfl _ _ 22 rfl w.heap.size 2 i0 (.int .i64 0) 1 8 Try.underlying22 hi hz0 hz1 hz2 rfl (by decide) _ _ _ rfl hown2 _ 0 _ [] rfl rfl (fun j u h => by simp at h) (fun u h => by simp at h) (by unfold maxLen; first | (simp; done) | (simp; omega) | omega) (by first | (simp; done) | (simp; omega) | omega) (by omega) ?_)
            intro v3 w3 hown3 hgrow3 hnil3
            have hne3 : v3 ≠ .slice none 0 0 := by intro e; first | exact hnil3 e | (have := hnil3.1 e; simp at this)
            obtain ⟨g3, c3, rfl⟩ := own_some hown3 hne3
            have hB3 : Below w.heap.size w w3 := hB2.grown hgrow3 hsz2 (fun j hj => (hown2.lt j hj).1)
            have hlen : (j + 1) + 1 + 0 = (putS x zs).length := by rw [HPU.out]; first | (simp; done) | (simp; omega) | (simp; exact List.eq_nil_of_length_eq_zero (by omega))
            have hfin : Hid (PutPost B W0 (putS x zs) (.returned (.slice (some ⟨g3, 0, none⟩) ((j + 1) + 1 + 0) c3)) w3) := by
              refine hide ⟨g3, c3, by rw [hlen], ?_, HO.out.old.trans (hB3.mono HO.out.size), by have := hB3.size; have := HO.out.size; omega⟩
              rw [← hlen]
              have h4 : (putS x zs).map intV = (zs.take (j + 1)).map intV ++ [.int .i64 x] ++ [] := by rw [HPU.out]; (rw [List.drop_of_length_le (by omega)]; simp [intV])
              rw [h4]
              have h5 := ownsRow_base hown3 HO.out.size
              simpa using h5
            clear hown2 hown3 hgrow3 hnil3 hne3 hB2 hB3
            go_wp2_with fail
            go_ret
            simpa using hfin.out
          · have hcp : j + 1 < c := by omega
            have HPU : Hid (putS x zs = zs.take (j + 1) ++ x :: zs.drop (j + 1)) := hide (put_new hat hz.out he)
            skip
            go_wp2_with fail
            refine (l01Own_any g _ (j + 1) (zs.take (j + 1)) w (ints_take HA.out (j + 1)) (by first | (simp; done) | (simp; omega) | omega) (by first | (simp; done) | (simp; omega) | omega)).mono ?_
            rintro e w1 ⟨g1, c1, rfl, hown1, hB1⟩
            have hsz1 := hB1.size
            have hlt1 : (zs.take (j + 1)).length = (j + 1) := by first | (simp; done) | (simp; omega)
            rw [hlt1] at hown1
            skip
            go_wp2_with (at_builtin; refine wpList_append_own _ rfl _ _ 22 rfl w.heap.size 2 i0 (.int .i64 0) 1 8 Try.underlying22 hi hz0 hz1 hz2 rfl (by decide) _ _ _ rfl (hown1.alloc _) ⟨w1.heap.size, 0, none⟩ 1 1 [.int .i64 x] rfl rfl (cell_one_new _ _ _) (by simp [Value.oneCell']) (by unfold maxLen; first | (simp; done) | (simp; omega) | omega) (by first | (simp; done) | (simp; omega) | omega) (by first | (simp; done) | (simp; omega) | omega) ?_)
            intro v2 w2 hown2 hgrow2 hnil2
            have hne2 : v2 ≠ .slice none 0 0 := by intro e; first | exact hnil2 e | (have := hnil2.1 e; simp at this)
            obtain ⟨g2, c2, rfl⟩ := own_some hown2 hne2
            have hB2 : Below w.heap.size w w2 := (hB1.alloc hsz1 _).grown hgrow2 (by first | (simp; done) | (simp; omega) | omega) (fun j hj => ((hown1.alloc (.cells #[Value.int .i64 x] 2)).lt j hj).1)
            have hsz2 := hB2.size
            have HNW := hide (ints_news (HA.out.keep hB2) (j + 1))
            clear hown1 hgrow2 hnil2 hne2 hB1
            go_wp2_with (at_builtin; refine wpList_append_own _ rfl _ _ 22 rfl w.heap.size 2 i0 (.int .i64 0) 1 8 Try.underlying22 hi hz0 hz1 hz2 rfl (by decide) _ _ _ rfl hown2 ⟨g, (j + 1), none⟩ (zs.length - (j + 1)) _ ((zs.drop (j + 1)).map intV) rfl (by simp) HNW.out (fun u h => by obtain ⟨z, _, rfl⟩ := List.mem_map.1 h; rfl) (by unfold maxLen; first | (simp; done) | (simp; omega) | omega) (by first | (simp; done) | (simp; omega) | omega) (by omega) ?_)
            intro v3 w3 hown3 hgrow3 hnil3
            have hne3 : v3 ≠ .slice none 0 0 := by intro e; first | exact hnil3 e | (have := hnil3.1 e; simp at this)
            obtain ⟨g3, c3, rfl⟩ := own_some hown3 hne3
            have hB3 : Below w.heap.size w w3 := hB2.grown hgrow3 hsz2 (fun j hj => (hown2.lt j hj).1)
            have hlen : (j + 1) + 1 + (zs.length - (j + 1)) = (putS x zs).length := by rw [HPU.out]; first | (simp; done) | (simp; omega) | (simp; exact List.eq_nil_of_length_eq_zero (by omega))
            have hfin : Hid (PutPost B W0 (putS x zs) (.returned (.slice (some ⟨g3, 0, none⟩) ((j + 1) + 1 + (zs.length - (j + 1))) c3)) w3) := by
              refine hide ⟨g3, c3, by rw [hlen], ?_, HO.out.old.trans (hB3.mono HO.out.size), by have := hB3.size; have := HO.out.size; omega⟩
              rw [← hlen]
              have h4 : (putS x zs).map intV = (zs.take (j + 1)).map intV ++ [.int .i64 x] ++ ((zs.drop (j + 1)).map intV) := by rw [HPU.out]; simp [intV]
              rw [h4]
              have h5 := ownsRow_base hown3 HO.out.size
              simpa using h5
            clear hown2 hown3 hgrow3 hnil3 hne3 hB2 hB3
            go_wp2_with fail
            go_ret
            simpa using hfin.out
end Go.Proofs.Ytkekanllfpdeaab
