/-
  l01Own and l01Put: at the end of an ascending list.
-/
import Derived.Test.YtlgogpphlnogoaaHeapS
namespace Go.Proofs.Ytlgogpphlnogoaa
open Go.RowKit

theorem ascB_pairwise : ∀ {zs : List Int} {low high : Int}, ascB low high zs = true → zs.Pairwise (· < ·)
  | [], _, _, _ => List.Pairwise.nil
  | x :: r, low, high, h => by
    by_cases hx : x < low ∨ high < x
    · rw [ascB_no hx] at h; cases h
    · rw [ascB_go (by omega) (by omega)] at h
      exact List.Pairwise.cons (fun y hy => by have := (ascB_mem h y hy).1; omega) (ascB_pairwise h)
theorem take_lt {zs : List Int} {p : Nat} {t : Int} (h : zs.Pairwise (· < ·)) (ht : zs[p]? = some t) : ∀ z ∈ zs.take p, z < t := by
  intro z hz
  have e : zs = zs.take p ++ t :: zs.drop (p + 1) := by
    conv => lhs; rw [← List.take_append_drop p zs]
    rw [drop_of_get ht]
  rw [e, List.pairwise_append] at h
  exact h.2.2 z hz t (by simp)

def NewRowV (zs : List Int) (w : World) (e : Ending) (w' : World) : Prop :=
  ∃ g c, e = .returned (.slice (some ⟨g, 0, none⟩) zs.length c) ∧ w'.ownsRow w.heap.size 2 1 (.slice (some ⟨g, 0, none⟩) zs.length c) zs.length (zs.map intV) ∧ Below w.heap.size w w'
theorem own_some {w : World} {base n : Nat} {v : Value} {e : TypeId} {xs : List Value} (h : w.ownsRow base e 1 v n xs) (hne : v ≠ .slice none 0 0) : ∃ g c, v = .slice (some ⟨g, 0, none⟩) n c := by
  rcases h.2 with ⟨h0, _⟩ | ⟨g, cap, cur, rfl, _⟩
  · exact absurd h0 hne
  · exact ⟨g, cap, rfl⟩
theorem own_cap {w : World} {base n c : Nat} {a : Option Addr} {e : TypeId} {xs : List Value} (h : w.ownsRow base e 1 (.slice a n c) n xs) : n ≤ c ∧ c ≤ maxLen := by
  rcases h.2 with ⟨h0, h1⟩ | ⟨g, cap, cur, hv, _, _, h2, h3, _⟩
  · simp at h0
    omega
  · simp only [Value.slice.injEq, true_and] at hv
    omega

set_option maxRecDepth 100000 in
set_option maxHeartbeats 1000000 in
theorem l01Own_any (g c : Nat) (zs : List Int) (w : World) (ha : IntsAt w (some ⟨g, 0, none⟩) zs) (hl : zs.length ≤ 1000) :
    Calls Try.prog 101 #[.slice (some ⟨g, 0, none⟩) zs.length c] w (NewRowV zs w) := by
  obtain ⟨i0, hi, hz0, hz1, hz2⟩ := info_parts Try.info2
  have hB0 : Below w.heap.size w (w.alloc (.cells #[] 2)) := (Below.refl _ _).alloc (Nat.le_refl _) _
  have hown : (w.alloc (.cells #[] 2)).ownsRow w.heap.size 2 1 (.slice (some ⟨w.heap.size, 0, none⟩) 0 0) 0 [] := ⟨rfl, .inr ⟨w.heap.size, 0, #[], rfl, Nat.le_refl _, heap_alloc_new w _, Nat.le_refl _, Nat.zero_le _, rfl, rfl⟩⟩
  have hnews : ∀ j u, (zs.map intV)[j]? = some u → (w.alloc (.cells #[] 2)).cell? ((⟨g, 0, none⟩ : Addr).add j) = some u := by
    intro j u hu
    have hne : zs.map intV ≠ [] := by intro e; rw [e] at hu; simp at hu
    obtain ⟨b, off, e, hc⟩ := (ha.keep hB0) hne
    simp at e
    obtain ⟨rfl, rfl⟩ := e
    have hj := (List.getElem?_eq_some_iff.1 hu).1
    rw [← hu, ← hc j hj]
    congr 1
    simp only [Addr.add]
    split
    · rename_i e; subst e; rfl
    · rfl
  have HN := hide hnews
  clear hnews ha
  go_enter Try.func101, Try.ntmps101
  go_wp2_with (at_builtin; refine wpList_append_own _ rfl _ _ 26 rfl w.heap.size 2 i0 (.int .i64 0) 1 8 Try.underlying26 hi hz0 hz1 hz2 rfl (by decide) _ _ _ rfl hown ⟨g, 0, none⟩ zs.length c (zs.map intV) rfl (by simp) HN.out (by simp [intV, Value.oneCell']) (by unfold maxLen; omega) (by omega) (by simp) ?_)
  intro v' w4 hown' hgrow hnil
  have hne : v' ≠ .slice none 0 0 := by intro e; first | exact hnil e | (have := hnil.1 e; simp at this)
  obtain ⟨g', c', rfl⟩ := own_some hown' hne
  have hfin : Hid (NewRowV zs w (.returned (.slice (some ⟨g', 0, none⟩) (0 + zs.length) c')) w4) := by
    refine hide ⟨g', c', by rw [Nat.zero_add], ?_, hB0.grown hgrow (by simp) (fun j hj => (hown.lt j hj).1)⟩
    simpa using hown'
  clear hown' hgrow hnil hne hown
  go_wp2_with fail
  go_ret
  simpa using hfin.out

set_option maxRecDepth 100000 in
set_option maxHeartbeats 2000000 in
theorem l01Put_any (g c : Nat) (zs : List Int) (x : Int) (w : World) (ha : IntsAt w (some ⟨g, 0, none⟩) zs) (hc : zs.length ≤ c) (hcm : c ≤ maxLen) (hl : zs.length ≤ 1000) (hx : ∀ z ∈ zs, z < x) :
    Calls Try.prog 94 #[.slice (some ⟨g, 0, none⟩) zs.length c, .int .i64 x] w (NewRowV (zs ++ [x]) w) := by
  obtain ⟨i0, hi, hz0, hz1, hz2⟩ := info_parts Try.info2
  unfold maxLen at hcm
  have hcall := hide (l01Own_any g c zs w ha hl)
  by_cases hn : zs.length = 0
  · obtain rfl : zs = [] := List.eq_nil_of_length_eq_zero hn
    clear ha hx hn
    go_enter Try.func94, Try.ntmps94
    go_wp2_with fail
    refine wp_loop_rounds 1 ?_
    rw [rounds_succ]
    go_wp2_with fail
    by_cases hcz : c = 0
    · subst hcz
      refine hcall.out.mono ?_
      rintro e w1 ⟨g1, c1, rfl, hown1, hB1⟩
      have hsz1 := hB1.size
      go_wp2_with (at_builtin; refine wpList_append_own _ rfl _ _ 26 rfl w.heap.size 2 i0 (.int .i64 0) 1 8 Try.underlying26 hi hz0 hz1 hz2 rfl (by decide) _ _ _ rfl (hown1.alloc _) ⟨w1.heap.size, 0, none⟩ 1 1 [.int .i64 x] rfl rfl (cell_one_new _ _ _) (by simp [Value.oneCell']) (by unfold maxLen; first | (simp; done) | (simp; omega) | omega) (by first | (simp; done) | (simp; omega) | omega) (by first | (simp; done) | (simp; omega) | omega) ?_)
      intro v2 w2 hown2 hgrow2 hnil2
      have hne2 : v2 ≠ .slice none 0 0 := by intro e; first | exact hnil2 e | (have := hnil2.1 e; simp at this)
      obtain ⟨g2, c2, rfl⟩ := own_some hown2 hne2
      have hB2 : Below w.heap.size w w2 := (hB1.alloc hsz1 _).grown hgrow2 (by first | (simp; done) | (simp; omega) | omega) (fun j hj => ((hown1.alloc (.cells #[Value.int .i64 x] 2)).lt j hj).1)
      have hsz2 := hB2.size
      clear hown1 hgrow2 hnil2 hne2 hB1 hcall
      go_wp2_with (at_builtin; refine wpList_append_own _ rfl _ _ 26 rfl w.heap.size 2 i0 (.int .i64 0) 1 8 Try.underlying26 hi hz0 hz1 hz2 rfl (by decide) _ _ _ rfl hown2 _ 0 _ [] rfl rfl (fun j u h => by simp at h) (fun u h => by simp at h) (by unfold maxLen; first | (simp; done) | (simp; omega) | omega) (by first | (simp; done) | (simp; omega) | omega) (by omega) ?_)
      intro v3 w3 hown3 hgrow3 hnil3
      have hne3 : v3 ≠ .slice none 0 0 := by intro e; first | exact hnil3 e | (have := hnil3.1 e; simp at this)
      obtain ⟨g3, c3, rfl⟩ := own_some hown3 hne3
      have hB3 : Below w.heap.size w w3 := hB2.grown hgrow3 hsz2 (fun j hj => (hown2.lt j hj).1)
      have hfin : Hid (NewRowV (([] : List Int) ++ [x]) w (.returned (.slice (some ⟨g3, 0, none⟩) (([] : List Int) ++ [x]).length c3)) w3) := by
        refine hide ⟨g3, c3, rfl, ?_, hB3⟩
        simpa [intV] using hown3
      clear hown2 hown3 hgrow3 hnil3 hne3 hB2 hB3
      go_wp2_with fail
      go_ret
      simpa using hfin.out
    · have hcz' : 0 < c := by omega
      refine hcall.out.mono ?_
      rintro e w1 ⟨g1, c1, rfl, hown1, hB1⟩
      have hsz1 := hB1.size
      go_wp2_with (at_builtin; refine wpList_append_own _ rfl _ _ 26 rfl w.heap.size 2 i0 (.int .i64 0) 1 8 Try.underlying26 hi hz0 hz1 hz2 rfl (by decide) _ _ _ rfl (hown1.alloc _) ⟨w1.heap.size, 0, none⟩ 1 1 [.int .i64 x] rfl rfl (cell_one_new _ _ _) (by simp [Value.oneCell']) (by unfold maxLen; first | (simp; done) | (simp; omega) | omega) (by first | (simp; done) | (simp; omega) | omega) (by first | (simp; done) | (simp; omega) | omega) ?_)
      intro v2 w2 hown2 hgrow2 hnil2
      have hne2 : v2 ≠ .slice none 0 0 := by intro e; first | exact hnil2 e | (have := hnil2.1 e; simp at this)
      obtain ⟨g2, c2, rfl⟩ := own_some hown2 hne2
      have hB2 : Below w.heap.size w w2 := (hB1.alloc hsz1 _).grown hgrow2 (by first | (simp; done) | (simp; omega) | omega) (fun j hj => ((hown1.alloc (.cells #[Value.int .i64 x] 2)).lt j hj).1)
      have hsz2 := hB2.size
      clear hown1 hgrow2 hnil2 hne2 hB1 hcall
      go_wp2_with (at_builtin; refine wpList_append_own _ rfl _ _ 26 rfl w.heap.size 2 i0 (.int .i64 0) 1 8 Try.underlying26 hi hz0 hz1 hz2 rfl (by decide) _ _ _ rfl hown2 _ 0 _ [] rfl rfl (fun j u h => by simp at h) (fun u h => by simp at h) (by unfold maxLen; first | (simp; done) | (simp; omega) | omega) (by first | (simp; done) | (simp; omega) | omega) (by omega) ?_)
      intro v3 w3 hown3 hgrow3 hnil3
      have hne3 : v3 ≠ .slice none 0 0 := by intro e; first | exact hnil3 e | (have := hnil3.1 e; simp at this)
      obtain ⟨g3, c3, rfl⟩ := own_some hown3 hne3
      have hB3 : Below w.heap.size w w3 := hB2.grown hgrow3 hsz2 (fun j hj => (hown2.lt j hj).1)
      have hfin : Hid (NewRowV (([] : List Int) ++ [x]) w (.returned (.slice (some ⟨g3, 0, none⟩) (([] : List Int) ++ [x]).length c3)) w3) := by
        refine hide ⟨g3, c3, rfl, ?_, hB3⟩
        simpa [intV] using hown3
      clear hown2 hown3 hgrow3 hnil3 hne3 hB2 hB3
      go_wp2_with fail
      go_ret
      simpa using hfin.out
  · obtain ⟨m, hm⟩ : ∃ m, zs.length = m + 1 := ⟨zs.length - 1, by omega⟩
    obtain ⟨b, off, z, e, hcz, hz⟩ := ha.one (k := m) (by omega)
    simp at e
    obtain ⟨rfl, rfl⟩ := e
    rw [Nat.zero_add] at hcz
    have hzx := hx z (mem_of_get hz.out)
    have hne : (z == x) = false := by simp; omega
    have hd : decide (x < z) = false := decide_eq_false (by omega)
    have HM := hide hm
    have hpos : 0 < zs.length := by omega
    have hml : m < zs.length := by omega
    have hcl : decide (0 < zs.length) = true := decide_eq_true hpos
    have hw1 : IntKind.i64.wrap ((zs.length : Int) - 1) = (m : Int) := by rw [IntWalk.i64_in _ (by omega)]; omega
    clear hx ha hm
    by_cases hcn : c = zs.length
    · subst hcn
      go_enter Try.func94, Try.ntmps94
      go_wp2_with fail
      refine wp_loop_rounds 1 ?_
      rw [rounds_succ]
      go_wp2_with fail
      refine hcall.out.mono ?_
      rintro e w1 ⟨g1, c1, rfl, hown1, hB1⟩
      have hsz1 := hB1.size
      go_wp2_with (at_builtin; refine wpList_append_own _ rfl _ _ 26 rfl w.heap.size 2 i0 (.int .i64 0) 1 8 Try.underlying26 hi hz0 hz1 hz2 rfl (by decide) _ _ _ rfl (hown1.alloc _) ⟨w1.heap.size, 0, none⟩ 1 1 [.int .i64 x] rfl rfl (cell_one_new _ _ _) (by simp [Value.oneCell']) (by unfold maxLen; first | (simp; done) | (simp; omega) | omega) (by first | (simp; done) | (simp; omega) | omega) (by first | (simp; done) | (simp; omega) | omega) ?_)
      intro v2 w2 hown2 hgrow2 hnil2
      have hne2 : v2 ≠ .slice none 0 0 := by intro e; first | exact hnil2 e | (have := hnil2.1 e; simp at this)
      obtain ⟨g2, c2, rfl⟩ := own_some hown2 hne2
      have hB2 : Below w.heap.size w w2 := (hB1.alloc hsz1 _).grown hgrow2 (by first | (simp; done) | (simp; omega) | omega) (fun j hj => ((hown1.alloc (.cells #[Value.int .i64 x] 2)).lt j hj).1)
      have hsz2 := hB2.size
      clear hown1 hgrow2 hnil2 hne2 hB1 hcall
      go_wp2_with (at_builtin; refine wpList_append_own _ rfl _ _ 26 rfl w.heap.size 2 i0 (.int .i64 0) 1 8 Try.underlying26 hi hz0 hz1 hz2 rfl (by decide) _ _ _ rfl hown2 _ 0 _ [] rfl rfl (fun j u h => by simp at h) (fun u h => by simp at h) (by unfold maxLen; first | (simp; done) | (simp; omega) | omega) (by first | (simp; done) | (simp; omega) | omega) (by omega) ?_)
      intro v3 w3 hown3 hgrow3 hnil3
      have hne3 : v3 ≠ .slice none 0 0 := by intro e; first | exact hnil3 e | (have := hnil3.1 e; simp at this)
      obtain ⟨g3, c3, rfl⟩ := own_some hown3 hne3
      have hB3 : Below w.heap.size w w3 := hB2.grown hgrow3 hsz2 (fun j hj => (hown2.lt j hj).1)
      have hfin : Hid (NewRowV (zs ++ [x]) w (.returned (.slice (some ⟨g3, 0, none⟩) (zs ++ [x]).length c3)) w3) := by
        refine hide ⟨g3, c3, rfl, ?_, hB3⟩
        simpa [intV] using hown3
      clear hown2 hown3 hgrow3 hnil3 hne3 hB2 hB3
      go_wp2_with fail
      go_ret
      simpa using hfin.out
    · have hclt : zs.length < c := by omega
      go_enter Try.func94, Try.ntmps94
      go_wp2_with fail
      refine wp_loop_rounds 1 ?_
      rw [rounds_succ]
      go_wp2_with fail
      refine hcall.out.mono ?_
      rintro e w1 ⟨g1, c1, rfl, hown1, hB1⟩
      have hsz1 := hB1.size
      go_wp2_with (at_builtin; refine wpList_append_own _ rfl _ _ 26 rfl w.heap.size 2 i0 (.int .i64 0) 1 8 Try.underlying26 hi hz0 hz1 hz2 rfl (by decide) _ _ _ rfl (hown1.alloc _) ⟨w1.heap.size, 0, none⟩ 1 1 [.int .i64 x] rfl rfl (cell_one_new _ _ _) (by simp [Value.oneCell']) (by unfold maxLen; first | (simp; done) | (simp; omega) | omega) (by first | (simp; done) | (simp; omega) | omega) (by first | (simp; done) | (simp; omega) | omega) ?_)
      intro v2 w2 hown2 hgrow2 hnil2
      have hne2 : v2 ≠ .slice none 0 0 := by intro e; first | exact hnil2 e | (have := hnil2.1 e; simp at this)
      obtain ⟨g2, c2, rfl⟩ := own_some hown2 hne2
      have hB2 : Below w.heap.size w w2 := (hB1.alloc hsz1 _).grown hgrow2 (by first | (simp; done) | (simp; omega) | omega) (fun j hj => ((hown1.alloc (.cells #[Value.int .i64 x] 2)).lt j hj).1)
      have hsz2 := hB2.size
      clear hown1 hgrow2 hnil2 hne2 hB1 hcall
      go_wp2_with (at_builtin; refine wpList_append_own _ rfl _ _ 26 rfl w.heap.size 2 i0 (.int .i64 0) 1 8 Try.underlying26 hi hz0 hz1 hz2 rfl (by decide) _ _ _ rfl hown2 _ 0 _ [] rfl rfl (fun j u h => by simp at h) (fun u h => by simp at h) (by unfold maxLen; first | (simp; done) | (simp; omega) | omega) (by first | (simp; done) | (simp; omega) | omega) (by omega) ?_)
      intro v3 w3 hown3 hgrow3 hnil3
      have hne3 : v3 ≠ .slice none 0 0 := by intro e; first | exact hnil3 e | (have := hnil3.1 e; simp at this)
      obtain ⟨g3, c3, rfl⟩ := own_some hown3 hne3
      have hB3 : Below w.heap.size w w3 := hB2.grown hgrow3 hsz2 (fun j hj => (hown2.lt j hj).1)
      have hfin : Hid (NewRowV (zs ++ [x]) w (.returned (.slice (some ⟨g3, 0, none⟩) (zs ++ [x]).length c3)) w3) := by
        refine hide ⟨g3, c3, rfl, ?_, hB3⟩
        simpa [intV] using hown3
      clear hown2 hown3 hgrow3 hnil3 hne3 hB2 hB3
      go_wp2_with fail
      go_ret
      simpa using hfin.out
end Go.Proofs.Ytlgogpphlnogoaa
