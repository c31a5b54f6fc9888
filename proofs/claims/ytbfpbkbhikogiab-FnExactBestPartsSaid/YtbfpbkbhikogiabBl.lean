/-
  Ends of dots and boxes: lists of parts, the model's text.
-/
import Derived.Test.YtbfpbkbhikogiabBp
import Derived.Test.YtbfpbkbhikogiabVv
import Derived.Test.YtbfpbkbhikogiabEnI
namespace Go.Proofs.Ytbfpbkbhikogiab
open Go.RowKit
set_option linter.unusedVariables false

theorem row_some {w : World} {base n : Nat} {v : Value} {e : TypeId} {xs : List Value} (h : w.ownsRow base e 1 v n xs) (hne : v ≠ .slice none 0 0) : ∃ g c, v = .slice (some ⟨g, 0, none⟩) n c := by
  rcases h.2 with ⟨h0, _⟩ | ⟨g, cap, cur, rfl, _⟩
  · exact absurd h0 hne
  · exact ⟨g, cap, rfl⟩
/-- A row of its own that is not nil. -/
def RowV (zs : List Int) (w : World) (e : Ending) (w' : World) : Prop :=
  ∃ g c, e = .returned (.slice (some ⟨g, 0, none⟩) zs.length c) ∧ w'.ownsRow w.heap.size 2 1 (.slice (some ⟨g, 0, none⟩) zs.length c) zs.length (zs.map intV) ∧ Below w.heap.size w w'

set_option maxRecDepth 100000 in
set_option maxHeartbeats 1000000 in
theorem own01_any (g c : Nat) (zs : List Int) (w : World) (ha : IntsAt w (some ⟨g, 0, none⟩) zs) (hl : zs.length ≤ 1000) :
    Calls Try.prog 20 #[.slice (some ⟨g, 0, none⟩) zs.length c] w (RowV zs w) := by
  obtain ⟨i0, hi, hz0, hz1, hz2⟩ := info_parts Try.info2
  have hB0 : Below w.heap.size w (w.alloc (.cells #[] 2)) := (Below.refl _ _).alloc (Nat.le_refl _) _
  have hown : (w.alloc (.cells #[] 2)).ownsRow w.heap.size 2 1 (.slice (some ⟨w.heap.size, 0, none⟩) 0 0) 0 [] := ⟨rfl, .inr ⟨w.heap.size, 0, #[], rfl, Nat.le_refl _, heap_alloc_new w _, Nat.le_refl _, Nat.zero_le _, rfl, rfl⟩⟩
  have hnews : ∀ j u, (zs.map intV)[j]? = some u → (w.alloc (.cells #[] 2)).cell? ((⟨g, 0, none⟩ : Addr).add j) = some u := by
    intro j u hu
    have hne : zs.map intV ≠ [] := by intro e; rw [e] at hu; simp at hu
    obtain ⟨b, off, e, hc⟩ := (ha.keep hB0) hne
    simp at e
    obtain ⟨rfl, rfl⟩ := e
    have hj := (List.getElem?_eq_some_iff.1 hu).1
    rw [← hu, ← hc j hj]
    congr 1
    simp only [Addr.add]
    split
    · rename_i e; subst e; rfl
    · rfl
  have HN := hide hnews
  clear hnews ha
  go_enter Try.func20, Try.ntmps20
  go_wp2_with (at_builtin; refine wpList_append_own _ rfl _ _ 22 rfl w.heap.size 2 i0 (.int .i64 0) 1 8 Try.underlying22 hi hz0 hz1 hz2 rfl (by decide) _ _ _ rfl hown ⟨g, 0, none⟩ zs.length c (zs.map intV) rfl (by simp) HN.out (by simp [intV, Value.oneCell']) (by unfold maxLen; omega) (by omega) (by simp) ?_)
  intro v' w4 hown' hgrow hnil
  have hne : v' ≠ .slice none 0 0 := by intro e; first | exact hnil e | (have := hnil.1 e; simp at this)
  obtain ⟨g', c', rfl⟩ := row_some hown' hne
  have hfin : Hid (RowV zs w (.returned (.slice (some ⟨g', 0, none⟩) (0 + zs.length) c')) w4) := by
    refine hide ⟨g', c', by rw [Nat.zero_add], ?_, hB0.grown hgrow (by simp) (fun j hj => (hown.lt j hj).1)⟩
    simpa using hown'
  clear hown' hgrow hnil hne hown
  go_wp2_with fail
  go_ret
  simpa using hfin.out

/-- A list of rows that is not nil. -/
def NewO (B : Nat) (xss : List (List Int)) (w : World) (e : Ending) (w' : World) : Prop :=
  ∃ g c vs, e = .returned (.slice (some ⟨g, 0, none⟩) xss.length c) ∧ ListO w.heap.size B w' (.slice (some ⟨g, 0, none⟩) xss.length c) vs xss ∧ Below w.heap.size w w'

set_option maxRecDepth 100000 in
set_option maxHeartbeats 4000000 in
theorem lists_any : ∀ (k low n g c : Nat) (b : List Int) (B : Nat) (K : Int) (W : World), K = (k : Int) → k ≤ 6 → n ≤ 20 → 1 ≤ low → low ≤ 21 → b.length + k ≤ 20 → B ≤ W.heap.size → W.ownsRow B 2 1 (.slice (some ⟨g, 0, none⟩) b.length c) b.length (b.map intV) →
    Calls Try.prog 10 #[.slice (some ⟨g, 0, none⟩) b.length c, .int .i64 K, .int .i64 low, .int .i64 n] W (NewO B (sp k low n b) W)
  | 0, low, n, g, c, b, B, K, W, hK, _, hn, hlo, hlo2, hb, hB, ho => by
    obtain ⟨bl, hbl⟩ : ∃ bl, bl = b.length := ⟨_, rfl⟩
    subst hK
    by_cases hn0 : n = 0
    · subst hn0
      have hs : Hid (sp 0 low 0 b = [b]) := hide rfl
      have ha := below_alloc W (.cells #[.slice (some ⟨g, 0, none⟩) bl c] 22)
      have hfin : Hid (NewO B [b] W (.returned (.slice (some ⟨W.heap.size, 0, none⟩) 1 1)) (W.alloc (.cells #[.slice (some ⟨g, 0, none⟩) bl c] 22))) := hide ⟨W.heap.size, 1, _, rfl, ListO.one (heap_alloc_new W _) (Nat.le_refl _) (by rw [hbl]; exact ownsRow_keep ho (below_alloc _ _)), ha⟩
      rw [hs.out, ← hbl]
      clear ho ha hbl hb
      go_enter Try.func10, Try.ntmps10
      go_wp2_with fail
      go_ret
      exact hfin.out
    · have hs : Hid (sp 0 low n b = []) := hide (by unfold sp; rw [if_neg hn0])
      have ha := below_alloc W (.cells #[] 22)
      have hfin : Hid (NewO B [] W (.returned (.slice (some ⟨W.heap.size, 0, none⟩) 0 0)) (W.alloc (.cells #[] 22))) := hide ⟨W.heap.size, 0, _, rfl, ListO.empty _ (heap_alloc_new W _) (Nat.le_refl _), ha⟩
      have hnz : ((n : Int) == 0) = false := by rw [beq_eq_false_iff_ne]; omega
      rw [hs.out, ← hbl]
      clear ho ha hbl hb
      go_enter Try.func10, Try.ntmps10
      go_wp2_with fail
      go_ret
      exact hfin.out
  | k + 1, low, n, g, c, b, B, K, W, hK, hk, hn, hlo, hlo2, hb, hB, ho => by
    obtain ⟨i0, hi0, hz0, hz1, hz2⟩ := info_parts Try.info2
    obtain ⟨i1, hi1, hy0, hy1, hy2⟩ := info_parts Try.info22
    have hrec : ∀ (x : Nat) (g2 c2 : Nat) (b2 : List Int) (K2 N2 : Int) (W2 : World), K2 = (k : Int) → N2 = ((n - x : Nat) : Int) → 1 ≤ x → x ≤ 21 → b2.length + k ≤ 20 → B ≤ W2.heap.size → W2.ownsRow B 2 1 (.slice (some ⟨g2, 0, none⟩) b2.length c2) b2.length (b2.map intV) → Calls Try.prog 10 #[.slice (some ⟨g2, 0, none⟩) b2.length c2, .int .i64 K2, .int .i64 x, .int .i64 N2] W2 (NewO B (sp k x (n - x) b2) W2) := fun x g2 c2 b2 K2 N2 W2 h1 h2 h3 h4 h5 h6 h7 => by
      subst h2
      exact lists_any k x (n - x) g2 c2 b2 B K2 W2 h1 (by omega) (by omega) h3 h4 h5 h6 h7
    obtain ⟨q, hq⟩ : ∃ q, q = n / (k + 1) := ⟨_, rfl⟩
    have hqm : ∀ x, x ≤ q ↔ x * (k + 1) ≤ n := fun x => by rw [hq]; exact Nat.le_div_iff_mul_le (by omega)
    obtain ⟨cnt, hcnt⟩ : ∃ cnt, cnt = q + 1 - low := ⟨_, rfl⟩
    have hq20 : q ≤ 20 := by rw [hq]; exact Nat.le_trans (Nat.div_le_self _ _) hn
    have hsp : Hid (sp (k + 1) low n b = spJ k low n b cnt) := hide (by rw [hcnt, hq]; rfl)
    have HREC := hide hrec
    have HQM := hide hqm
    have HO := hide ho
    obtain ⟨bl, hbl⟩ : ∃ bl, bl = b.length := ⟨_, rfl⟩
    have HBL := hide hbl
    have hK1 : 1 ≤ K := by omega
    have hK6 : K ≤ 6 := by omega
    have HK := hide hK
    have hKz : (K == 0) = false := by rw [beq_eq_false_iff_ne]; omega
    rw [hsp.out, ← hbl]
    rw [← hbl] at hb
    clear hrec hqm ho hbl hK hq
    have hE : Hid (ListO W.heap.size B (W.alloc (.cells #[] 22)) (.slice (some ⟨W.heap.size, 0, none⟩) 0 0) [] []) := hide (ListO.empty _ (heap_alloc_new W _) (Nat.le_refl _))
    have hA := hide (below_alloc W (.cells #[] 22))
    go_enter Try.func10, Try.ntmps10
    go_wp2_with fail
    go_loopg [9, 10] cnt (fun gm s9 s10 wr => ∃ (j x : Nat) (vs : List Value) (v : Value), j + gm = cnt ∧ x = low + j ∧ s9 = v ∧ s10 = .int .i64 x ∧ ListO W.heap.size B wr v vs (spJ k low n b j) ∧ v ≠ .slice none 0 0 ∧ Below W.heap.size W wr)
    case atStart => exact ⟨0, low, [], _, by omega, rfl, rfl, rfl, hE.out, by simp, hA.out⟩
    case round =>
      clear hE hA
      obtain ⟨j, x, vs, v, hj, hx, rfl, rfl, hL, hv, hBl⟩ := hrel
      have hx21 : x ≤ 21 := by omega
      have hprod : ((x : Int) * K) = ((x * (k + 1) : Nat) : Int) := by rw [HK.out]; simp
      have hp0 : 0 ≤ (x : Int) * K := by rw [hprod]; omega
      have hp1 : (x : Int) * K ≤ 200 := by
        rw [hprod]
        have h1 : x * (k + 1) ≤ 21 * (k + 1) := Nat.mul_le_mul_right _ hx21
        omega
      have hwm : wrap64 ((x : Int) * K) = (x : Int) * K := by
        obtain ⟨y, hy⟩ : ∃ y, y = (x : Int) * K := ⟨_, rfl⟩
        rw [← hy] at hp0 hp1 ⊢
        unfold wrap64
        omega
      have HL := hide hL
      have HV := hide hv
      have HB := hide hBl
      cases gk with
      | zero =>
        have hno : ¬ ((x : Int) * K ≤ (n : Int)) := by
          have h1 := HQM.out x
          have h2 : ¬ x ≤ q := by omega
          rw [h1] at h2
          rw [hprod]
          omega
        have hdec : (wrap64 ((x : Int) * K) ≤ (n : Int)) = False := by rw [hwm]; exact eq_false hno
        have HX := hide hx
        obtain rfl : j = cnt := by omega
        obtain ⟨g', c', rfl⟩ := row_some hL.own hv
        have hfin : Hid (NewO B (spJ k low n b j) W (.returned (.slice (some ⟨g', 0, none⟩) (spJ k low n b j).length c')) wr) := hide ⟨g', c', vs, rfl, hL, hBl⟩
        clear hL hv hBl hprod hx hwm hno hp0 hp1
        go_wp2_with fail
        refine bodyPost_ret (v := .slice (some ⟨g', 0, none⟩) (spJ k low n b j).length c') (by simp [results, Try.results10, go_sem]) rfl hfin.out
      | succ g2 =>
        have hxq : x ≤ q := by omega
        have hyes : (x : Int) * K ≤ (n : Int) := by
          have h1 := (HQM.out x).1 hxq
          rw [hprod]
          omega
        have hxn : x ≤ n := by
          have h1 := (HQM.out x).1 hxq
          have h2 : x * 1 ≤ x * (k + 1) := Nat.mul_le_mul_left _ (by omega)
          omega
        have hsz : W.heap.size ≤ wr.heap.size := hBl.size
        have hO1 := hide (ownsRow_keep HO.out (hBl.mono (Nat.le_refl _)))
        have hdec : (wrap64 ((x : Int) * K) ≤ (n : Int)) = True := by rw [hwm]; exact eq_true hyes
        have HX := hide hx
        clear hL hv hBl hprod hx hwm hyes hp0 hp1
        go_wp2_with fail
        rw [HBL.out]
        refine (own01_any g c b _ (intsAt_of_ownsRow hO1.out) (by have := HBL.out; omega)).mono ?_
        rw [← HBL.out]
        rintro e w1 ⟨g1, c1, rfl, ho1, hb1⟩
        have hs1 : wr.heap.size ≤ w1.heap.size := hb1.size
        have HB1 := hide hb1
        have hown1 := ho1
        have hbl20 : b.length ≤ 20 := by have := HBL.out; omega
        clear hb1 ho1
        go_wp2_with (at_builtin; refine wpList_append_own _ rfl _ _ 22 rfl (wr.heap.size) 2 i0 (.int .i64 0) 1 8 Try.underlying22 hi0 hz0 hz1 hz2 rfl (by decide) _ _ _ rfl (hown1.alloc _) ⟨w1.heap.size, 0, none⟩ 1 1 [.int .i64 x] rfl rfl (cell_one_new _ _ _) (by simp [Value.oneCell']) (by unfold maxLen; omega) (by omega) (by simp; omega) ?_)
        intro v2 w2 hown2 hgrow2 hnil2
        have hg2 : v2 ≠ .slice none 0 0 := by intro e; first | exact hnil2 e | (have := hnil2.1 e; simp at this)
        obtain ⟨g2', c2, rfl⟩ := row_some hown2 hg2
        have hb2 : Below wr.heap.size wr w2 := (HB1.out.alloc hs1 _).grown hgrow2 (by simp; omega) (fun j hj => (hown1.lt j hj).1)
        have HB2 := hide hb2
        have hs2 : wr.heap.size ≤ w2.heap.size := hb2.size
        have hown2' : w2.ownsRow B 2 1 (.slice (some ⟨g2', 0, none⟩) (b ++ [(x : Int)]).length c2) (b ++ [(x : Int)]).length ((b ++ [(x : Int)]).map intV) := by
          have := ownsRow_base hown2 (show B ≤ wr.heap.size by omega)
          simpa [intV] using this
        have hcall : Hid (∀ K2 N2 : Int, K2 = (k : Int) → N2 = ((n - x : Nat) : Int) → Calls Try.prog 10 #[.slice (some ⟨g2', 0, none⟩) (b.length + 1) c2, .int .i64 K2, .int .i64 x, .int .i64 N2] w2 (NewO B (sp k x (n - x) (b ++ [(x : Int)])) w2)) := hide (fun K2 N2 h1 h2 => by
          have h3 := HREC.out x g2' c2 (b ++ [(x : Int)]) K2 N2 w2 h1 h2 (by have := HX.out; omega) hx21 (by have := HBL.out; simp; omega) (by omega) hown2'
          rw [show (b ++ [(x : Int)]).length = b.length + 1 by simp] at h3
          exact h3)
        have hspl : Hid ((sp k x (n - x) (b ++ [(x : Int)])).length ≤ 85766121) := hide (Nat.le_trans (sp_le k x (n - x) _ (by omega)) (pow_bd (by omega)))
        have hjl : Hid ((spJ k low n b j).length ≤ 85766121) := hide (spJ_le b (by omega) hn (by omega))
        have hstep : Hid (spJ k low n b (j + 1) = spJ k low n b j ++ sp k x (n - x) (b ++ [(x : Int)])) := hide (by rw [HX.out]; exact spJ_step k low n b j)
        obtain ⟨xs, hxs⟩ : ∃ xs, xs = sp k x (n - x) (b ++ [(x : Int)]) := ⟨_, rfl⟩
        obtain ⟨acc, hacc⟩ : ∃ acc, acc = spJ k low n b j := ⟨_, rfl⟩
        rw [← hxs] at hcall hspl hstep
        rw [← hacc] at hjl hstep HL
        clear hown2 hgrow2 hnil2 hg2 hb2 hown2' hxs hacc hown1
        go_wp2_with fail
        refine (hcall.out _ _ (by have := HK.out; omega) (by omega)).mono ?_
        rintro e w3 ⟨g3, c3, vs3, rfl, hL3, hb3⟩
        have hLr := HL.out.keep (Below.trans' HB2.out hb3)
        have hlen3 := hL3.len
        have hownr := hLr.own
        have h1l := hspl.out
        have h2l := hjl.out
        have hs3 : w2.heap.size ≤ w3.heap.size := hb3.size
        have HB3 := hide hb3
        have HL3 := hide hL3
        have HLR := hide hLr
        have HLEN := hide hlen3
        clear hb3 hL3 hLr hlen3
        go_wp2_with (at_builtin; refine wpList_append_own _ rfl _ _ 29 rfl W.heap.size 22 i1 (.slice none 0 0) 1 24 Try.underlying29 hi1 hy0 hy1 hy2 rfl (by decide) _ _ _ rfl hownr ⟨g3, 0, none⟩ xs.length c3 vs3 rfl (by rw [HLEN.out, Nat.mul_one]) HL3.out.cells HL3.out.ones (by unfold maxLen; omega) (by omega) (by omega) ?_)
        intro v7 w7 hown7 hgrow7 hnil7
        have hv7 : v7 ≠ .slice none 0 0 := fun e => HV.out (hnil7.1 e).1
        have hL7 := hide (HLR.out.app HL3.out hown7 hgrow7)
        have hB7 : Hid (Below W.heap.size W w7) := hide ((HB.out.trans ((Below.trans' HB2.out HB3.out).mono hsz)).grown hgrow7 (by omega) (fun j hj => (hownr.lt j hj).1))
        have HV7 := hide hv7
        clear hown7 hgrow7 hnil7 hv7 hownr
        go_wp2_with fail
        go_roundg g2
        case rel => exact ⟨j + 1, x + 1, vs ++ vs3, v7, by omega, by have := HX.out; omega, rfl, by go_num, by rw [hstep.out]; exact hL7.out, HV7.out, hB7.out⟩
        case measure => omega
end Go.Proofs.Ytbfpbkbhikogiab
