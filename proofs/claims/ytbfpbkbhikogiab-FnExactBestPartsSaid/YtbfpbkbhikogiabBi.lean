/-
  Ends of dots and boxes: lists of parts, the program's text.
-/
import Derived.Test.YtbfpbkbhikogiabBl
namespace Go.Proofs.Ytbfpbkbhikogiab
open Go.RowKit
set_option linter.unusedVariables false

/-- A list of rows of one's own, nil or not. -/
def NewP (xss : List (List Int)) (w : World) (e : Ending) (w' : World) : Prop :=
  ∃ v vs, e = .returned v ∧ ListO w.heap.size w.heap.size w' v vs xss ∧ Below w.heap.size w w'
/-- Its slots lie in a block that another list does not turn. -/
theorem far_keep {A : Nat} {w w7 : World} {u : Value} {vs2 : List Value} {xss : List (List Int)} (h : ListO A A w u vs2 xss) {row : Option Nat} (hg : w.grownBy w7 row) (hne : ∀ k, row = some k → u.ownBlock ≠ some k ∧ ∀ cs, w.heap[k]? ≠ some (.cells cs 2 (0, 0))) : ListO A A w7 u vs2 xss := by
  have hk : ∀ (k : Nat) (cs : Array Value), w.heap[k]? = some (.cells cs 2 (0, 0)) → w7.heap[k]? = some (.cells cs 2 (0, 0)) := fun k cs hc => (hg.block k (block_lt hc) (fun e => (hne k e.symm).2 cs hc)).trans hc
  refine ⟨h.len, ⟨h.own.1, ?_⟩, fun i u zs hi hz => rowI_by (h.rows i u zs hi hz) hk⟩
  rcases h.own.2 with h2 | ⟨g, cap, cur, hv, hgA, hh, r⟩
  · exact .inl h2
  · refine .inr ⟨g, cap, cur, hv, hgA, (hg.block g (block_lt hh) (fun e => (hne g e.symm).1 (by rw [hv]; rfl))).trans hh, r⟩
theorem list_block {A : Nat} {w : World} {v : Value} {n : Nat} {vs : List Value} (h : w.ownsRow A 22 1 v n vs) : ∀ k, v.ownBlock = some k → ∀ cs, w.heap[k]? ≠ some (.cells cs 2 (0, 0)) := fun k hk cs hc => row_not_box' h hc nums_not_rows hk

theorem own_news {A n g c : Nat} {w : World} {e : TypeId} {vs : List Value} (h : w.ownsRow A e 1 (.slice (some ⟨g, 0, none⟩) n c) n vs) : ∀ (j : Nat) (u : Value), vs[j]? = some u → w.cell? ((⟨g, 0, none⟩ : Addr).add j) = some u := by
  intro j u hu
  have hj := (List.getElem?_eq_some_iff.1 hu).1
  have hl := h.1
  have h2 := h.cellAt j (by omega)
  rw [hu] at h2
  rw [← h2]
  congr 1
  simp only [Addr.add]
  split
  · rename_i e; subst e; rfl
  · simp
theorem own_at {A n c : Nat} {w : World} {e : TypeId} {a : Option Addr} {vs : List Value} (h : w.ownsRow A e 1 (.slice a n c) n vs) (h0 : 0 < n) : ∃ g, a = some ⟨g, 0, none⟩ := by
  rcases h.2 with ⟨_, h1⟩ | ⟨g, cap, cur, hv, _⟩
  · omega
  · simp only [Value.slice.injEq] at hv
    exact ⟨g, hv.1⟩

set_option maxRecDepth 100000 in
set_option maxHeartbeats 8000000 in
theorem parts_any : ∀ (k low n : Nat) (K : Int) (W : World), K = ((k + 1 : Nat) : Int) → k + 1 ≤ 6 → n ≤ 20 → 1 ≤ low → low ≤ n →
    Calls Try.prog 17 #[.int .i64 n, .int .i64 K, .int .i64 low] W (NewP (pt (k + 1) low n) W)
  | 0, low, n, K, W, hK, _, hn, hlo, hln => by
    obtain rfl : K = 1 := by omega
    have hs : Hid (pt (0 + 1) low n = [[(n : Int)]]) := hide rfl
    have ha := below_alloc W (.cells #[.int .i64 n] 2)
    have ha2 := below_alloc (W.alloc (.cells #[.int .i64 n] 2)) (.cells #[.slice (some ⟨W.heap.size, 0, none⟩) 1 1] 22)
    have hrow : (W.alloc (.cells #[.int .i64 n] 2)).ownsRow W.heap.size 2 1 (.slice (some ⟨W.heap.size, 0, none⟩) 1 1) 1 [.int .i64 n] := ⟨rfl, .inr ⟨W.heap.size, 1, #[.int .i64 n], rfl, Nat.le_refl _, heap_alloc_new W _, Nat.le_refl _, by decide, rfl, rfl⟩⟩
    have hfin : Hid (NewP [[(n : Int)]] W (.returned (.slice (some ⟨W.heap.size + 1, 0, none⟩) 1 1)) ((W.alloc (.cells #[.int .i64 n] 2)).alloc (.cells #[.slice (some ⟨W.heap.size, 0, none⟩) 1 1] 22))) := hide
      ⟨_, [.slice (some ⟨W.heap.size, 0, none⟩) 1 1], rfl, ListO.one (zs := [(n : Int)]) (by have := heap_alloc_new (W.alloc (.cells #[.int .i64 n] 2)) (.cells #[.slice (some ⟨W.heap.size, 0, none⟩) 1 1] 22 (0, 0)); simpa using this) (by omega) (ownsRow_keep hrow ha2), Below.trans' ha ha2⟩
    rw [hs.out]
    clear ha ha2 hrow hK
    go_enter Try.func17, Try.ntmps17
    go_wp2_with fail
    go_ret
    exact hfin.out
  | k + 1, low, n, K, W, hK, hk, hn, hlo, hln => by
    obtain ⟨i0, hi0, hz0, hz1, hz2⟩ := info_parts Try.info2
    obtain ⟨i1, hi1, hy0, hy1, hy2⟩ := info_parts Try.info22
    have hrec : ∀ (x : Nat) (K2 N2 : Int) (W2 : World), K2 = ((k + 1 : Nat) : Int) → N2 = ((n - x : Nat) : Int) → 1 ≤ x → x ≤ n - x → Calls Try.prog 17 #[.int .i64 N2, .int .i64 K2, .int .i64 x] W2 (NewP (pt (k + 1) x (n - x)) W2) := fun x K2 N2 W2 h1 h2 h3 h4 => by
      subst h2
      exact parts_any k x (n - x) K2 W2 h1 (by omega) (by omega) h3 h4
    obtain ⟨q, hq⟩ : ∃ q, q = n / (k + 1 + 1) := ⟨_, rfl⟩
    have hqm : ∀ x, x ≤ q ↔ x * (k + 1 + 1) ≤ n := fun x => by rw [hq]; exact Nat.le_div_iff_mul_le (by omega)
    obtain ⟨cnt, hcnt⟩ : ∃ cnt, cnt = q + 1 - low := ⟨_, rfl⟩
    have hq20 : q ≤ 20 := by rw [hq]; exact Nat.le_trans (Nat.div_le_self _ _) hn
    have hsp : Hid (pt (k + 1 + 1) low n = ptJ k low n cnt) := hide (by rw [hcnt, hq]; rfl)
    have HREC := hide hrec
    have HQM := hide hqm
    have HK := hide hK
    have hK1 : 2 ≤ K := by omega
    have hK6 : K ≤ 6 := by omega
    have hKz : (K == 1) = false := by rw [beq_eq_false_iff_ne]; omega
    rw [hsp.out]
    clear hrec hqm hK hq
    go_enter Try.func17, Try.ntmps17
    go_wp2_with fail
    go_loopg [7, 8] cnt (fun gm s7 s8 wr => ∃ (j x : Nat) (vs : List Value) (v : Value), j + gm = cnt ∧ x = low + j ∧ v = s7 ∧ s8 = .int .i64 x ∧ ListO W.heap.size W.heap.size wr v vs (ptJ k low n j) ∧ Below W.heap.size W wr)
    case atStart => exact ⟨0, low, [], _, by omega, rfl, rfl, rfl, ListO.nil _ _ _, Below.refl _ _⟩
    case round =>
      obtain ⟨j, x, vs, v, hj, hx, rfl, rfl, hL, hBl⟩ := hrel
      have hx21 : x ≤ 21 := by omega
      have hprod : ((x : Int) * K) = ((x * (k + 1 + 1) : Nat) : Int) := by rw [HK.out]; simp
      have hp0 : 0 ≤ (x : Int) * K := by rw [hprod]; omega
      have hp1 : (x : Int) * K ≤ 200 := by
        rw [hprod]
        have h1 : x * (k + 1 + 1) ≤ 21 * (k + 1 + 1) := Nat.mul_le_mul_right _ hx21
        omega
      have hwm : wrap64 ((x : Int) * K) = (x : Int) * K := by
        obtain ⟨y, hy⟩ : ∃ y, y = (x : Int) * K := ⟨_, rfl⟩
        rw [← hy] at hp0 hp1 ⊢
        unfold wrap64
        omega
      have HL := hide hL
      have HB := hide hBl
      cases gk with
      | zero =>
        have hno : ¬ ((x : Int) * K ≤ (n : Int)) := by
          have h1 := HQM.out x
          have h2 : ¬ x ≤ q := by omega
          rw [h1] at h2
          rw [hprod]
          omega
        have hdec : (wrap64 ((x : Int) * K) ≤ (n : Int)) = False := by rw [hwm]; exact eq_false hno
        have HX := hide hx
        obtain rfl : j = cnt := by omega
        obtain ⟨av, cv, rfl⟩ := own_form hL.own
        have hfin : Hid (NewP (ptJ k low n j) W (.returned (.slice av (ptJ k low n j).length cv)) wr) := hide ⟨_, vs, rfl, hL, hBl⟩
        clear hL hBl hprod hx hwm hno hp0 hp1
        go_wp2_with fail
        refine bodyPost_ret (v := .slice av (ptJ k low n j).length cv) (by simp [results, Try.results17, go_sem]) rfl hfin.out
      | succ g2 =>
        have hxq : x ≤ q := by omega
        have hyes : (x : Int) * K ≤ (n : Int) := by
          have h1 := (HQM.out x).1 hxq
          rw [hprod]
          omega
        have hxn : x ≤ n - x := by
          have h1 := (HQM.out x).1 hxq
          have h2 : x * 2 ≤ x * (k + 1 + 1) := Nat.mul_le_mul_left _ (by omega)
          omega
        have hx1 : 1 ≤ x := by omega
        have hsz : W.heap.size ≤ wr.heap.size := hBl.size
        have hdec : (wrap64 ((x : Int) * K) ≤ (n : Int)) = True := by rw [hwm]; exact eq_true hyes
        have HX := hide hx
        have hlen : Hid ((pt (k + 1) x (n - x)).length ≤ 85766121) := hide (Nat.le_trans (pt_le (k + 1) x (n - x) (by omega)) (pow_bd (by omega)))
        have hjl : Hid ((ptJ k low n j).length ≤ 85766121) := hide (ptJ_le (by omega) hn (by omega))
        have hrows : Hid (∀ xs ∈ pt (k + 1) x (n - x), xs.length = k + 1) := hide (pt_rows _ _ _)
        have hstep : Hid (ptJ k low n (j + 1) = ptJ k low n j ++ (pt (k + 1) x (n - x)).map fun ys => (x : Int) :: ys) := hide (by rw [HX.out]; exact ptJ_step k low n j)
        have hcall : Hid (∀ K2 N2 : Int, K2 = ((k + 1 : Nat) : Int) → N2 = ((n - x : Nat) : Int) → Calls Try.prog 17 #[.int .i64 N2, .int .i64 K2, .int .i64 x] wr (NewP (pt (k + 1) x (n - x)) wr)) := hide (fun K2 N2 h1 h2 => HREC.out x K2 N2 wr h1 h2 hx1 hxn)
        obtain ⟨qs, hqs⟩ : ∃ qs, qs = pt (k + 1) x (n - x) := ⟨_, rfl⟩
        obtain ⟨acc, hacc⟩ : ∃ acc, acc = ptJ k low n j := ⟨_, rfl⟩
        rw [← hqs] at hlen hrows hstep hcall
        rw [← hacc] at hjl hstep HL
        clear hL hBl hprod hx hwm hyes hp0 hp1 hqs hacc
        go_wp2_with fail
        refine (hcall.out _ _ (by have := HK.out; omega) (by omega)).mono ?_
        rintro e w1 ⟨v1, vs1, rfl, hL1, hb1⟩
        obtain ⟨a1, c1, rfl⟩ := own_form hL1.own
        have hLw := hide (HL.out.keep hb1)
        have HL1 := hide hL1
        have HB1 := hide hb1
        have hs1 : wr.heap.size ≤ w1.heap.size := hb1.size
        have hl1 := hlen.out
        have hj1 := hjl.out
        obtain ⟨ql, hql⟩ : ∃ ql, ql = qs.length := ⟨_, rfl⟩
        rw [← hql] at hl1 ⊢
        have HQL := hide hql
        clear hL1 hb1 hql
        obtain ⟨wo, rfl⟩ : ∃ wo : World, wo = wr := ⟨_, rfl⟩
        go_wp2_with fail
        go_loopg [7, 32] ql (fun gm s7 s32 wi => ∃ (i : Nat) (vs2 : List Value) (v2 : Value), i + gm = ql ∧ v2 = s7 ∧ s32 = .int .i64 i ∧ ListO W.heap.size W.heap.size wi v2 vs2 (acc ++ (qs.take i).map fun ys => (x : Int) :: ys) ∧ ListO wo.heap.size wo.heap.size wi (.slice a1 qs.length c1) vs1 qs ∧ (∀ g, v2.ownBlock = some g → (Value.slice a1 qs.length c1).ownBlock ≠ some g) ∧ Below W.heap.size W wi)
        case atStart => exact ⟨0, vs, _, by omega, rfl, rfl, by simpa using hLw.out, by rw [← HQL.out]; rw [HQL.out]; exact HL1.out, fun g h1 h2 => by
          have e1 := (HL.out.own.lt g h1).2
          have e2 := (HL1.out.own.lt g h2).1
          omega, HB.out.trans (HB1.out.mono hsz)⟩
        case round =>
          clear hLw
          obtain ⟨i, vs2, v2, hi, rfl, rfl, hL2, hQ, hfar, hBi⟩ := hrel
          cases gk with
          | zero =>
            obtain rfl : i = ql := by omega
            have hfull : Hid (ListO W.heap.size W.heap.size wr v2 vs2 (ptJ k low n (j + 1))) := hide (by rw [hstep.out]; rw [HQL.out, List.take_length] at hL2; exact hL2)
            have HBi := hide hBi
            clear hL2 hQ hfar hBi
            go_wp2_with fail
            go_roundg g2
            case rel => exact ⟨j + 1, x + 1, vs2, v2, by omega, by have := HX.out; omega, rfl, by go_num, hfull.out, HBi.out⟩
            case measure => omega
          | succ g3 =>
            have hiq : i < ql := by omega
            obtain ⟨a, c, zs, hv, hz, ho⟩ := hQ.row (i := i) (by rw [← HQL.out]; exact hiq)
            obtain ⟨g1, e1, _, hcell⟩ := hQ.slot hv
            subst e1
            have hzl : zs.length = k + 1 := hrows.out zs (List.mem_of_getElem? hz)
            obtain ⟨h, rfl⟩ := own_at ho (by omega)
            have HZ := hide hz
            have HO := hide ho
            have HL2 := hide hL2
            have HQ := hide hQ
            have HFAR := hide hfar
            have HBi := hide hBi
            have hszi : W.heap.size ≤ wr.heap.size := hBi.size
            have hmem := hide (below_alloc wr (.cells #[.int .i64 x] 2))
            have hown : (wr.alloc (.cells #[.int .i64 x] 2)).ownsRow wr.heap.size 2 1 (.slice (some ⟨wr.heap.size, 0, none⟩) 1 1) 1 [.int .i64 x] := ⟨rfl, .inr ⟨wr.heap.size, 1, #[.int .i64 x], rfl, Nat.le_refl _, heap_alloc_new wr _, Nat.le_refl _, by decide, rfl, rfl⟩⟩
            have hnews := hide (own_news (ownsRow_keep HO.out hmem.out))
            obtain ⟨zl, hzl'⟩ : ∃ zl, zl = zs.length := ⟨_, rfl⟩
            have HZL := hide hzl'
            have hzk : zl ≤ 6 := by omega
            rw [← hzl'] at hcell hv
            clear hzl hL2 hQ hfar hBi ho hz hv hzl'
            go_wp2_with (at_builtin; refine wpList_append_own _ rfl _ _ 22 rfl wr.heap.size 2 i0 (.int .i64 0) 1 8 Try.underlying22 hi0 hz0 hz1 hz2 rfl (by decide) _ _ _ rfl hown ⟨h, 0, none⟩ zl c (zs.map intV) rfl (by rw [List.length_map, HZL.out, Nat.mul_one]) hnews.out (by simp [intV, Value.oneCell']) (by unfold maxLen; omega) (by omega) (by simp) ?_)
            intro v3 w3 hown3 hgrow3 hnil3
            obtain ⟨a3, c3, rfl⟩ := own_form hown3
            have hb3 : Below wr.heap.size wr w3 := hmem.out.grown hgrow3 (by simp) (fun j hj => (hown.lt j hj).1)
            have hs3 : wr.heap.size ≤ w3.heap.size := hb3.size
            have hrow3 := hide (ownsRow_base hown3 hszi)
            have hL3 := hide (HL2.out.keep hb3)
            have hQ3 := hide (HQ.out.keep hb3)
            have hB3 := hide (HBi.out.trans (hb3.mono hszi))
            have hownl := hL3.out.own
            have hql2 : Hid ((acc ++ (qs.take i).map fun ys => (x : Int) :: ys).length ≤ 171532242) := hide (by
              have h1 := hjl.out
              have h2 := hlen.out
              simp only [List.length_append, List.length_map, List.length_take]
              omega)
            obtain ⟨now, hnow⟩ : ∃ now, now = acc ++ (qs.take i).map fun ys => (x : Int) :: ys := ⟨_, rfl⟩
            have hnx : Hid (acc ++ (qs.take (i + 1)).map (fun ys => (x : Int) :: ys) = now ++ [(x : Int) :: zs]) := hide (by
              rw [hnow, List.take_add_one, HZ.out]
              simp)
            rw [← hnow] at hL3 hownl hql2
            have hnl := hql2.out
            clear hown3 hgrow3 hnil3 hb3 hnews hmem hown hnow
            go_wp2_with (at_builtin; refine wpList_append_own_at _ rfl _ _ 29 rfl W.heap.size 22 i1 (.slice none 0 0) 1 24 Try.underlying29 hi1 hy0 hy1 hy2 rfl (by decide) _ _ _ rfl (hownl.alloc _) ⟨w3.heap.size, 0, none⟩ 1 1 [.slice a3 (1 + zl) c3] rfl rfl (cell_one_new _ _ _) (by simp [Value.oneCell']) (by unfold maxLen; omega) (by omega) (by simp; omega) ?_)
            intro v7 w7 hown7 hgrow7 _ hat7
            have ha7 := below_alloc w3 (.cells #[.slice a3 (1 + zl) c3] 22)
            have hL7 : ListO W.heap.size W.heap.size w7 v7 (vs2 ++ [.slice a3 (1 + zl) c3]) (now ++ [(x : Int) :: zs]) := hL3.out.snoc (by have := hrow3.out; rw [HZL.out, Nat.add_comm] at this ⊢; simpa [intV] using this) (by simpa using hown7) hgrow7
            have hQ7 : ListO wo.heap.size wo.heap.size w7 (.slice (some ⟨g1, 0, none⟩) qs.length c1) vs1 qs := far_keep (hQ3.out.keep ha7) hgrow7 (fun g hg => ⟨HFAR.out g hg, list_block (ownsRow_keep hL3.out.own ha7) g hg⟩)
            have hfar7 : Hid (∀ g, v7.ownBlock = some g → (Value.slice (some ⟨g1, 0, none⟩) qs.length c1).ownBlock ≠ some g) := hide (fun g hg e => by
              rcases hat7 with h1 | h1
              · rw [h1] at hg; exact HFAR.out g hg e
              · rw [h1] at hg
                have h2 := (hQ3.out.own.lt g e).2
                simp at hg
                omega)
            have hB7 : Hid (Below W.heap.size W w7) := hide (((hB3.out.alloc (by omega) _)).grown hgrow7 (by simp; omega) (fun j hj => (hownl.lt j hj).1))
            have HL7 := hide hL7
            have HQ7 := hide hQ7
            clear hown7 hgrow7 hat7 ha7 hL7 hQ7 hownl hcell
            go_wp2_with fail
            go_roundg g3
            case rel => exact ⟨i + 1, _, v7, by omega, rfl, by go_num, by rw [hnx.out]; exact HL7.out, HQ7.out, hfar7.out, hB7.out⟩
            case measure => omega
end Go.Proofs.Ytbfpbkbhikogiab
