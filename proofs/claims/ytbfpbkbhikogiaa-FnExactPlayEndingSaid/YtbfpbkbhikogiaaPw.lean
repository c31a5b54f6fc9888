/-
  Ends of dots and boxes: PlayEnding, the program's text.
-/
import Derived.Test.YtbfpbkbhikogiaaPy
namespace Go.Proofs.Ytbfpbkbhikogiaa
open Go.RowKit Go.Maps
set_option linter.unusedVariables false

/-- Rows of numbers, and rows of such rows, are as they were. -/
def KeepsN (w w' : World) : Prop := ∀ (k : Nat) (cs : Array Value) (t : TypeId), (t = 2 ∨ t = 24) → w.heap[k]? = some (.cells cs t (0, 0)) → w'.heap[k]? = some (.cells cs t (0, 0))
theorem OwnR.by {B : Nat} {w w' : World} {v : Value} {gs : List Nat} {xss : List (List Int)} (h : OwnR B w v gs xss) (hk : KeepsN w w') : OwnR B w' v gs xss := by
  refine ⟨h.len, ⟨h.own.1, ?_⟩, fun i g zs hi hz => ⟨(h.rows i g zs hi hz).1, hk _ _ _ (.inl rfl) (h.rows i g zs hi hz).2⟩, h.nod⟩
  rcases h.own.2 with h2 | ⟨g, cap, cur, hv, hg, hh, r⟩
  · exact .inl h2
  · exact .inr ⟨g, cap, cur, hv, hg, hk _ _ _ (.inr rfl) hh, r⟩
theorem keepsN_below {w w' : World} (h : Below w.heap.size w w') : KeepsN w w' := fun k cs t _ hc => box_keep hc h
theorem keepsN_but {w w' : World} {m : Nat} (h : But m w w') (hK : KnowsT m w) : KeepsN w w' := fun k cs t _ hc => h.row hc (knows_row hK hc)
theorem keepsN_setRow {w : World} {b : Nat} {l : List Nat} (h : TallyIn w b l) (cs : Array Value) : KeepsN w (w.setRow b cs) := fun k c t ht hc => by
  have hne : k ≠ b := by
    rintro rfl
    have h2 : w.heap[k]? = some (.cells (tc l) 69 (0, 0)) := h
    rw [hc] at h2
    simp at h2
    rcases ht with rfl | rfl
    · exact absurd h2.2 (by decide)
    · exact absurd h2.2 (by decide)
  exact (setRow_other w b k cs hne).trans hc
theorem own_not_map {w : World} {base n m : Nat} {e : TypeId} {size : Nat} {v : Value} {xs : List Value} (h : w.ownsRow base e size v n xs) (hK : KnowsT m w) : v.ownBlock ≠ some m := by
  rcases h.2 with ⟨rfl, _⟩ | ⟨g, cap, cur, rfl, _, hg, _⟩
  · simp [Value.ownBlock]
  · simp only [Value.ownBlock, ne_eq, Option.some.injEq]
    exact knows_row hK hg
theorem newRows_nil (cd : Int) (w w' : World) (h : Below w.heap.size w w') : NewRows [] cd w (.returned (.tuple #[.slice none 0 0, .int .i64 cd])) w' := ⟨none, 0, [], rfl, OwnR.nil _ _, h⟩

set_option maxRecDepth 100000 in
set_option maxHeartbeats 8000000 in
theorem implPlay_any (a : Option Addr) (c : Nat) (cs : List Int) (a' : Option Addr) (c' : Nat) (ls : List Int) (W : World) (ha : IntsAt W a cs) (ha' : IntsAt W a' ls) (hl : cs.length ≤ 1048576) (hl' : ls.length ≤ 1048576) :
    Calls Try.prog 46 #[.agg #[.slice a cs.length c, .slice a' ls.length c']] W (NewRows (playR cs ls).1 (playR cs ls).2 W) := by
  obtain ⟨W0, hW0⟩ : ∃ W0, W0 = W.alloc (.cells #[.slice a cs.length c, .slice a' ls.length c'] 26) := ⟨_, rfl⟩
  have hB0 : Hid (Below W.heap.size W W0) := by rw [hW0]; exact hide (below_alloc _ _)
  have hX0 : Hid (EndIn W0 W.heap.size a cs.length c a' ls.length c') := by rw [hW0]; exact hide (endIn_new _ _ _ _ _ _ _ _)
  have hA0 := hide (ha.keep hB0.out)
  have hA0' := hide (ha'.keep hB0.out)
  obtain ⟨c0, c1⟩ := hX0.out
  clear ha ha'
  cases hok : okEn cs ls
  · have HR : Hid (playR cs ls = ([], 1)) := hide (by unfold playR; rw [hok]; rfl)
    have HK := hide hok
    clear hok
    rw [HR.out]
    go_enter Try.func46, Try.ntmps46
    go_wp2_with fail
    rw [← hW0]
    clear hW0
    (try go_wp2_with fail)
    refine (implIsE_any _ _ cs _ _ ls _ hA0.out hA0'.out hl hl').mono ?_
    rw [HK.out]
    rintro e w1 ⟨rfl, hb1⟩
    have hB1 := hide (Below.trans' hB0.out hb1)
    clear hb1 c0 c1
    go_wp2_with fail
    refine bodyPost_ret (v := .tuple #[.slice none 0 0, .int .i64 1]) (by simp [results, Try.results46, go_sem]) rfl (newRows_nil _ _ _ hB1.out)
  · obtain ⟨i0, hi0, hz0, hz1, hz2⟩ := info_parts Try.info24
    obtain ⟨L0, hL0⟩ : ∃ L0, L0 = cntL cs ls := ⟨_, rfl⟩
    have hOT0 := okT_cnt hok
    rw [← hL0] at hOT0
    have HR : Hid (playR cs ls = (plays L0, 0)) := hide (by unfold playR; rw [hok, hL0]; rfl)
    have hpl8 : (plays L0).length ≤ 8 := (plays_small hOT0).2
    have HK := hide hok
    have HL0 := hide hL0
    have HPS := hide (Play.start hOT0)
    obtain ⟨n, hn⟩ : ∃ n, n = L0.sum := ⟨_, rfl⟩
    rw [← hn] at HPS
    have HN8 : Hid (n ≤ 8) := hide (by rw [hn]; exact hOT0.2)
    have HN := hide hn
    have hszz : ∀ (l : List Nat), okT l → ((Try.prog).info? 69).map (·.size) = some (tc l).size := fun l h => by rw [tc_size, h.1]; exact tInfo
    have hzzz : ∀ (l : List Nat), okT l → Array.size (α := Value) #[.int .u8 0, .int .u8 0, .int .u8 0, .int .u8 0, .int .u8 0, .int .u8 0, .int .u8 0, .int .u8 0, .int .u8 0, .int .u8 0, .int .u8 0, .int .u8 0, .int .u8 0, .int .u8 0, .int .u8 0, .int .u8 0, .int .u8 0, .int .u8 0, .int .u8 0, .int .u8 0, .int .u8 0, .int .u8 0, .int .u8 0, .int .u8 0, .int .u8 0, .int .u8 0, .int .u8 0, .int .u8 0, .int .u8 0, .int .u8 0, .int .u8 0, .int .u8 0, .int .u8 0, .int .u8 0, .int .u8 0, .int .u8 0, .int .u8 0, .int .u8 0, .int .u8 0, .int .u8 0, .int .u8 0, .int .u8 0, .int .u8 0, .int .u8 0, .int .u8 0, .int .u8 0, .int .u8 0, .int .u8 0, .int .u8 0, .int .u8 0, .int .u8 0, .int .u8 0, .int .u8 0, .int .u8 0, .int .u8 0, .int .u8 0, .int .u8 0, .int .u8 0, .int .u8 0, .int .u8 0, .int .u8 0, .int .u8 0] = (tc l).size := fun l h => by rw [tc_size, h.1]; rfl
    have HSZ := hide hszz
    have HZZ := hide hzzz
    have HOT0 := hide hOT0
    clear hok hL0 hn hszz hzzz hOT0
    rw [HR.out]
    go_enter Try.func46, Try.ntmps46
    go_wp2_with fail
    rw [← hW0]
    clear hW0
    (try go_wp2_with fail)
    refine (implIsE_any _ _ cs _ _ ls _ hA0.out hA0'.out hl hl').mono ?_
    rw [HK.out]
    rintro e w1 ⟨rfl, hb1⟩
    have hB1 := hide (Below.trans' hB0.out hb1)
    have hA1 := hide (hA0.out.keep hb1)
    have hA1' := hide (hA0'.out.keep hb1)
    have hX1 := hide (hX0.out.keep hb1)
    clear hb1 c0 c1
    go_wp2_with fail
    refine (search_new _).mono ?_
    rintro e w2 ⟨m, rfl, hk2, hm2, hb2⟩
    obtain ⟨W3, hW3⟩ : ∃ W3, W3 = w2.alloc (.cells #[.map (some m)] 61) := ⟨_, rfl⟩
    have hb23 : Below w2.heap.size w2 W3 := by rw [hW3]; exact below_alloc _ _
    have hS3 : Hid (W3.heap[w2.heap.size]? = some (.cells #[.map (some m)] 61 (0, 0))) := by rw [hW3]; exact hide (heap_alloc_new w2 _)
    have hK3 := hide (hk2.keep hb23)
    have hB13 := hide (Below.trans' hb2 hb23)
    have hmS : m ≠ w2.heap.size := by have := hk2.lt; omega
    have hs12 : w1.heap.size ≤ w2.heap.size := hb2.size
    obtain ⟨c0, c1⟩ := hX1.out.keep hB13.out
    rw [hW3] at c0 c1
    clear hk2 hb2 hb23
    go_wp2_with fail
    rw [← hW3]
    clear hW3
    (try go_wp2_with fail)
    refine (tallyOf_any _ _ cs _ _ ls _ (hA1.out.keep hB13.out) (hA1'.out.keep hB13.out) HK.out).mono ?_
    rw [← HL0.out]
    rintro e w4 ⟨rfl, hb4⟩
    have hzr : Hid ((w4.alloc (.cells #[.int .u8 0, .int .u8 0, .int .u8 0, .int .u8 0, .int .u8 0, .int .u8 0, .int .u8 0, .int .u8 0, .int .u8 0, .int .u8 0, .int .u8 0, .int .u8 0, .int .u8 0, .int .u8 0, .int .u8 0, .int .u8 0, .int .u8 0, .int .u8 0, .int .u8 0, .int .u8 0, .int .u8 0, .int .u8 0, .int .u8 0, .int .u8 0, .int .u8 0, .int .u8 0, .int .u8 0, .int .u8 0, .int .u8 0, .int .u8 0, .int .u8 0, .int .u8 0, .int .u8 0, .int .u8 0, .int .u8 0, .int .u8 0, .int .u8 0, .int .u8 0, .int .u8 0, .int .u8 0, .int .u8 0, .int .u8 0, .int .u8 0, .int .u8 0, .int .u8 0, .int .u8 0, .int .u8 0, .int .u8 0, .int .u8 0, .int .u8 0, .int .u8 0, .int .u8 0, .int .u8 0, .int .u8 0, .int .u8 0, .int .u8 0, .int .u8 0, .int .u8 0, .int .u8 0, .int .u8 0, .int .u8 0, .int .u8 0] 69)).heap[w4.heap.size]? = some (.cells #[.int .u8 0, .int .u8 0, .int .u8 0, .int .u8 0, .int .u8 0, .int .u8 0, .int .u8 0, .int .u8 0, .int .u8 0, .int .u8 0, .int .u8 0, .int .u8 0, .int .u8 0, .int .u8 0, .int .u8 0, .int .u8 0, .int .u8 0, .int .u8 0, .int .u8 0, .int .u8 0, .int .u8 0, .int .u8 0, .int .u8 0, .int .u8 0, .int .u8 0, .int .u8 0, .int .u8 0, .int .u8 0, .int .u8 0, .int .u8 0, .int .u8 0, .int .u8 0, .int .u8 0, .int .u8 0, .int .u8 0, .int .u8 0, .int .u8 0, .int .u8 0, .int .u8 0, .int .u8 0, .int .u8 0, .int .u8 0, .int .u8 0, .int .u8 0, .int .u8 0, .int .u8 0, .int .u8 0, .int .u8 0, .int .u8 0, .int .u8 0, .int .u8 0, .int .u8 0, .int .u8 0, .int .u8 0, .int .u8 0, .int .u8 0, .int .u8 0, .int .u8 0, .int .u8 0, .int .u8 0, .int .u8 0, .int .u8 0] 69 (0, 0))) := hide (heap_alloc_new w4 _)
    have hb45 : Below w4.heap.size w4 ((w4.alloc (.cells #[.int .u8 0, .int .u8 0, .int .u8 0, .int .u8 0, .int .u8 0, .int .u8 0, .int .u8 0, .int .u8 0, .int .u8 0, .int .u8 0, .int .u8 0, .int .u8 0, .int .u8 0, .int .u8 0, .int .u8 0, .int .u8 0, .int .u8 0, .int .u8 0, .int .u8 0, .int .u8 0, .int .u8 0, .int .u8 0, .int .u8 0, .int .u8 0, .int .u8 0, .int .u8 0, .int .u8 0, .int .u8 0, .int .u8 0, .int .u8 0, .int .u8 0, .int .u8 0, .int .u8 0, .int .u8 0, .int .u8 0, .int .u8 0, .int .u8 0, .int .u8 0, .int .u8 0, .int .u8 0, .int .u8 0, .int .u8 0, .int .u8 0, .int .u8 0, .int .u8 0, .int .u8 0, .int .u8 0, .int .u8 0, .int .u8 0, .int .u8 0, .int .u8 0, .int .u8 0, .int .u8 0, .int .u8 0, .int .u8 0, .int .u8 0, .int .u8 0, .int .u8 0, .int .u8 0, .int .u8 0, .int .u8 0, .int .u8 0] 69)).setRow w4.heap.size (tc L0)) := below_setRow (below_alloc _ _) (Nat.le_refl _) _
    have hT5 : Hid (TallyIn ((w4.alloc (.cells #[.int .u8 0, .int .u8 0, .int .u8 0, .int .u8 0, .int .u8 0, .int .u8 0, .int .u8 0, .int .u8 0, .int .u8 0, .int .u8 0, .int .u8 0, .int .u8 0, .int .u8 0, .int .u8 0, .int .u8 0, .int .u8 0, .int .u8 0, .int .u8 0, .int .u8 0, .int .u8 0, .int .u8 0, .int .u8 0, .int .u8 0, .int .u8 0, .int .u8 0, .int .u8 0, .int .u8 0, .int .u8 0, .int .u8 0, .int .u8 0, .int .u8 0, .int .u8 0, .int .u8 0, .int .u8 0, .int .u8 0, .int .u8 0, .int .u8 0, .int .u8 0, .int .u8 0, .int .u8 0, .int .u8 0, .int .u8 0, .int .u8 0, .int .u8 0, .int .u8 0, .int .u8 0, .int .u8 0, .int .u8 0, .int .u8 0, .int .u8 0, .int .u8 0, .int .u8 0, .int .u8 0, .int .u8 0, .int .u8 0, .int .u8 0, .int .u8 0, .int .u8 0, .int .u8 0, .int .u8 0, .int .u8 0, .int .u8 0] 69)).setRow w4.heap.size (tc L0)) w4.heap.size L0) := hide (setRow_heap _ _ _ _ _ _ hzr.out)
    have hB15 := hide (Below.trans' (Below.trans' hB13.out hb4) hb45)
    have hS5 := hide (box_keep (box_keep hS3.out hb4) hb45)
    have hK5 := hide ((hK3.out.keep hb4).keep hb45)
    have hone0 : Hid ((tc L0).all (·.oneCell') = true) := hide (tc_one L0)
    have hsz0 := hide (HSZ.out L0 HOT0.out)
    have hzz0 := hide (HZZ.out L0 HOT0.out)
    have hs14 : w1.heap.size ≤ w4.heap.size := by have h1 := hB13.out.size; have h2 := hb4.size; omega
    clear hb4 hb45 c0 c1
    go_wp2_with (refine wpList_store_row rfl 69 (.tmp 7) (.tmp 16) rfl w4.heap.size (tc L0) rfl rfl 69 #[.int .u8 0, .int .u8 0, .int .u8 0, .int .u8 0, .int .u8 0, .int .u8 0, .int .u8 0, .int .u8 0, .int .u8 0, .int .u8 0, .int .u8 0, .int .u8 0, .int .u8 0, .int .u8 0, .int .u8 0, .int .u8 0, .int .u8 0, .int .u8 0, .int .u8 0, .int .u8 0, .int .u8 0, .int .u8 0, .int .u8 0, .int .u8 0, .int .u8 0, .int .u8 0, .int .u8 0, .int .u8 0, .int .u8 0, .int .u8 0, .int .u8 0, .int .u8 0, .int .u8 0, .int .u8 0, .int .u8 0, .int .u8 0, .int .u8 0, .int .u8 0, .int .u8 0, .int .u8 0, .int .u8 0, .int .u8 0, .int .u8 0, .int .u8 0, .int .u8 0, .int .u8 0, .int .u8 0, .int .u8 0, .int .u8 0, .int .u8 0, .int .u8 0, .int .u8 0, .int .u8 0, .int .u8 0, .int .u8 0, .int .u8 0, .int .u8 0, .int .u8 0, .int .u8 0, .int .u8 0, .int .u8 0, .int .u8 0] hzr.out hsz0.out hzz0.out hone0.out ?_)
    go_frame
    obtain ⟨S4, hS4⟩ : ∃ S4, S4 = w2.heap.size := ⟨_, rfl⟩
    obtain ⟨B1, hB1e⟩ : ∃ B1, B1 = w1.heap.size := ⟨_, rfl⟩
    obtain ⟨T0, hT0⟩ : ∃ T0, T0 = w4.heap.size := ⟨_, rfl⟩
    obtain ⟨W5, hW5⟩ : ∃ W5, W5 = (w4.alloc (.cells #[.int .u8 0, .int .u8 0, .int .u8 0, .int .u8 0, .int .u8 0, .int .u8 0, .int .u8 0, .int .u8 0, .int .u8 0, .int .u8 0, .int .u8 0, .int .u8 0, .int .u8 0, .int .u8 0, .int .u8 0, .int .u8 0, .int .u8 0, .int .u8 0, .int .u8 0, .int .u8 0, .int .u8 0, .int .u8 0, .int .u8 0, .int .u8 0, .int .u8 0, .int .u8 0, .int .u8 0, .int .u8 0, .int .u8 0, .int .u8 0, .int .u8 0, .int .u8 0, .int .u8 0, .int .u8 0, .int .u8 0, .int .u8 0, .int .u8 0, .int .u8 0, .int .u8 0, .int .u8 0, .int .u8 0, .int .u8 0, .int .u8 0, .int .u8 0, .int .u8 0, .int .u8 0, .int .u8 0, .int .u8 0, .int .u8 0, .int .u8 0, .int .u8 0, .int .u8 0, .int .u8 0, .int .u8 0, .int .u8 0, .int .u8 0, .int .u8 0, .int .u8 0, .int .u8 0, .int .u8 0, .int .u8 0, .int .u8 0] 69)).setRow w4.heap.size (tc L0) := ⟨_, rfl⟩
    rw [← hW5] at hT5 hB15 hS5 hK5 ⊢
    rw [← hS4] at hS5 hmS ⊢
    rw [← hT0] at hT5 ⊢
    rw [← hB1e] at hB15
    have HB1E := hide hB1e
    have hm1 : B1 ≤ m := by rw [hB1e]; exact hm2
    have hS41 : B1 ≤ S4 := by omega
    have hT01 : B1 ≤ T0 := by omega
    have hB15l : B1 ≤ W5.heap.size := by have h1 := hB15.out.size; omega
    clear hW5 hS4 hT0 hB1e hzr hsz0 hzz0 hone0 hS3 hK3 hB13 hm2 hs12 hs14
    go_loopg [5, 6, 7] n (fun g s5 s6 s7 wr => ∃ (L : List Nat) (op : Int) (xss : List (List Int)) (gs : List Nat) (v : Value) (Tb : Nat), s5 = .int .i64 op ∧ s6 = v ∧ s7 = .pointer (some ⟨Tb, 0, none⟩) ∧ B1 ≤ Tb ∧ Hid (Play L0 g L op xss) ∧ OwnR B1 wr v gs xss ∧ TallyIn wr Tb L ∧ KnowsT m wr ∧ wr.heap[S4]? = some (.cells #[.map (some m)] 61 (0, 0)) ∧ Below B1 w1 wr)
    case atStart => exact ⟨L0, 0, [], [], _, T0, rfl, rfl, rfl, hT01, HPS.out, OwnR.nil _ _, hT5.out, hK5.out, hS5.out, hB15.out⟩
    case round =>
      clear HPS hT5 hK5 hS5 hB15
      obtain ⟨L, op, xss, gs, v, Tb, rfl, rfl, rfl, hTb, hP, hO, hT, hK, hS, hB⟩ := hrel
      have hOL := hP.out.ok
      have hsz := hide (HSZ.out L hOL)
      have HT := hide hT
      have HKR := hide hK
      have HS := hide hS
      have HO := hide hO
      have HBR := hide hB
      have HOL := hide hOL
      have hxl8 : xss.length ≤ 8 := by have h1 := hP.out.len; have := HN.out; have := HN8.out; omega
      cases gk with
      | zero =>
        have hd0 : Hid (decide (L.sum = 0) = true) := hide (by rw [hP.out.sum]; rfl)
        have hxs : xss = plays L0 := by have := hP.out.all; simpa [playT] using this
        obtain ⟨av, cv, rfl⟩ := hO.form
        rw [hxs] at HO ⊢
        clear hOL hT hK hS hO hB hP hxs
        go_wp2_with (refine wpList_load_row rfl 69 (.tmp 7) rfl Tb rfl 69 (tc L) (0, 0) _ HT.out tUnder rfl hsz.out ?_)
        refine (isOver_any L HOL.out _).mono ?_
        rw [hd0.out]
        rintro e w6 ⟨rfl, hb6⟩
        have hfin : Hid (NewRows (plays L0) 0 W (.returned (.tuple #[.slice av (plays L0).length cv, .int .i64 0])) w6) := hide ⟨av, cv, gs, rfl, (HO.out.keep hb6).base (by rw [HB1E.out]; exact hB1.out.size), Below.trans' hB1.out (by have h1 := HBR.out; rw [HB1E.out] at h1; exact Below.trans' h1 hb6)⟩
        clear hb6
        go_wp2_with fail
        refine bodyPost_ret (v := .tuple #[.slice av (plays L0).length cv, .int .i64 0]) (by simp [results, Try.results46, go_sem]) rfl hfin.out
      | succ g2 =>
        have hpos : 0 < L.sum := by rw [hP.out.sum]; omega
        have hd0 : Hid (decide (L.sum = 0) = false) := hide (by simp; omega)
        have hstep := hP.out.step
        have hm := op_mem hOL.1 hpos
        obtain ⟨k1, k2, k3, k4, _⟩ := knd_bd hm.1
        have hdec := hOL.dec _ hm.2
        have hvb := hdec.bd
        have h01 := hP.out.o01
        have hbo : Hid (∀ V : World, KnowsT m V → Calls Try.prog 84 #[.agg #[.map (some m)], .agg (tc L)] V (RetK m (KnowsT m) (.agg #[.int .i64 (knd (opT L)), .int .i64 (bxs (opT L))]) V)) := hide (fun V hk => bestO_any m L hOL hpos V hk (implValue_any m _ L V hOL rfl hk).1)
        have hwo : Hid (∀ V : World, Calls Try.prog 87 #[.agg (tc L), .agg #[.int .i64 (knd (opT L)), .int .i64 (bxs (opT L))]] V (RetB (.agg (tc (decT L (opT L)))) V)) := hide (fun V => by
          have h := takeOne_any L hOL (opT L / 31) (opT L % 31) (by omega) (by omega) (by rw [place_of]; exact hm.2) V
          rw [place_of] at h
          exact h)
        have hba : Hid (∀ V : World, KnowsT m V → Calls Try.prog 53 #[.agg #[.map (some m)], .agg #[.int .i64 (knd (opT L)), .int .i64 (bxs (opT L))], .agg (tc (decT L (opT L)))] V (RetK m (KnowsT m) (.tuple #[.int .i64 (ixA (knd (opT L)) (bxs (opT L)) (vT (decT L (opT L)))), .int .i64 (ansB (knd (opT L)) (bxs (opT L)) (vT (decT L (opT L)))).1]) V)) := hide (fun V hk =>
          bestAns_any m _ _ _ (decT L (opT L)) (by omega) k3 k4 hdec hvb.1 hvb.2 V hk (fun V' hk' => (implValue_any m _ _ V' hdec rfl hk').2))
        have hrow : Hid (rowP L op = [knd (opT L), bxs (opT L), ixA (knd (opT L)) (bxs (opT L)) (vT (decT L (opT L))), op]) := hide rfl
        have hix : Hid ((ixA (knd (opT L)) (bxs (opT L)) (vT (decT L (opT L))) = 1 ∧ nextP L op = op) ∨ (ixA (knd (opT L)) (bxs (opT L)) (vT (decT L (opT L))) = 0 ∧ nextP L op = 1 - op)) := hide (by
          unfold ixA nextP spB
          cases (ansB (knd (opT L)) (bxs (opT L)) (vT (decT L (opT L)))).2
          · exact .inr ⟨rfl, rfl⟩
          · exact .inl ⟨rfl, rfl⟩)
        obtain ⟨kd, hkd⟩ : ∃ kd, kd = knd (opT L) := ⟨_, rfl⟩
        obtain ⟨b, hb⟩ : ∃ b, b = bxs (opT L) := ⟨_, rfl⟩
        obtain ⟨L', hL'⟩ : ∃ L', L' = decT L (opT L) := ⟨_, rfl⟩
        obtain ⟨x, hx⟩ : ∃ x, x = ixA (knd (opT L)) (bxs (opT L)) (vT (decT L (opT L))) := ⟨_, rfl⟩
        obtain ⟨y, hy⟩ : ∃ y, y = (ansB (knd (opT L)) (bxs (opT L)) (vT (decT L (opT L)))).1 := ⟨_, rfl⟩
        obtain ⟨op', hop'⟩ : ∃ op', op' = nextP L op := ⟨_, rfl⟩
        rw [← hx, ← hop'] at hix
        rw [← hx] at hrow
        rw [← hx, ← hy] at hba
        rw [← hkd, ← hb] at hbo hwo hba hrow
        rw [← hL'] at hwo hba hstep hdec
        rw [← hop'] at hstep
        have hsz' := hide (HSZ.out L' hdec)
        have hzz' := hide (HZZ.out L' hdec)
        have hzl : Hid ((tc L).size = (tc L').size) := hide (by rw [tc_size, tc_size, hOL.1, hdec.1])
        have hone' : Hid ((tc L').all (·.oneCell') = true) := hide (tc_one L')
        have HSTEP := hide hstep
        have H01 := hide h01
        have hop0 : -1 ≤ op := by rcases h01 with h | h <;> omega
        have hop1 : op ≤ 2 := by rcases h01 with h | h <;> omega
        clear hOL hT hK hS hO hB hP hpos hstep hm k1 k2 k3 k4 hdec hvb h01 hkd hb hL' hx hy hop'
        go_wp2_with (refine wpList_load_row rfl 69 (.tmp 7) rfl Tb rfl 69 (tc L) (0, 0) _ HT.out tUnder rfl hsz.out ?_)
        refine (isOver_any L HOL.out _).mono ?_
        rw [hd0.out]
        rintro e w6 ⟨rfl, hb6⟩
        have hT6 := hide (HT.out.keep hb6)
        have hK6 := hide (HKR.out.keep hb6)
        have hS6 := hide (box_keep HS.out hb6)
        have hO6 := hide (HO.out.keep hb6)
        have hB6 : Hid (Below B1 w1 w6) := hide (HBR.out.trans (hb6.mono (by have := HBR.out.size; have := HB1E.out; omega)))
        have s0 : w6.cell? ⟨S4, 0, none⟩ = some (.map (some m)) := (cell_of_row _ _ 0 _ _ (0, 0) hS6.out).trans rfl
        clear hb6
        go_wp2_with (refine wpList_load_row rfl 69 (.tmp 7) rfl Tb rfl 69 (tc L) (0, 0) _ hT6.out tUnder rfl hsz.out ?_)
        refine (hbo.out _ hK6.out).mono ?_
        rintro e w7 ⟨rfl, hb7, hk7⟩
        have hTm : Tb ≠ m := knows_row hK6.out hT6.out
        have hSm : S4 ≠ m := fun e => hmS e.symm
        have hT7 := hb7.row hT6.out hTm
        have hS7 := hb7.row hS6.out hSm
        have hO7 := hO6.out.by (keepsN_but hb7 hK6.out)
        have hB7 : Below B1 w1 w7 := ⟨hb7.os.trans hB6.out.os, hb7.tape.trans hB6.out.tape, hb7.output.trans hB6.out.output, Nat.le_trans hB6.out.size hb7.size, fun i hi => (hb7.block i (by have := hB6.out.size; have := HB1E.out; omega) (by omega)).trans (hB6.out.block i hi)⟩
        have hba8 := below_alloc w7 (.cells #[.int .i64 kd, .int .i64 b] 65)
        have hT8 := hide (box_keep hT7 hba8)
        have hS8 := hide (box_keep hS7 hba8)
        have hO8 := hide (hO7.keep hba8)
        have hK8 := hide (hk7.keep hba8)
        have hD8 := hide (heap_alloc_new w7 (.cells #[.int .i64 kd, .int .i64 b] 65 (0, 0)))
        have hB8 := hide (hB7.trans (hba8.mono (by have := hB7.size; have := HB1E.out; omega)))
        obtain ⟨d0, d1, _⟩ := row2' hD8.out
        clear hb7 hk7 hT7 hS7 hO7 hB7 hba8 s0
        go_wp2_with (refine wpList_load_row rfl 69 (.tmp 7) rfl Tb rfl 69 (tc L) (0, 0) _ hT8.out tUnder rfl hsz.out ?_)
        refine (hwo.out _).mono ?_
        rintro e w9 ⟨rfl, hb9⟩
        have hT9 : TallyIn w9 Tb L := box_keep hT8.out hb9
        have HT9 := hide hT9
        have hS9 := box_keep hS8.out hb9
        have hO9 := hO8.out.keep hb9
        have hK9 := hK8.out.keep hb9
        have hD9 := box_keep hD8.out hb9
        have hB9 : Below B1 w1 w9 := hB8.out.trans (hb9.mono (by have := hB8.out.size; have := HB1E.out; omega))
        have hTS : Tb ≠ S4 := by
          rintro rfl
          have h1 : w9.heap[Tb]? = some (.cells (tc L) 69 (0, 0)) := hT9
          rw [hS9] at h1
          simp at h1
        have hTD : Tb ≠ w7.heap.size := by
          rintro rfl
          have h1 : w9.heap[w7.heap.size]? = some (.cells (tc L) 69 (0, 0)) := hT9
          rw [hD9] at h1
          simp at h1
        have hT10 : Hid (TallyIn (w9.setRow Tb (tc L')) Tb L') := hide (setRow_heap _ _ _ _ _ _ hT9)
        have hS10 := hide ((setRow_other w9 Tb S4 (tc L') (fun e => hTS e.symm)).trans hS9)
        have hD10 := hide ((setRow_other w9 Tb w7.heap.size (tc L') (fun e => hTD e.symm)).trans hD9)
        have hO10 := hide (hO9.by (keepsN_setRow hT9 (tc L')))
        have hK10 : Hid (KnowsT m (w9.setRow Tb (tc L'))) := hide (hK9.block (setRow_other w9 Tb m (tc L') (fun e => hTm e.symm)))
        have hB10 := hide (below_setRow hB9 hTb (tc L'))
        have s0 : (w9.setRow Tb (tc L')).cell? ⟨S4, 0, none⟩ = some (.map (some m)) := (cell_of_row _ _ 0 _ _ (0, 0) hS10.out).trans rfl
        clear d0 d1
        obtain ⟨d0, d1, _⟩ := row2' hD10.out
        clear hT9 hS9 hO9 hK9 hD9 hB9 hb9
        go_wp2_with (first | (refine wpList_store_row rfl 69 (.tmp 7) (.tmp 25) rfl Tb (tc L') rfl rfl 69 (tc L) HT9.out hsz'.out hzl.out hone'.out ?_) | (refine wpList_load_row rfl 69 (.tmp 7) rfl Tb rfl 69 (tc L') (0, 0) _ hT10.out tUnder rfl hsz'.out ?_))
        refine (hba.out _ hK10.out).mono ?_
        rintro e w11 ⟨rfl, hb11, hk11⟩
        have hT11 := hide (hb11.row hT10.out hTm)
        have hS11 := hide (hb11.row hS10.out hSm)
        have hO11 := hide (hO10.out.by (keepsN_but hb11 hK10.out))
        have hB11 : Below B1 w1 w11 := ⟨hb11.os.trans hB10.out.os, hb11.tape.trans hB10.out.tape, hb11.output.trans hB10.out.output, Nat.le_trans hB10.out.size hb11.size, fun i hi => (hb11.block i (by have := hB10.out.size; have := HB1E.out; omega) (by omega)).trans (hB10.out.block i hi)⟩
        have HK11 := hide hk11
        have hD11 := hb11.row hD10.out (knows_row hK10.out hD10.out)
        clear d0 d1 s0
        obtain ⟨d0, d1, _⟩ := row2' hD11
        have hba1 := below_alloc w11 (.cells #[.int .i64 kd, .int .i64 b, .int .i64 x, .int .i64 op] 2)
        have hRow := hide (heap_alloc_new w11 (.cells #[.int .i64 kd, .int .i64 b, .int .i64 x, .int .i64 op] 2 (0, 0)))
        have hO12 := hide (hO11.out.keep hba1)
        have hT12 := hide (box_keep hT11.out hba1)
        have hS12 := hide (box_keep hS11.out hba1)
        have hK12 := hide (HK11.out.keep hba1)
        have hB12 := hide (hB11.trans (hba1.mono (by have := hB11.size; have := HB1E.out; omega)))
        have hfr := hide hO11.out.fresh
        have hown := hO12.out.own
        have hB1w : B1 ≤ w11.heap.size := by have := hB11.size; have := HB1E.out; omega
        clear hb11 hk11 hD11 hB11 hba1
        go_wp2_with (at_builtin; refine wpList_append_own _ rfl _ _ 53 rfl B1 24 i0 (.slice none 0 0) 1 24 Try.underlying53 hi0 hz0 hz1 hz2 rfl (by decide) _ _ _ rfl (hown.alloc _) ⟨w11.heap.size + 1, 0, none⟩ 1 1 [.slice (some ⟨w11.heap.size, 0, none⟩) 4 4] rfl rfl (World.news_of_block (by have := heap_alloc_new (w11.alloc (.cells #[.int .i64 kd, .int .i64 b, .int .i64 x, .int .i64 op] 2)) (.cells #[.slice (some ⟨w11.heap.size, 0, none⟩) 4 4] 24 (0, 0)); simpa using this)) (by simp [Value.oneCell']) (by unfold maxLen; omega) (by omega) (by simp; omega) ?_)
        intro v' w13 hown' hgrow _
        have hO13 : OwnR B1 w13 v' (gs ++ [w11.heap.size]) (xss ++ [rowP L op]) := by
          rw [hrow.out]
          exact hO12.out.snoc hB1w (fun z hz => by have := hfr.out z hz; omega) hRow.out (by simpa using hown') hgrow
        have hb2 := below_alloc (w11.alloc (.cells #[.int .i64 kd, .int .i64 b, .int .i64 x, .int .i64 op] 2)) (.cells #[.slice (some ⟨w11.heap.size, 0, none⟩) 4 4] 24)
        have hT12' := box_keep hT12.out hb2
        have hS12' := box_keep hS12.out hb2
        have hK12' := hK12.out.keep hb2
        have ho12' := ownsRow_keep hO12.out.own hb2
        have hT13 : TallyIn w13 Tb L' := (hgrow.block Tb (block_lt hT12') (fun e => row_not_box' ho12' hT12' (by decide) e.symm)).trans hT12'
        have hS13 := (hgrow.block S4 (block_lt hS12') (fun e => row_not_box' ho12' hS12' (by decide) e.symm)).trans hS12'
        have hK13 : KnowsT m w13 := hK12'.block (hgrow.block m hK12'.lt (fun e => own_not_map ho12' hK12' e.symm))
        have hB13 : Below B1 w1 w13 := (hB12.out.trans (hb2.mono (by simp; omega))).grown hgrow (by simp; omega) (fun j hj => (hO12.out.own.lt j hj).1)
        have HT13 := hide hT13
        have hb14 := below_setRow (below_alloc w13 (.cells #[.int .u8 0, .int .u8 0, .int .u8 0, .int .u8 0, .int .u8 0, .int .u8 0, .int .u8 0, .int .u8 0, .int .u8 0, .int .u8 0, .int .u8 0, .int .u8 0, .int .u8 0, .int .u8 0, .int .u8 0, .int .u8 0, .int .u8 0, .int .u8 0, .int .u8 0, .int .u8 0, .int .u8 0, .int .u8 0, .int .u8 0, .int .u8 0, .int .u8 0, .int .u8 0, .int .u8 0, .int .u8 0, .int .u8 0, .int .u8 0, .int .u8 0, .int .u8 0, .int .u8 0, .int .u8 0, .int .u8 0, .int .u8 0, .int .u8 0, .int .u8 0, .int .u8 0, .int .u8 0, .int .u8 0, .int .u8 0, .int .u8 0, .int .u8 0, .int .u8 0, .int .u8 0, .int .u8 0, .int .u8 0, .int .u8 0, .int .u8 0, .int .u8 0, .int .u8 0, .int .u8 0, .int .u8 0, .int .u8 0, .int .u8 0, .int .u8 0, .int .u8 0, .int .u8 0, .int .u8 0, .int .u8 0, .int .u8 0] 69)) (Nat.le_refl _) (tc L')
        have hzr : Hid ((w13.alloc (.cells #[.int .u8 0, .int .u8 0, .int .u8 0, .int .u8 0, .int .u8 0, .int .u8 0, .int .u8 0, .int .u8 0, .int .u8 0, .int .u8 0, .int .u8 0, .int .u8 0, .int .u8 0, .int .u8 0, .int .u8 0, .int .u8 0, .int .u8 0, .int .u8 0, .int .u8 0, .int .u8 0, .int .u8 0, .int .u8 0, .int .u8 0, .int .u8 0, .int .u8 0, .int .u8 0, .int .u8 0, .int .u8 0, .int .u8 0, .int .u8 0, .int .u8 0, .int .u8 0, .int .u8 0, .int .u8 0, .int .u8 0, .int .u8 0, .int .u8 0, .int .u8 0, .int .u8 0, .int .u8 0, .int .u8 0, .int .u8 0, .int .u8 0, .int .u8 0, .int .u8 0, .int .u8 0, .int .u8 0, .int .u8 0, .int .u8 0, .int .u8 0, .int .u8 0, .int .u8 0, .int .u8 0, .int .u8 0, .int .u8 0, .int .u8 0, .int .u8 0, .int .u8 0, .int .u8 0, .int .u8 0, .int .u8 0, .int .u8 0] 69)).heap[w13.heap.size]? = some (.cells #[.int .u8 0, .int .u8 0, .int .u8 0, .int .u8 0, .int .u8 0, .int .u8 0, .int .u8 0, .int .u8 0, .int .u8 0, .int .u8 0, .int .u8 0, .int .u8 0, .int .u8 0, .int .u8 0, .int .u8 0, .int .u8 0, .int .u8 0, .int .u8 0, .int .u8 0, .int .u8 0, .int .u8 0, .int .u8 0, .int .u8 0, .int .u8 0, .int .u8 0, .int .u8 0, .int .u8 0, .int .u8 0, .int .u8 0, .int .u8 0, .int .u8 0, .int .u8 0, .int .u8 0, .int .u8 0, .int .u8 0, .int .u8 0, .int .u8 0, .int .u8 0, .int .u8 0, .int .u8 0, .int .u8 0, .int .u8 0, .int .u8 0, .int .u8 0, .int .u8 0, .int .u8 0, .int .u8 0, .int .u8 0, .int .u8 0, .int .u8 0, .int .u8 0, .int .u8 0, .int .u8 0, .int .u8 0, .int .u8 0, .int .u8 0, .int .u8 0, .int .u8 0, .int .u8 0, .int .u8 0, .int .u8 0, .int .u8 0] 69 (0, 0))) := hide (heap_alloc_new w13 _)
        have hT14 : Hid (TallyIn ((w13.alloc (.cells #[.int .u8 0, .int .u8 0, .int .u8 0, .int .u8 0, .int .u8 0, .int .u8 0, .int .u8 0, .int .u8 0, .int .u8 0, .int .u8 0, .int .u8 0, .int .u8 0, .int .u8 0, .int .u8 0, .int .u8 0, .int .u8 0, .int .u8 0, .int .u8 0, .int .u8 0, .int .u8 0, .int .u8 0, .int .u8 0, .int .u8 0, .int .u8 0, .int .u8 0, .int .u8 0, .int .u8 0, .int .u8 0, .int .u8 0, .int .u8 0, .int .u8 0, .int .u8 0, .int .u8 0, .int .u8 0, .int .u8 0, .int .u8 0, .int .u8 0, .int .u8 0, .int .u8 0, .int .u8 0, .int .u8 0, .int .u8 0, .int .u8 0, .int .u8 0, .int .u8 0, .int .u8 0, .int .u8 0, .int .u8 0, .int .u8 0, .int .u8 0, .int .u8 0, .int .u8 0, .int .u8 0, .int .u8 0, .int .u8 0, .int .u8 0, .int .u8 0, .int .u8 0, .int .u8 0, .int .u8 0, .int .u8 0, .int .u8 0] 69)).setRow w13.heap.size (tc L')) w13.heap.size L') := hide (setRow_heap _ _ _ _ _ _ hzr.out)
        have hS14 := hide (box_keep hS13 hb14)
        have hK14 := hide (hK13.keep hb14)
        have hO14 := hide (hO13.keep hb14)
        have hBl13 : B1 ≤ w13.heap.size := by have := hB13.size; have := HB1E.out; omega
        have hB14 := hide (hB13.trans (hb14.mono hBl13))
        clear hown' hgrow hown hO13 hb2 hT12' hS12' hK12' ho12' hT13 hS13 hK13 hB13 hb14 d0 d1
        rcases hix.out with ⟨rfl, hop⟩ | ⟨rfl, hop⟩
        · have HOP := hide hop
          clear hop
          go_wp2_with (first | (refine wpList_load_row rfl 69 (.tmp 7) rfl Tb rfl 69 (tc L') (0, 0) _ HT13.out tUnder rfl hsz'.out ?_) | (refine wpList_store_row rfl 69 (.tmp 7) (.tmp 47) rfl w13.heap.size (tc L') rfl rfl 69 #[.int .u8 0, .int .u8 0, .int .u8 0, .int .u8 0, .int .u8 0, .int .u8 0, .int .u8 0, .int .u8 0, .int .u8 0, .int .u8 0, .int .u8 0, .int .u8 0, .int .u8 0, .int .u8 0, .int .u8 0, .int .u8 0, .int .u8 0, .int .u8 0, .int .u8 0, .int .u8 0, .int .u8 0, .int .u8 0, .int .u8 0, .int .u8 0, .int .u8 0, .int .u8 0, .int .u8 0, .int .u8 0, .int .u8 0, .int .u8 0, .int .u8 0, .int .u8 0, .int .u8 0, .int .u8 0, .int .u8 0, .int .u8 0, .int .u8 0, .int .u8 0, .int .u8 0, .int .u8 0, .int .u8 0, .int .u8 0, .int .u8 0, .int .u8 0, .int .u8 0, .int .u8 0, .int .u8 0, .int .u8 0, .int .u8 0, .int .u8 0, .int .u8 0, .int .u8 0, .int .u8 0, .int .u8 0, .int .u8 0, .int .u8 0, .int .u8 0, .int .u8 0, .int .u8 0, .int .u8 0, .int .u8 0, .int .u8 0] hzr.out hsz'.out hzz'.out hone'.out ?_))
          (try go_frame)
          go_roundg g2
          case rel => exact ⟨L', op', xss ++ [rowP L op], _, v', w13.heap.size, (by rw [HOP.out]), rfl, rfl, hBl13, HSTEP, hO14.out, hT14.out, hK14.out, hS14.out, hB14.out⟩
          case measure => omega
        · have HOP := hide hop
          clear hop
          go_wp2_with (first | (refine wpList_load_row rfl 69 (.tmp 7) rfl Tb rfl 69 (tc L') (0, 0) _ HT13.out tUnder rfl hsz'.out ?_) | (refine wpList_store_row rfl 69 (.tmp 7) (.tmp 47) rfl w13.heap.size (tc L') rfl rfl 69 #[.int .u8 0, .int .u8 0, .int .u8 0, .int .u8 0, .int .u8 0, .int .u8 0, .int .u8 0, .int .u8 0, .int .u8 0, .int .u8 0, .int .u8 0, .int .u8 0, .int .u8 0, .int .u8 0, .int .u8 0, .int .u8 0, .int .u8 0, .int .u8 0, .int .u8 0, .int .u8 0, .int .u8 0, .int .u8 0, .int .u8 0, .int .u8 0, .int .u8 0, .int .u8 0, .int .u8 0, .int .u8 0, .int .u8 0, .int .u8 0, .int .u8 0, .int .u8 0, .int .u8 0, .int .u8 0, .int .u8 0, .int .u8 0, .int .u8 0, .int .u8 0, .int .u8 0, .int .u8 0, .int .u8 0, .int .u8 0, .int .u8 0, .int .u8 0, .int .u8 0, .int .u8 0, .int .u8 0, .int .u8 0, .int .u8 0, .int .u8 0, .int .u8 0, .int .u8 0, .int .u8 0, .int .u8 0, .int .u8 0, .int .u8 0, .int .u8 0, .int .u8 0, .int .u8 0, .int .u8 0, .int .u8 0, .int .u8 0] hzr.out hsz'.out hzz'.out hone'.out ?_))
          (try go_frame)
          go_roundg g2
          case rel => exact ⟨L', op', xss ++ [rowP L op], _, v', w13.heap.size, (by rw [HOP.out]), rfl, rfl, hBl13, HSTEP, hO14.out, hT14.out, hK14.out, hS14.out, hB14.out⟩
          case measure => omega
end Go.Proofs.Ytbfpbkbhikogiaa
