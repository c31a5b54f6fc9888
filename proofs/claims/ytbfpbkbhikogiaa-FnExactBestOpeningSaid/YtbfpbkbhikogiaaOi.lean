/-
  Ends of dots and boxes: BestOpening, the program's text.
-/
import Derived.Test.YtbfpbkbhikogiaaVi
namespace Go.Proofs.Ytbfpbkbhikogiaa
open Go.RowKit Go.Maps
set_option linter.unusedVariables false

/-- A whole tally read, in a region that draws its order. -/
theorem exec_load_tally (ev : Operand → Value) (d : Option Tmp) (x : Operand) (ty : TypeId) (pos : String) (af : Array Edge) (w : World) (h1 : pOk (ev x) = true) (h2 : isT w (pB (ev x)) = true) :
    (execOp ev { dst := d, op := .load 69 x, type := ty, pos := pos, after := af, guard := none }).run Try.prog w = .ok (.value (.agg (rowAt w (pB (ev x))))) w := by
  have hr := run_load_tally w (pB (ev x)) h2
  rw [← pOk_is h1] at hr
  unfold execOp
  simp only [Sem.run_bind, hr, Result.andThen_ok, Sem.run_pure]
attribute [local go_sem ↓] exec_load_tally
attribute [local go_sem] pOk pB

theorem tally_facts {w : World} {b : Nat} {l : List Nat} (h : TallyIn w b l) (hl : l.length = 62) : isT w b = true ∧ rowAt w b = tc l := ⟨h.is hl, h.row⟩

theorem tally_but {n : Nat} {a b : World} {k : Nat} {l : List Nat} (h : TallyIn a k l) (hb : But n a b) (hn : k ≠ n) : TallyIn b k l := hb.row h hn
theorem tally_drew {w : World} {k : Nat} {l : List Nat} (h : TallyIn w k l) : TallyIn w.drew k l := h
theorem tally_set {w : World} {k j o : Nat} {l : List Nat} {u : Value} (h : TallyIn w k l) (hn : k ≠ j) : TallyIn (w.setCell ⟨j, o, none⟩ u) k l := (Below.heap_setCell _ _ _ _ hn).trans h

set_option maxRecDepth 100000 in
set_option maxHeartbeats 4000000 in
theorem implOpen_any (a : Option Addr) (c : Nat) (cs : List Int) (a' : Option Addr) (c' : Nat) (ls : List Int) (W : World) (ha : IntsAt W a cs) (ha' : IntsAt W a' ls) (hl : cs.length ≤ 1048576) (hl' : ls.length ≤ 1048576) :
    Calls Try.prog 42 #[.agg #[.slice a cs.length c, .slice a' ls.length c']] W (RetB (openV (openR cs ls)) W) := by
  obtain ⟨W0, hW0⟩ : ∃ W0, W0 = W.alloc (.cells #[.slice a cs.length c, .slice a' ls.length c'] 26) := ⟨_, rfl⟩
  have hB0 : Hid (Below W.heap.size W W0) := by rw [hW0]; exact hide (below_alloc _ _)
  have hs0 : W0.heap.size = W.heap.size + 1 := by rw [hW0]; simp
  have hX0 : Hid (EndIn W0 W.heap.size a cs.length c a' ls.length c') := by rw [hW0]; exact hide (endIn_new _ _ _ _ _ _ _ _)
  have hA0 := hide (ha.keep hB0.out)
  have hA0' := hide (ha'.keep hB0.out)
  obtain ⟨r, hr⟩ : ∃ r, r = openR cs ls := ⟨_, rfl⟩
  rw [← hr]
  unfold openR at hr
  obtain ⟨c0, c1⟩ := hX0.out
  clear ha ha'
  cases hok : okEn cs ls
  · have HR : Hid (r = (false, 0, 1)) := hide (by rw [hr, hok]; rfl)
    have HK := hide hok
    clear hr hok
    go_enter Try.func42, Try.ntmps42
    go_wp2_with fail
    rw [← hW0]
    clear hW0
    (try go_wp2_with fail)
    refine (implIsE_any _ _ cs _ _ ls _ hA0.out hA0'.out hl hl').mono ?_
    rw [HK.out]
    rintro e w1 ⟨rfl, hb1⟩
    have hB1 := hide (Below.trans' hB0.out hb1)
    clear hb1 c0 c1
    go_wp2_with fail
    refine bodyPost_ret (v := .tuple #[.bool false, .int .i64 0, .int .i64 1]) (by simp [results, Try.results42, go_sem]) rfl ⟨by rw [HR.out]; rfl, hB1.out⟩
  · have HK := hide hok
    rw [hok, if_pos rfl] at hr
    have hOT := okT_cnt hok
    have hsum : (cntL cs ls).sum = cs.length + ls.length := cntL_sum cs ls (fun x hx => by have := (okEn_rng hok).1 x hx; omega) (fun x hx => by have := (okEn_rng hok).2 x hx; omega)
    obtain ⟨L, hL⟩ : ∃ L, L = cntL cs ls := ⟨_, rfl⟩
    rw [← hL] at hOT hsum hr
    have HL := hide hL
    have HOT := hide hOT
    have hsz : Hid (((Try.prog).info? 69).map (·.size) = some (tc L).size) := hide (by rw [tc_size, hOT.1]; exact tInfo)
    have hzz : Hid (Array.size (α := Value) #[.int .u8 0, .int .u8 0, .int .u8 0, .int .u8 0, .int .u8 0, .int .u8 0, .int .u8 0, .int .u8 0, .int .u8 0, .int .u8 0, .int .u8 0, .int .u8 0, .int .u8 0, .int .u8 0, .int .u8 0, .int .u8 0, .int .u8 0, .int .u8 0, .int .u8 0, .int .u8 0, .int .u8 0, .int .u8 0, .int .u8 0, .int .u8 0, .int .u8 0, .int .u8 0, .int .u8 0, .int .u8 0, .int .u8 0, .int .u8 0, .int .u8 0, .int .u8 0, .int .u8 0, .int .u8 0, .int .u8 0, .int .u8 0, .int .u8 0, .int .u8 0, .int .u8 0, .int .u8 0, .int .u8 0, .int .u8 0, .int .u8 0, .int .u8 0, .int .u8 0, .int .u8 0, .int .u8 0, .int .u8 0, .int .u8 0, .int .u8 0, .int .u8 0, .int .u8 0, .int .u8 0, .int .u8 0, .int .u8 0, .int .u8 0, .int .u8 0, .int .u8 0, .int .u8 0, .int .u8 0, .int .u8 0, .int .u8 0] = (tc L).size) := hide (by rw [tc_size, hOT.1]; rfl)
    have hone : Hid ((tc L).all (·.oneCell') = true) := hide (tc_one L)
    clear hok hL hOT
    by_cases hz : cs.length + ls.length = 0
    · have HR : Hid (r = (false, 0, 5)) := hide (by rw [hr, if_pos hz])
      have hd0 : Hid (decide (L.sum = 0) = true) := hide (by rw [hsum]; simpa using hz)
      clear hr hz hsum
      go_enter Try.func42, Try.ntmps42
      go_wp2_with fail
      rw [← hW0]
      clear hW0
      (try go_wp2_with fail)
      refine (implIsE_any _ _ cs _ _ ls _ hA0.out hA0'.out hl hl').mono ?_
      rw [HK.out]
      rintro e w1 ⟨rfl, hb1⟩
      have hB1 := hide (Below.trans' hB0.out hb1)
      have hA1 := hide (hA0.out.keep hb1)
      have hA1' := hide (hA0'.out.keep hb1)
      have hX1 := hide (hX0.out.keep hb1)
      clear hb1 c0 c1
      obtain ⟨c0, c1⟩ := hX1.out
      go_wp2_with fail
      refine (tallyOf_any _ _ cs _ _ ls _ hA1.out hA1'.out HK.out).mono ?_
      rw [← HL.out]
      rintro e w2 ⟨rfl, hb2⟩
      have hzr : Hid ((w2.alloc (.cells #[.int .u8 0, .int .u8 0, .int .u8 0, .int .u8 0, .int .u8 0, .int .u8 0, .int .u8 0, .int .u8 0, .int .u8 0, .int .u8 0, .int .u8 0, .int .u8 0, .int .u8 0, .int .u8 0, .int .u8 0, .int .u8 0, .int .u8 0, .int .u8 0, .int .u8 0, .int .u8 0, .int .u8 0, .int .u8 0, .int .u8 0, .int .u8 0, .int .u8 0, .int .u8 0, .int .u8 0, .int .u8 0, .int .u8 0, .int .u8 0, .int .u8 0, .int .u8 0, .int .u8 0, .int .u8 0, .int .u8 0, .int .u8 0, .int .u8 0, .int .u8 0, .int .u8 0, .int .u8 0, .int .u8 0, .int .u8 0, .int .u8 0, .int .u8 0, .int .u8 0, .int .u8 0, .int .u8 0, .int .u8 0, .int .u8 0, .int .u8 0, .int .u8 0, .int .u8 0, .int .u8 0, .int .u8 0, .int .u8 0, .int .u8 0, .int .u8 0, .int .u8 0, .int .u8 0, .int .u8 0, .int .u8 0, .int .u8 0] 69)).heap[w2.heap.size]? = some (.cells #[.int .u8 0, .int .u8 0, .int .u8 0, .int .u8 0, .int .u8 0, .int .u8 0, .int .u8 0, .int .u8 0, .int .u8 0, .int .u8 0, .int .u8 0, .int .u8 0, .int .u8 0, .int .u8 0, .int .u8 0, .int .u8 0, .int .u8 0, .int .u8 0, .int .u8 0, .int .u8 0, .int .u8 0, .int .u8 0, .int .u8 0, .int .u8 0, .int .u8 0, .int .u8 0, .int .u8 0, .int .u8 0, .int .u8 0, .int .u8 0, .int .u8 0, .int .u8 0, .int .u8 0, .int .u8 0, .int .u8 0, .int .u8 0, .int .u8 0, .int .u8 0, .int .u8 0, .int .u8 0, .int .u8 0, .int .u8 0, .int .u8 0, .int .u8 0, .int .u8 0, .int .u8 0, .int .u8 0, .int .u8 0, .int .u8 0, .int .u8 0, .int .u8 0, .int .u8 0, .int .u8 0, .int .u8 0, .int .u8 0, .int .u8 0, .int .u8 0, .int .u8 0, .int .u8 0, .int .u8 0, .int .u8 0, .int .u8 0] 69 (0, 0))) := hide (heap_alloc_new w2 _)
      have htr : Hid (((w2.alloc (.cells #[.int .u8 0, .int .u8 0, .int .u8 0, .int .u8 0, .int .u8 0, .int .u8 0, .int .u8 0, .int .u8 0, .int .u8 0, .int .u8 0, .int .u8 0, .int .u8 0, .int .u8 0, .int .u8 0, .int .u8 0, .int .u8 0, .int .u8 0, .int .u8 0, .int .u8 0, .int .u8 0, .int .u8 0, .int .u8 0, .int .u8 0, .int .u8 0, .int .u8 0, .int .u8 0, .int .u8 0, .int .u8 0, .int .u8 0, .int .u8 0, .int .u8 0, .int .u8 0, .int .u8 0, .int .u8 0, .int .u8 0, .int .u8 0, .int .u8 0, .int .u8 0, .int .u8 0, .int .u8 0, .int .u8 0, .int .u8 0, .int .u8 0, .int .u8 0, .int .u8 0, .int .u8 0, .int .u8 0, .int .u8 0, .int .u8 0, .int .u8 0, .int .u8 0, .int .u8 0, .int .u8 0, .int .u8 0, .int .u8 0, .int .u8 0, .int .u8 0, .int .u8 0, .int .u8 0, .int .u8 0, .int .u8 0, .int .u8 0] 69)).setRow w2.heap.size (tc L)).heap[w2.heap.size]? = some (.cells (tc L) 69 (0, 0))) := hide (setRow_heap _ _ _ _ _ _ hzr.out)
      have hB2 : Hid (Below W.heap.size W ((w2.alloc (.cells #[.int .u8 0, .int .u8 0, .int .u8 0, .int .u8 0, .int .u8 0, .int .u8 0, .int .u8 0, .int .u8 0, .int .u8 0, .int .u8 0, .int .u8 0, .int .u8 0, .int .u8 0, .int .u8 0, .int .u8 0, .int .u8 0, .int .u8 0, .int .u8 0, .int .u8 0, .int .u8 0, .int .u8 0, .int .u8 0, .int .u8 0, .int .u8 0, .int .u8 0, .int .u8 0, .int .u8 0, .int .u8 0, .int .u8 0, .int .u8 0, .int .u8 0, .int .u8 0, .int .u8 0, .int .u8 0, .int .u8 0, .int .u8 0, .int .u8 0, .int .u8 0, .int .u8 0, .int .u8 0, .int .u8 0, .int .u8 0, .int .u8 0, .int .u8 0, .int .u8 0, .int .u8 0, .int .u8 0, .int .u8 0, .int .u8 0, .int .u8 0, .int .u8 0, .int .u8 0, .int .u8 0, .int .u8 0, .int .u8 0, .int .u8 0, .int .u8 0, .int .u8 0, .int .u8 0, .int .u8 0, .int .u8 0, .int .u8 0] 69)).setRow w2.heap.size (tc L))) := hide (Below.trans' (Below.trans' hB1.out hb2) (below_setRow (below_alloc _ _) (Nat.le_refl _) _))
      clear hb2 c0 c1
      go_wp2_with (first | (refine wpList_store_row rfl 69 (.tmp 5) (.tmp 11) rfl w2.heap.size (tc L) rfl rfl 69 #[.int .u8 0, .int .u8 0, .int .u8 0, .int .u8 0, .int .u8 0, .int .u8 0, .int .u8 0, .int .u8 0, .int .u8 0, .int .u8 0, .int .u8 0, .int .u8 0, .int .u8 0, .int .u8 0, .int .u8 0, .int .u8 0, .int .u8 0, .int .u8 0, .int .u8 0, .int .u8 0, .int .u8 0, .int .u8 0, .int .u8 0, .int .u8 0, .int .u8 0, .int .u8 0, .int .u8 0, .int .u8 0, .int .u8 0, .int .u8 0, .int .u8 0, .int .u8 0, .int .u8 0, .int .u8 0, .int .u8 0, .int .u8 0, .int .u8 0, .int .u8 0, .int .u8 0, .int .u8 0, .int .u8 0, .int .u8 0, .int .u8 0, .int .u8 0, .int .u8 0, .int .u8 0, .int .u8 0, .int .u8 0, .int .u8 0, .int .u8 0, .int .u8 0, .int .u8 0, .int .u8 0, .int .u8 0, .int .u8 0, .int .u8 0, .int .u8 0, .int .u8 0, .int .u8 0, .int .u8 0, .int .u8 0, .int .u8 0] hzr.out hsz.out hzz.out hone.out ?_) | (refine wpList_load_row rfl 69 (.tmp 5) rfl w2.heap.size rfl 69 (tc L) (0, 0) _ htr.out tUnder rfl hsz.out ?_))
      refine (isOver_any L HOT.out _).mono ?_
      rw [hd0.out]
      rintro e w3 ⟨rfl, hb3⟩
      have hB3 := hide (Below.trans' hB2.out hb3)
      clear hb3
      go_wp2_with fail
      refine bodyPost_ret (v := .tuple #[.bool false, .int .i64 0, .int .i64 5]) (by simp [results, Try.results42, go_sem]) rfl ⟨by rw [HR.out]; rfl, hB3.out⟩
    · have hpos : 0 < L.sum := by omega
      have hd0 : Hid (decide (L.sum = 0) = false) := hide (by rw [hsum]; simpa using hz)
      obtain ⟨k, hk⟩ : ∃ k, k = knd (opT L) := ⟨_, rfl⟩
      obtain ⟨b, hb⟩ : ∃ b, b = bxs (opT L) := ⟨_, rfl⟩
      have HR : Hid (r = (decide (k = 1), b, 0)) := hide (by rw [hr, if_neg hz, hk, hb]; rfl)
      have hBO : Hid (∀ (m : Nat) (V : World), KnowsT m V → Calls Try.prog 84 #[.agg #[.map (some m)], .agg (tc L)] V (RetK m (KnowsT m) (.agg #[.int .i64 k, .int .i64 b]) V)) := hide (fun m V hkn => by rw [hk, hb]; exact bestO_any m L HOT.out hpos V hkn (implValue_any m _ L V HOT.out rfl hkn).1)
      clear hr hz hsum hk hb
      go_enter Try.func42, Try.ntmps42
      go_wp2_with fail
      rw [← hW0]
      clear hW0
      (try go_wp2_with fail)
      refine (implIsE_any _ _ cs _ _ ls _ hA0.out hA0'.out hl hl').mono ?_
      rw [HK.out]
      rintro e w1 ⟨rfl, hb1⟩
      have hB1 := hide (Below.trans' hB0.out hb1)
      have hA1 := hide (hA0.out.keep hb1)
      have hA1' := hide (hA0'.out.keep hb1)
      have hX1 := hide (hX0.out.keep hb1)
      clear hb1 c0 c1
      obtain ⟨c0, c1⟩ := hX1.out
      go_wp2_with fail
      refine (tallyOf_any _ _ cs _ _ ls _ hA1.out hA1'.out HK.out).mono ?_
      rw [← HL.out]
      rintro e w2 ⟨rfl, hb2⟩
      have hzr : Hid ((w2.alloc (.cells #[.int .u8 0, .int .u8 0, .int .u8 0, .int .u8 0, .int .u8 0, .int .u8 0, .int .u8 0, .int .u8 0, .int .u8 0, .int .u8 0, .int .u8 0, .int .u8 0, .int .u8 0, .int .u8 0, .int .u8 0, .int .u8 0, .int .u8 0, .int .u8 0, .int .u8 0, .int .u8 0, .int .u8 0, .int .u8 0, .int .u8 0, .int .u8 0, .int .u8 0, .int .u8 0, .int .u8 0, .int .u8 0, .int .u8 0, .int .u8 0, .int .u8 0, .int .u8 0, .int .u8 0, .int .u8 0, .int .u8 0, .int .u8 0, .int .u8 0, .int .u8 0, .int .u8 0, .int .u8 0, .int .u8 0, .int .u8 0, .int .u8 0, .int .u8 0, .int .u8 0, .int .u8 0, .int .u8 0, .int .u8 0, .int .u8 0, .int .u8 0, .int .u8 0, .int .u8 0, .int .u8 0, .int .u8 0, .int .u8 0, .int .u8 0, .int .u8 0, .int .u8 0, .int .u8 0, .int .u8 0, .int .u8 0, .int .u8 0] 69)).heap[w2.heap.size]? = some (.cells #[.int .u8 0, .int .u8 0, .int .u8 0, .int .u8 0, .int .u8 0, .int .u8 0, .int .u8 0, .int .u8 0, .int .u8 0, .int .u8 0, .int .u8 0, .int .u8 0, .int .u8 0, .int .u8 0, .int .u8 0, .int .u8 0, .int .u8 0, .int .u8 0, .int .u8 0, .int .u8 0, .int .u8 0, .int .u8 0, .int .u8 0, .int .u8 0, .int .u8 0, .int .u8 0, .int .u8 0, .int .u8 0, .int .u8 0, .int .u8 0, .int .u8 0, .int .u8 0, .int .u8 0, .int .u8 0, .int .u8 0, .int .u8 0, .int .u8 0, .int .u8 0, .int .u8 0, .int .u8 0, .int .u8 0, .int .u8 0, .int .u8 0, .int .u8 0, .int .u8 0, .int .u8 0, .int .u8 0, .int .u8 0, .int .u8 0, .int .u8 0, .int .u8 0, .int .u8 0, .int .u8 0, .int .u8 0, .int .u8 0, .int .u8 0, .int .u8 0, .int .u8 0, .int .u8 0, .int .u8 0, .int .u8 0, .int .u8 0] 69 (0, 0))) := hide (heap_alloc_new w2 _)
      have htr : Hid (((w2.alloc (.cells #[.int .u8 0, .int .u8 0, .int .u8 0, .int .u8 0, .int .u8 0, .int .u8 0, .int .u8 0, .int .u8 0, .int .u8 0, .int .u8 0, .int .u8 0, .int .u8 0, .int .u8 0, .int .u8 0, .int .u8 0, .int .u8 0, .int .u8 0, .int .u8 0, .int .u8 0, .int .u8 0, .int .u8 0, .int .u8 0, .int .u8 0, .int .u8 0, .int .u8 0, .int .u8 0, .int .u8 0, .int .u8 0, .int .u8 0, .int .u8 0, .int .u8 0, .int .u8 0, .int .u8 0, .int .u8 0, .int .u8 0, .int .u8 0, .int .u8 0, .int .u8 0, .int .u8 0, .int .u8 0, .int .u8 0, .int .u8 0, .int .u8 0, .int .u8 0, .int .u8 0, .int .u8 0, .int .u8 0, .int .u8 0, .int .u8 0, .int .u8 0, .int .u8 0, .int .u8 0, .int .u8 0, .int .u8 0, .int .u8 0, .int .u8 0, .int .u8 0, .int .u8 0, .int .u8 0, .int .u8 0, .int .u8 0, .int .u8 0] 69)).setRow w2.heap.size (tc L)).heap[w2.heap.size]? = some (.cells (tc L) 69 (0, 0))) := hide (setRow_heap _ _ _ _ _ _ hzr.out)
      have hB2 : Hid (Below W.heap.size W ((w2.alloc (.cells #[.int .u8 0, .int .u8 0, .int .u8 0, .int .u8 0, .int .u8 0, .int .u8 0, .int .u8 0, .int .u8 0, .int .u8 0, .int .u8 0, .int .u8 0, .int .u8 0, .int .u8 0, .int .u8 0, .int .u8 0, .int .u8 0, .int .u8 0, .int .u8 0, .int .u8 0, .int .u8 0, .int .u8 0, .int .u8 0, .int .u8 0, .int .u8 0, .int .u8 0, .int .u8 0, .int .u8 0, .int .u8 0, .int .u8 0, .int .u8 0, .int .u8 0, .int .u8 0, .int .u8 0, .int .u8 0, .int .u8 0, .int .u8 0, .int .u8 0, .int .u8 0, .int .u8 0, .int .u8 0, .int .u8 0, .int .u8 0, .int .u8 0, .int .u8 0, .int .u8 0, .int .u8 0, .int .u8 0, .int .u8 0, .int .u8 0, .int .u8 0, .int .u8 0, .int .u8 0, .int .u8 0, .int .u8 0, .int .u8 0, .int .u8 0, .int .u8 0, .int .u8 0, .int .u8 0, .int .u8 0, .int .u8 0, .int .u8 0] 69)).setRow w2.heap.size (tc L))) := hide (Below.trans' (Below.trans' hB1.out hb2) (below_setRow (below_alloc _ _) (Nat.le_refl _) _))
      obtain ⟨Tb, hTb⟩ : ∃ Tb, Tb = w2.heap.size := ⟨_, rfl⟩
      have HTB := hide hTb
      clear hb2 c0 c1 hTb
      go_wp2_with (first | (refine wpList_store_row rfl 69 (.tmp 5) (.tmp 11) rfl w2.heap.size (tc L) rfl rfl 69 #[.int .u8 0, .int .u8 0, .int .u8 0, .int .u8 0, .int .u8 0, .int .u8 0, .int .u8 0, .int .u8 0, .int .u8 0, .int .u8 0, .int .u8 0, .int .u8 0, .int .u8 0, .int .u8 0, .int .u8 0, .int .u8 0, .int .u8 0, .int .u8 0, .int .u8 0, .int .u8 0, .int .u8 0, .int .u8 0, .int .u8 0, .int .u8 0, .int .u8 0, .int .u8 0, .int .u8 0, .int .u8 0, .int .u8 0, .int .u8 0, .int .u8 0, .int .u8 0, .int .u8 0, .int .u8 0, .int .u8 0, .int .u8 0, .int .u8 0, .int .u8 0, .int .u8 0, .int .u8 0, .int .u8 0, .int .u8 0, .int .u8 0, .int .u8 0, .int .u8 0, .int .u8 0, .int .u8 0, .int .u8 0, .int .u8 0, .int .u8 0, .int .u8 0, .int .u8 0, .int .u8 0, .int .u8 0, .int .u8 0, .int .u8 0, .int .u8 0, .int .u8 0, .int .u8 0, .int .u8 0, .int .u8 0, .int .u8 0] hzr.out hsz.out hzz.out hone.out ?_) | (refine wpList_load_row rfl 69 (.tmp 5) rfl w2.heap.size rfl 69 (tc L) (0, 0) _ htr.out tUnder rfl hsz.out ?_))
      refine (isOver_any L HOT.out _).mono ?_
      rw [hd0.out]
      rintro e w3 ⟨rfl, hb3⟩
      have hB3 := hide (Below.trans' hB2.out hb3)
      have hT3 : TallyIn w3 w2.heap.size L := TallyIn.keep htr.out hb3
      have hdr : Below w3.heap.size w3 w3.drew := Below.drew (Below.refl _ _)
      have hTd := hide hT3
      have hTl : Hid (Tb < w3.heap.size) := hide (by rw [HTB.out]; exact block_lt hT3)
      have hD := hide hdr
      rw [← HTB.out] at hTd ⊢
      clear hb3 hzr htr hT3 hdr
      go_wp2_with fail
      go_region_held3 (fun V => isT V Tb = true ∧ rowAt V Tb = tc L)
        ((refine tally_facts (l := L) ?_ HOT.out.1; (repeat (first | with_reducible exact hTd.out | with_reducible refine tally_drew ?_ | with_reducible refine TallyIn.keep ?_ HB4.out | with_reducible refine TallyIn.keep ?_ (below_alloc _ _) | with_reducible refine tally_but ?_ HB5.out hTm | with_reducible refine tally_set ?_ (by have z1 := hTl.out; have z2 := HZ4.out; omega)))))
        (first | (go_at_call 52; refine (search_new _).mono ?_; rintro e1 w4 ⟨m, rfl, hk4, hmb, hb4⟩; (have HM : Hid (w3.heap.size ≤ m) := hide (by first | exact hmb | (have h2 : (w3.alloc (.cells #[.int .i64 0, .int .i64 0] 65)).heap.size ≤ m := hmb; simp at h2; omega))); (have hTm : Tb ≠ m := (by have z1 := hTl.out; have z2 := HM.out; omega)); (have HZ4 : Hid (w3.heap.size ≤ w4.heap.size) := hide (by first | exact hb4.size | (have h2 : (w3.alloc (.cells #[.int .i64 0, .int .i64 0] 65)).heap.size ≤ w4.heap.size := hb4.size; simp at h2; omega))); (try have hb6 : Hid (w4.heap[w3.heap.size]? = some (.cells #[.int .i64 0, .int .i64 0] 65 (0, 0)) ∧ w3.heap.size ≠ m) := hide ⟨box_keep (w := (w3.alloc (.cells #[.int .i64 0, .int .i64 0] 65)).drew) (heap_alloc_new w3 _) hb4, by (have h2 : (w3.alloc (.cells #[.int .i64 0, .int .i64 0] 65)).heap.size ≤ m := hmb); simp at h2; omega⟩); have HK4 := hide hk4; have HB4 := hide hb4; clear hk4 hmb hb4) | (go_at_call 84; refine (hBO.out _ _ (by first | exact HK4.out | exact HK4.out.keep (below_alloc _ _))).mono ?_; rintro e1 w5 ⟨rfl, hb5, hk5⟩; (try have hq : Hid (w5.heap[w3.heap.size]? = some (.cells #[.int .i64 0, .int .i64 0] 65 (0, 0))) := hide (hb5.row hb6.out.1 hb6.out.2)); (try have hq : Hid (w5.heap[w4.heap.size]? = some (.cells #[.int .i64 0, .int .i64 0] 65 (0, 0))) := hide (hb5.row (heap_alloc_new w4 _) (by have := HK4.out.lt; omega))); (try have q0 := (row2' hq.out).1); (try have q1 := (row2' hq.out).2.1); (try have f0 := (row2' hq.out).2.2.1); (try have f1 := (row2' hq.out).2.2.2); have HB5 := hide hb5; clear hb5 hk5))
      all_goals
        have hw : Hid (Below W.heap.size W w5) := hide (Below.trans' hB3.out (below_but (by first | exact Below.trans' (Below.trans' (below_alloc _ _) (Below.drew (Below.refl _ _))) HB4.out | exact Below.trans' (Below.trans' hD.out HB4.out) (below_alloc _ _) | exact Below.trans' hD.out HB4.out) HB5.out HM.out))
        have hz3 : W.heap.size ≤ w3.heap.size := hB3.out.size
        have hz4 : W.heap.size ≤ w4.heap.size := by have := HZ4.out; omega
        go_wp2_with fail
        first
          | have hz7 := hide (box_set2' (x' := .int .i64 k) (y' := .int .i64 b) hq.out)
          | have hz7 := hide (heap_alloc_new w5 (.cells #[.int .i64 k, .int .i64 b] 65 (0, 0)))
        obtain ⟨y0, y1, _⟩ := row2' hz7.out
        (try clear q0 q1 f0 f1)
        go_quiet (fail)
        go_wp2_with fail
        refine bodyPost_ret (v := .tuple #[.bool (k == 1), .int .i64 b, .int .i64 0]) (by simp [results, Try.results42, go_sem]) rfl ⟨by rw [HR.out]; rfl, below_drewN ?_ _⟩
        first
          | exact (hw.out.setCell (p := ⟨w3.heap.size, 0, none⟩) hz3 _).setCell (p := ⟨w3.heap.size, 1, none⟩) hz3 _
          | exact (hw.out.setCell (p := ⟨w4.heap.size, 0, none⟩) hz4 _).setCell (p := ⟨w4.heap.size, 1, none⟩) hz4 _
          | exact Below.alloc' hw.out _
end Go.Proofs.Ytbfpbkbhikogiaa
