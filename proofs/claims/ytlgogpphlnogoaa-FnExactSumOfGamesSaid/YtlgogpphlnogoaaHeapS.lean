/-
  HeapGame: the model's text against the plain function.
-/
import Derived.Test.YtlgogpphlnogoaaHeapI
import Derived.Deep.QuietTactic
namespace Go.Proofs.Ytlgogpphlnogoaa
open Go.RowKit

theorem box_far {w : World} {b lo n : Nat} {cs : Array Value} {T e : TypeId} {v : Value} {xs : List Value} (hb : w.heap[b]? = some (.cells cs T (0, 0))) (h : w.ownsRow lo e 1 v n xs) (hne : T ≠ e) : some b ≠ v.ownBlock := by
  rcases h.2 with ⟨rfl, _⟩ | ⟨g, cap, cur, rfl, _, hg, _⟩
  · simp [Value.ownBlock]
  · simp only [Value.ownBlock, ne_eq, Option.some.injEq]
    rintro rfl
    rw [hb] at hg
    simp at hg
    exact hne hg.2
/-- Of the rows the first k are the call's own, row i the value 'vs' at i. -/
def RowsQ (w : World) (lo : Nat) (xss : List (List Int)) (vs : List Value) (k : Nat) : Prop :=
  ∀ i zs, i < k → xss[i]? = some zs → ∃ a c, vs[i]? = some (.slice a zs.length c) ∧ w.ownsRow lo 2 1 (.slice a zs.length c) zs.length (zs.map intV)
theorem RowsQ.keep {w w' : World} {lo : Nat} {xss : List (List Int)} {vs : List Value} {k : Nat} (h : RowsQ w lo xss vs k) (hb : Below w.heap.size w w') : RowsQ w' lo xss vs k := by
  intro i zs hi hz
  obtain ⟨g, c, hv, ho⟩ := h i zs hi hz
  exact ⟨g, c, hv, ownsRow_keep ho hb⟩
theorem RowsQ.store {w : World} {lo b : Nat} {xss : List (List Int)} {vs : List Value} {k o : Nat} {u : Value} {cs : Array Value} {T : TypeId} (h : RowsQ w lo xss vs k) (hb : w.heap[b]? = some (.cells cs T (0, 0))) (hT : T ≠ 2) : RowsQ (w.setCell ⟨b, o, none⟩ u) lo xss vs k := by
  intro i zs hi hz
  obtain ⟨g, c, hv, ho⟩ := h i zs hi hz
  refine ⟨g, c, hv, ho.1, ?_⟩
  rcases ho.2 with h2 | ⟨g', cap, cur, hv', hlo, hg, r⟩
  · exact .inl h2
  · refine .inr ⟨g', cap, cur, hv', hlo, ?_, r⟩
    rw [Below.heap_setCell _ _ _ _ (fun e => by subst e; rw [hb] at hg; simp at hg; exact hT hg.2)]
    exact hg
theorem RowsQ.grown {w w' : World} {lo lo2 n : Nat} {xss : List (List Int)} {vs : List Value} {k : Nat} {v : Value} {xs : List Value} (h : RowsQ w lo xss vs k) (ho : w.ownsRow lo2 26 1 v n xs) (hg : w.grownBy w' v.ownBlock) : RowsQ w' lo xss vs k := by
  intro i zs hi hz
  obtain ⟨g, c, hv, hr⟩ := h i zs hi hz
  exact ⟨g, c, hv, hr.kept hg (own_apart hr ho (by decide))⟩
theorem RowsQ.push {w : World} {lo : Nat} {xss : List (List Int)} {vs : List Value} {zs : List Int} {a : Option Addr} {c : Nat} (h : RowsQ w lo xss vs vs.length) (hz : xss[vs.length]? = some zs)
    (ho : w.ownsRow lo 2 1 (.slice a zs.length c) zs.length (zs.map intV)) : RowsQ w lo xss (vs ++ [.slice a zs.length c]) (vs.length + 1) := by
  intro i ys hi hy
  by_cases e : i = vs.length
  · subst e
    rw [hz] at hy
    cases hy
    exact ⟨a, c, by simp, ho⟩
  · obtain ⟨g', c', hv, ho'⟩ := h i ys (by omega) hy
    exact ⟨g', c', by rw [List.getElem?_append_left (by omega)]; exact hv, ho'⟩

theorem ownsRow_agree {w W : World} {base n : Nat} {e : TypeId} {v : Value} {xs : List Value} (h : w.ownsRow base e 1 v n xs) (hag : ∀ b, base ≤ b → W.heap[b]? = w.heap[b]?) : W.ownsRow base e 1 v n xs := by
  refine ⟨h.1, ?_⟩
  rcases h.2 with h2 | ⟨g, cap, cur, hv, hg, hh, r⟩
  · exact .inl h2
  · exact .inr ⟨g, cap, cur, hv, hg, (hag g hg).trans hh, r⟩
theorem RowsQ.agree {w W : World} {lo : Nat} {xss : List (List Int)} {vs : List Value} {k : Nat} (h : RowsQ w lo xss vs k) (hag : ∀ b, lo ≤ b → W.heap[b]? = w.heap[b]?) : RowsQ W lo xss vs k := by
  intro i zs hi hz
  obtain ⟨g, c, hv, ho⟩ := h i zs hi hz
  exact ⟨g, c, hv, ownsRow_agree ho hag⟩
/-- It reads so whatever becomes of the blocks below lo. -/
def RowsFrom (w : World) (lo : Nat) (a : Option Addr) (xss : List (List Int)) : Prop := ∀ W : World, (∀ b, lo ≤ b → W.heap[b]? = w.heap[b]?) → RowsAt W a xss
/-- What a call hands back that has made a game of its own, told by what it reads. -/
def NewRows (xss : List (List Int)) (w : World) (e : Ending) (w' : World) : Prop :=
  ∃ a c, e = .returned (.agg #[.slice a xss.length c]) ∧ RowsFrom w' w.heap.size a xss ∧ Below w.heap.size w w'
def NewRowsC (r : List (List Int) × Int) (w : World) (e : Ending) (w' : World) : Prop :=
  ∃ a c, e = .returned (.tuple #[.agg #[.slice a r.1.length c], .int .i64 r.2]) ∧ RowsAt w' a r.1 ∧ Below w.heap.size w w'

/-- The game under way: the box, the outer row, the rows. -/
def Under (w : World) (lo Ob : Nat) (xss : List (List Int)) (n : Nat) : Prop :=
  ∃ a c vs, w.heap[Ob]? = some (.cells #[.slice a n c] 29 (0, 0)) ∧ vs.length = n ∧ w.ownsRow lo 26 1 (.slice a n c) n vs ∧ RowsQ w lo xss vs n
theorem rows_read {w : World} {lo c : Nat} {a : Option Addr} {vs : List Value} {xss : List (List Int)} (ho : w.ownsRow lo 26 1 (.slice a xss.length c) xss.length vs) (hr : RowsQ w lo xss vs xss.length) : RowsAt w a xss := by
  intro hne
  have hpos : 0 < xss.length := List.length_pos_iff.2 hne
  rcases ho.2 with ⟨_, h0⟩ | ⟨g, cap, cur, hv, _⟩
  · omega
  · have hv' := hv
    simp only [Value.slice.injEq, true_and] at hv'
    obtain ⟨rfl, rfl⟩ := hv'
    refine ⟨g, 0, rfl, fun i zs hi => ?_⟩
    have hlt : i < xss.length := (List.getElem?_eq_some_iff.1 hi).1
    obtain ⟨gi, ci, hvi, hoi⟩ := hr i zs hlt hi
    exact ⟨_, ci, by rw [Nat.zero_add, ho.cellAt i (by omega), hvi], intsAt_of_ownsRow hoi⟩

set_option maxRecDepth 100000 in
set_option maxHeartbeats 4000000 in
theorem l01Heap_any (a : Option Addr) (c kn : Nat) (L : List Int) (w : World) (ha : IntsAt w a L) (hl : L.length ≤ 39) (hk : kn ≤ 39) (hm : ∀ z ∈ L, 1 ≤ z ∧ z ≤ 39) :
    Calls Try.prog 68 #[.int .i64 kn, .slice a L.length c] w (NewRows (heapRows kn L (kn + 1)) w) := by
  obtain ⟨i0, hi, hz0, hz1, hz2⟩ := info_parts Try.info2
  obtain ⟨i1, hi1, hy0, hy1, hy2⟩ := info_parts Try.info26
  have HM := hide hm
  clear hm
  go_enter Try.func68, Try.ntmps68
  go_wp2_with fail
  have hB3 : Below w.heap.size w (((w.alloc (.cells #[.slice none 0 0] 29)).alloc (.cells #[] 26)).alloc (.cells #[.slice (some ⟨w.heap.size + 1, 0, none⟩) 0 0] 29)) := (((Below.refl _ _).alloc (Nat.le_refl _) _).alloc (by simp) _).alloc (by simp; omega) _
  have hR3 : (((w.alloc (.cells #[.slice none 0 0] 29)).alloc (.cells #[] 26)).alloc (.cells #[.slice (some ⟨w.heap.size + 1, 0, none⟩) 0 0] 29)).heap[w.heap.size]? = some (.cells #[.slice none 0 0] 29 (0, 0)) := by
    rw [Below.heap_alloc _ _ _ (by simp; omega), Below.heap_alloc _ _ _ (by simp)]
    exact heap_alloc_new w _
  have hE3 : (((w.alloc (.cells #[.slice none 0 0] 29)).alloc (.cells #[] 26)).alloc (.cells #[.slice (some ⟨w.heap.size + 1, 0, none⟩) 0 0] 29)).heap[w.heap.size + 1]? = some (.cells #[] 26 (0, 0)) := by
    rw [Below.heap_alloc _ _ _ (by simp)]
    have := heap_alloc_new (w.alloc (.cells #[.slice none 0 0] 29)) (.cells #[] 26 (0, 0))
    simpa using this
  have hO3 : (((w.alloc (.cells #[.slice none 0 0] 29)).alloc (.cells #[] 26)).alloc (.cells #[.slice (some ⟨w.heap.size + 1, 0, none⟩) 0 0] 29)).heap[w.heap.size + 1 + 1]? = some (.cells #[.slice (some ⟨w.heap.size + 1, 0, none⟩) 0 0] 29 (0, 0)) := by
    have := heap_alloc_new ((w.alloc (.cells #[.slice none 0 0] 29)).alloc (.cells #[] 26)) (.cells #[.slice (some ⟨w.heap.size + 1, 0, none⟩) 0 0] 29 (0, 0))
    simpa using this
  have hs3 : (((w.alloc (.cells #[.slice none 0 0] 29)).alloc (.cells #[] 26)).alloc (.cells #[.slice (some ⟨w.heap.size + 1, 0, none⟩) 0 0] 29)).heap.size = w.heap.size + 3 := by simp
  obtain ⟨W3, hW3⟩ : ∃ W3, W3 = ((w.alloc (.cells #[.slice none 0 0] 29)).alloc (.cells #[] 26)).alloc (.cells #[.slice (some ⟨w.heap.size + 1, 0, none⟩) 0 0] 29) := ⟨_, rfl⟩
  rw [← hW3] at hB3 hR3 hE3 hO3 hs3 ⊢
  have hU3 : Hid (Under W3 (w.heap.size + 1) (w.heap.size + 1 + 1) (heapRows kn L (kn + 1)) 0) := hide ⟨_, 0, [], hO3, rfl, ⟨rfl, .inr ⟨w.heap.size + 1, 0, #[], rfl, Nat.le_refl _, hE3, Nat.le_refl _, Nat.zero_le _, rfl, rfl⟩⟩, fun _ _ h => absurd h (by omega)⟩
  have hD3 := hide (Below.refl (w.heap.size + 1) W3)
  have hR := hide hR3
  have hsz : w.heap.size + 3 ≤ W3.heap.size := by omega
  clear hW3 hR3 hE3 hO3 hs3
  go_loopw [6] (fun i wr => ∃ p : Nat, p ≤ kn + 1 ∧ i = .int .i64 p ∧ Under wr (w.heap.size + 1) (w.heap.size + 1 + 1) (heapRows kn L (kn + 1)) p ∧ Below (w.heap.size + 1) W3 wr) (fun i _ => kn + 1 - (intOf i).toNat)
  case atStart => exact ⟨0, Nat.zero_le _, rfl, hU3.out, hD3.out⟩
  case round =>
    clear hU3 hD3
    obtain ⟨p, hp, rfl, hU, hD⟩ := hrel
    obtain ⟨wo, rfl⟩ : ∃ wo : World, wo = wr := ⟨_, rfl⟩
    have hBr : Below w.heap.size w wo := hB3.trans (hD.mono (by omega))
    have hszr : w.heap.size + 3 ≤ wo.heap.size := Nat.le_trans hsz hD.size
    by_cases hlt : p < kn + 1
    · obtain ⟨a1, c1, vs, hb, hvl, ho, hrows⟩ := hU
      have hltd : decide ((p : Int) ≤ (kn : Int)) = true := decide_eq_true (by omega)
      have hltn : decide (p ≤ kn) = true := decide_eq_true (by omega)
      have hOWN0 : Hid ((wo.alloc (.cells #[] 2)).ownsRow wo.heap.size 2 1 (.slice (some ⟨wo.heap.size, 0, none⟩) 0 0) 0 []) := hide ⟨rfl, .inr ⟨wo.heap.size, 0, #[], rfl, Nat.le_refl _, heap_alloc_new wo _, Nat.le_refl _, Nat.zero_le _, rfl, rfl⟩⟩
      have hB0 : Hid (Below wo.heap.size wo (wo.alloc (.cells #[] 2))) := hide ((Below.refl _ _).alloc (Nat.le_refl _) _)
      have HBX := hide hb
      have HOUT := hide ho
      have HRW := hide hrows
      have HDR := hide hD
      clear hb ho hrows hD
      go_wp2_with fail
      go_loopw [7, 8] (fun v i wr => ∃ (j : Nat) (v0 : Value), v0 = v ∧ j ≤ L.length ∧ i = .int .i64 j ∧ wr.ownsRow wo.heap.size 2 1 v (heapRow kn (L.take j) p).length ((heapRow kn (L.take j) p).map intV) ∧ Below wo.heap.size wo wr) (fun _ i _ => L.length - (intOf i).toNat)
      case atStart => exact ⟨0, _, rfl, Nat.zero_le _, rfl, by simpa [heapRow] using hOWN0.out, hB0.out⟩
      case round =>
        clear hOWN0 hB0
        obtain ⟨j, v, rfl, hj, rfl, hown, hB⟩ := hrel
        have hrl := heapRow_le kn (L.take j) p
        have hrj : (L.take j).length ≤ 39 := by simp; omega
        by_cases hjlt : j < L.length
        · obtain ⟨bz, oz, t, rfl, hct, htj⟩ := (ha.keep (hBr.trans (hB.mono (by omega)))).one hjlt
          have htr := HM.out t (mem_of_get htj.out)
          by_cases hle : (p : Int) + t ≤ kn
          · have hE := hide (heapRow_yes (p := p) htj.out hle)
            go_wp2_with (at_builtin; refine wpList_append_own _ rfl _ _ 26 rfl wo.heap.size 2 i0 (.int .i64 0) 1 8 Try.underlying26 hi hz0 hz1 hz2 rfl (by decide) _ _ _ rfl (hown.alloc _) ⟨wr.heap.size, 0, none⟩ 1 1 [.int .i64 ((p : Int) + t)] rfl rfl (cell_one_new _ _ _) (by simp [Value.oneCell']) (by unfold maxLen; omega) (by omega) (by have := hB.size; simp; omega) ?_)
            intro v' w4 hown' hgrow _
            have hB4 : Below wo.heap.size wo w4 := (hB.alloc hB.size _).grown hgrow (by have := hB.size; simp; omega) (fun j hj => ((hown.alloc (.cells #[Value.int .i64 ((p : Int) + t)] 2)).lt j hj).1)
            have ho4 : Hid (w4.ownsRow wo.heap.size 2 1 v' (heapRow kn (L.take (j + 1)) p).length ((heapRow kn (L.take (j + 1)) p).map intV)) := by
              refine hide ?_
              rw [hE.out]
              simpa [intV] using hown'
            clear hown' hgrow hown hB hrl hrj
            go_wp2_with fail
            go_roundw
            case rel => exact ⟨j + 1, _, rfl, by omega, by go_num, ho4.out, hB4⟩
            case measure => simp [intOf]; omega
          · have ho4 : Hid (wr.ownsRow wo.heap.size 2 1 v (heapRow kn (L.take (j + 1)) p).length ((heapRow kn (L.take (j + 1)) p).map intV)) := by
              refine hide ?_
              rw [heapRow_no htj.out hle]
              exact hown
            clear hown hrl hrj
            go_wp2_with fail
            go_roundw
            case rel => exact ⟨j + 1, _, rfl, by omega, by go_num, ho4.out, hB⟩
            case measure => simp [intOf]; omega
        · obtain rfl : j = L.length := by omega
          rw [List.take_length] at hown hrl
          obtain ⟨av, cv, rfl⟩ := own_form hown
          obtain ⟨zs, hzs⟩ : ∃ zs, zs = heapRow kn L p := ⟨_, rfl⟩
          rw [← hzs] at hown hrl ⊢
          have hbj : wr.heap[w.heap.size + 1 + 1]? = some (.cells #[.slice a1 p c1] 29 (0, 0)) := (hB.block _ (by omega)).trans HBX.out
          have hcj : wr.cell? ⟨w.heap.size + 1 + 1, 0, none⟩ = some (.slice a1 p c1) := by rw [cell_of_row wr (w.heap.size + 1 + 1) 0 _ _ (0, 0) hbj]; rfl
          have hoj := ownsRow_keep HOUT.out hB
          have hrj := HRW.out.keep hB
          have hszj : w.heap.size + 3 ≤ wr.heap.size := Nat.le_trans hszr hB.size
          have hDj := HDR.out.trans (hB.mono (by omega))
          have hlj : w.heap.size + 1 + 1 < wr.heap.size := by omega
          have HOWN := hide hown
          have HRJ := hide hrj
          have HBJ := hide hbj
          have HDJ := hide hDj
          have HZS := hide hzs
          clear hown hrj hbj hDj hzs hB
          go_wp2_with (at_builtin; refine wpList_append_own _ rfl _ _ 22 rfl (w.heap.size + 1) 26 i1 (.slice none 0 0) 1 24 Try.underlying22 hi1 hy0 hy1 hy2 rfl (by decide) _ _ _ rfl (hoj.alloc _) ⟨wr.heap.size, 0, none⟩ 1 1 [.slice av zs.length cv] rfl rfl (cell_one_new _ _ _) (by simp [Value.oneCell']) (by unfold maxLen; omega) (by omega) (by simp; omega) ?_)
          intro v' w5 hown' hgrow _
          have hal : Below wr.heap.size wr (wr.alloc (.cells #[.slice av zs.length cv] 26)) := (Below.refl _ _).alloc (Nat.le_refl _) _
          have hoa := hoj.alloc (.cells #[.slice av zs.length cv] 26)
          have hba : (wr.alloc (.cells #[.slice av zs.length cv] 26)).heap[w.heap.size + 1 + 1]? = some (.cells #[.slice a1 p c1] 29 (0, 0)) := (hal.block _ hlj).trans HBJ.out
          have hb5 : w5.heap[w.heap.size + 1 + 1]? = some (.cells #[.slice a1 p c1] 29 (0, 0)) := (hgrow.block _ (by simp; omega) (box_far hba hoa (by decide))).trans hba
          have hc5 : w5.cell? ⟨w.heap.size + 1 + 1, 0, none⟩ = some (.slice a1 p c1) := by rw [cell_of_row w5 (w.heap.size + 1 + 1) 0 _ _ (0, 0) hb5]; rfl
          have hf5 : w5.frozen? ⟨w.heap.size + 1 + 1, 0, none⟩ = false := frozen_of_row w5 (w.heap.size + 1 + 1) 0 _ _ hb5
          obtain ⟨a6, c6, rfl⟩ := own_form hown'
          have hr5 := (HRJ.out.keep hal).grown hoa hgrow
          have hz5 : w5.ownsRow (w.heap.size + 1) 2 1 (.slice av zs.length cv) zs.length (zs.map intV) := (ownsRow_base (ownsRow_keep HOWN.out hal) (by omega)).kept hgrow (own_apart (HOWN.out.alloc _) hoa (by decide))
          have hzg : (heapRows kn L (kn + 1))[vs.length]? = some zs := by rw [HZS.out, hvl]; simp [heapRows, hlt]
          have hp5 := RowsQ.push (by rw [hvl]; exact hr5) hzg hz5
          have hset := heap_setCell_same w5 (w.heap.size + 1 + 1) 0 _ _ (.slice a6 (p + 1) c6) hb5
          have hown6 : (w5.setCell ⟨w.heap.size + 1 + 1, 0, none⟩ (.slice a6 (p + 1) c6)).ownsRow (w.heap.size + 1) 26 1 (.slice a6 (p + 1) c6) (p + 1) (vs ++ [.slice av zs.length cv]) := by
            refine ⟨hown'.1, ?_⟩
            rcases hown'.2 with h2 | ⟨g', cap, cur, hv', hlo, hg, r⟩
            · exact .inl h2
            · refine .inr ⟨g', cap, cur, hv', hlo, ?_, r⟩
              rw [Below.heap_setCell _ _ _ _ (fun e => by subst e; rw [hb5] at hg; simp at hg)]
              exact hg
          have hDN : Below (w.heap.size + 1) W3 (w5.setCell ⟨w.heap.size + 1 + 1, 0, none⟩ (.slice a6 (p + 1) c6)) :=
            ((HDJ.out.trans (hal.mono (by omega))).grown hgrow (by simp; omega) (fun j hj => (hoa.lt j hj).1)).setCell (p := ⟨w.heap.size + 1 + 1, 0, none⟩) (by simp) _
          have hN : Hid (Under (w5.setCell ⟨w.heap.size + 1 + 1, 0, none⟩ (.slice a6 (p + 1) c6)) (w.heap.size + 1) (w.heap.size + 1 + 1) (heapRows kn L (kn + 1)) (p + 1) ∧ Below (w.heap.size + 1) W3 (w5.setCell ⟨w.heap.size + 1 + 1, 0, none⟩ (.slice a6 (p + 1) c6))) :=
            hide ⟨⟨a6, c6, vs ++ [.slice av zs.length cv], by simpa using hset, by simp [hvl], hown6, by rw [hvl] at hp5; exact hp5.store hb5 (by decide)⟩, hDN⟩
          clear hDN hown6 hset hp5 hzg hz5 hr5 hb5 hba hoa hal hgrow hown' hoj
          go_wp2_with fail
          go_roundw
          case rel => exact ⟨p + 1, by omega, by go_num, hN.out.1, hN.out.2⟩
          case measure => simp [intOf]; omega
    · obtain rfl : p = kn + 1 := by omega
      have hlen : (heapRows kn L (kn + 1)).length = kn + 1 := by simp [heapRows]
      have hU' : Under wo (w.heap.size + 1) (w.heap.size + 1 + 1) (heapRows kn L (kn + 1)) (heapRows kn L (kn + 1)).length := by rw [hlen]; exact hU
      obtain ⟨a1, c1, vs, hb, hvl, ho, hrows⟩ := hU'
      have hc1 : wo.cell? ⟨w.heap.size + 1 + 1, 0, none⟩ = some (.slice a1 (heapRows kn L (kn + 1)).length c1) := by rw [cell_of_row wo (w.heap.size + 1 + 1) 0 _ _ (0, 0) hb]; rfl
      have hRr := (hD.block w.heap.size (by omega)).trans hR.out
      have hcR : wo.cell? ⟨w.heap.size, 0, none⟩ = some (.slice none 0 0) := by rw [cell_of_row wo w.heap.size 0 _ _ (0, 0) hRr]; rfl
      have hfR : wo.frozen? ⟨w.heap.size, 0, none⟩ = false := frozen_of_row wo w.heap.size 0 _ _ hRr
      have hfin : Hid (NewRows (heapRows kn L (kn + 1)) w (.returned (.agg #[.slice a1 (heapRows kn L (kn + 1)).length c1])) (wo.setCell ⟨w.heap.size, 0, none⟩ (.slice a1 (heapRows kn L (kn + 1)).length c1))) := by
        refine hide ⟨a1, c1, rfl, ?_, hBr.setCell (p := ⟨w.heap.size, 0, none⟩) (Nat.le_refl _) _⟩
        intro W hW
        have hag : ∀ b, w.heap.size + 1 ≤ b → W.heap[b]? = wo.heap[b]? := fun b hb => (hW b (by omega)).trans (Below.heap_setCell _ _ _ _ (by simp; omega))
        exact rows_read (ownsRow_agree ho hag) (hrows.agree hag)
      have HLEN := hide hlen
      clear hU hb ho hrows hvl hRr hD hlen
      go_wp2_with fail
      exact bodyPost_ret (v := .agg #[.slice a1 (heapRows kn L (kn + 1)).length c1]) (by simp [results, Try.results68, go_sem, hcR]) rfl hfin.out

/-- Is the list as told from its k-th number on, the one before it being 'low - 1'? -/
theorem ascB_step {L : List Int} {i : Nat} {x low : Int} (h : L[i]? = some x) : ascB low 39 (L.drop i) = if x < low ∨ 39 < x then false else ascB (x + 1) 39 (L.drop (i + 1)) := by
  rw [drop_of_get h]
  by_cases hx : x < low ∨ 39 < x
  · rw [if_pos hx, ascB_no hx]
  · rw [if_neg hx, ascB_go (by omega) (by omega)]

theorem quiet_keep {a b c : World} {B : Nat} (h : Below B a b) (k : Quiet b c) : Below B a c := h.trans k.below
theorem l01In_quiet (n low high : Int) (w : World) :
    Calls Try.prog 67 #[.int .i64 n, .int .i64 low, .int .i64 high] w fun e w' => e = .returned (.bool (decide (low ≤ n) && decide (n ≤ high))) ∧ Quiet w w' :=
  (l01In_any n low high w).mono fun _ _ h => ⟨h.1, by rw [← h.2]; exact Quiet.refl _⟩
theorem l01In_yes (n low high : Int) (w : World) (h1 : low ≤ n) (h2 : n ≤ high) :
    Calls Try.prog 67 #[.int .i64 n, .int .i64 low, .int .i64 high] w fun e w' => e = .returned (.bool true) ∧ Quiet w w' :=
  (l01In_quiet n low high w).mono fun _ _ h => ⟨by rw [h.1, decide_eq_true h1, decide_eq_true h2]; rfl, h.2⟩
theorem l01In_no (n low high : Int) (w : World) (h : ¬ (low ≤ n ∧ n ≤ high)) :
    Calls Try.prog 67 #[.int .i64 n, .int .i64 low, .int .i64 high] w fun e w' => e = .returned (.bool false) ∧ Quiet w w' :=
  (l01In_quiet n low high w).mono fun _ _ hh => ⟨by
    rw [hh.1]
    by_cases h1 : low ≤ n
    · rw [decide_eq_false (p := n ≤ high) (fun h2 => h ⟨h1, h2⟩)]; simp
    · rw [decide_eq_false h1]; rfl, hh.2⟩

set_option maxRecDepth 100000 in
set_option maxHeartbeats 4000000 in
theorem specHeap_any (a : Option Addr) (c : Nat) (k : Int) (L : List Int) (w : World) (ha : IntsAt w a L) (hl : L.length ≤ 1048576) :
    Calls Try.prog 26 #[.int .i64 k, .slice a L.length c] w (NewRowsC (heapR k L) w) := by
  obtain ⟨r, hr⟩ : ∃ r, r = heapR k L := ⟨_, rfl⟩
  rw [← hr]
  unfold heapR at hr
  have hB0 : Below w.heap.size w (w.alloc (.cells #[.slice none 0 0] 29)) := (Below.refl _ _).alloc (Nat.le_refl _) _
  have hno : ∀ w', Below w.heap.size w w' → NewRowsC ([], 2) w (.returned (.tuple #[.agg #[.slice none 0 0], .int .i64 2])) w' := fun w' h => ⟨none, 0, rfl, RowsAt.nil _ _, h⟩
  have HNO := hide hno
  clear hno
  by_cases hk : 0 ≤ k ∧ k ≤ 39
  · obtain ⟨hk0, hk1⟩ := hk
    obtain ⟨kn, rfl⟩ := Int.eq_ofNat_of_zero_le hk0
    have hin : (decide ((0 : Int) ≤ (kn : Int)) && decide ((kn : Int) ≤ 39)) = true := by rw [decide_eq_true hk0, decide_eq_true hk1]; rfl
    have hokk : heapOk (kn : Int) L = ascB 1 39 L := by unfold heapOk; rw [decide_eq_true hk0, decide_eq_true hk1]; rfl
    rw [hokk] at hr
    have HR := hide hr
    have HIN := hide hin
    clear hokk hr hin
    go_enter Try.func26, Try.ntmps26
    go_wp2_with fail
    refine (l01In_any _ _ _ _).mono ?_
    rw [HIN.out]
    rintro e w1 ⟨rfl, hw1⟩
    have hB1 : Below w.heap.size w w1 := by rw [← hw1]; exact hB0
    have hR1 : w1.heap[w.heap.size]? = some (.cells #[.slice none 0 0] 29 (0, 0)) := by rw [← hw1]; exact heap_alloc_new w _
    have hR1' := hide hR1
    have hlt1 : w.heap.size < w1.heap.size := block_lt hR1
    clear hw1 hB0 hR1
    go_wp2_with fail
    go_loopw [6] (fun i wr => ∃ (j : Nat) (low : Int), j ≤ L.length ∧ i = .int .i64 j ∧ Hid (ascB low 39 (L.drop j) = ascB 1 39 L) ∧ Hid (j = 0 ∧ low = 1 ∨ ∃ x, 0 < j ∧ L[j - 1]? = some x ∧ low = x + 1 ∧ 1 ≤ x ∧ x ≤ 39) ∧ Below w1.heap.size w1 wr) (fun i _ => L.length - (intOf i).toNat)
    case atStart => exact ⟨0, 1, Nat.zero_le _, rfl, by rw [List.drop_zero]; rfl, .inl ⟨rfl, rfl⟩, Below.refl _ _⟩
    case round =>
      obtain ⟨j, low, hj, rfl, HA, HL, hD⟩ := hrel
      have hBr : Below w.heap.size w wr := hB1.trans (hD.mono (by omega))
      have hRr := (hD.block w.heap.size hlt1).trans hR1'.out
      have hcR : wr.cell? ⟨w.heap.size, 0, none⟩ = some (.slice none 0 0) := by rw [cell_of_row wr w.heap.size 0 _ _ (0, 0) hRr]; rfl
      have hfR : wr.frozen? ⟨w.heap.size, 0, none⟩ = false := frozen_of_row wr w.heap.size 0 _ _ hRr
      by_cases hjlt : j < L.length
      · obtain ⟨bz, oz, x, rfl, hcx, hxj⟩ := (ha.keep hBr).one hjlt
        have hst := ascB_step (low := low) hxj.out
        have hlow : 1 ≤ low := by
          rcases HL.out with ⟨_, h⟩ | ⟨y, _, _, h, h1, _⟩ <;> omega
        have hj0 : (0 : Int) ≤ (j : Int) := by omega
        have hjn : (j : Int) < (L.length : Int) := by omega
        by_cases hx : 1 ≤ x ∧ x ≤ 39
        · by_cases hxl : x < low
          · -- not ascending
            obtain ⟨m, rfl⟩ : ∃ m, j = m + 1 := by
              rcases HL.out with ⟨h, h2⟩ | ⟨y, h, _⟩
              · omega
              · exact ⟨j - 1, by omega⟩
            obtain ⟨bz2, oz2, y, e2, hcy, hym⟩ := (ha.keep hBr).one (k := m) (by omega)
            cases e2
            have hxy : x ≤ y := by
              rcases HL.out with ⟨h, _⟩ | ⟨y', _, hy', h2, _⟩
              · omega
              · have h3 := hym.out
                rw [Nat.add_sub_cancel] at hy'
                rw [hy'] at h3
                cases h3
                omega
            have hno : ascB 1 39 L = false := by rw [← HA.out, hst, if_pos (.inl hxl)]
            have hr0 := HR.out
            rw [hno] at hr0
            obtain rfl : r = ([], 2) := by simpa using hr0
            have hw1 : IntKind.i64.wrap (((m + 1 : Nat) : Int) - 1) = (m : Int) := by rw [IntWalk.i64_in _ (by omega)]; omega
            have hw2 : IntKind.i64.wrap (m : Int) = (m : Int) := IntWalk.i64_in _ (by omega)
            have hm0 : (0 : Int) ≤ (m : Int) := by omega
            have hmn : (m : Int) < (L.length : Int) := by omega
            have hg0 : decide ((0 : Int) < ((m + 1 : Nat) : Int)) = true := decide_eq_true (by omega)
            have hg1 : decide ((0 : Int) < (m : Int) + 1) = true := decide_eq_true (by omega)
            have hg2 : decide (0 < m + 1) = true := decide_eq_true (by omega)
            have hle : decide (x ≤ y) = true := decide_eq_true hxy
            clear hst hno hr0 HA HL hD hRr
            go_wp2_with fail
            go_quiet ((go_at_call 67; exact Calls.quiet_of (l01In_yes _ _ _ _ hx.1 hx.2)))
            go_wp2_with fail
            exact bodyPost_ret (v := .tuple #[.agg #[.slice none 0 0], .int .i64 2]) (by simp [results, Try.results26, go_sem, hcR]) rfl (HNO.out _ (by first | exact hBr.drew | exact hBr.drew.setCell (p := ⟨w.heap.size, 0, none⟩) (Nat.le_refl _) _ | exact (quiet_keep hBr ⟨_, rfl⟩) | exact (quiet_keep hBr ⟨_, rfl⟩).setCell (p := ⟨w.heap.size, 0, none⟩) (Nat.le_refl _) _))
          · have hgo : Hid (ascB (x + 1) 39 (L.drop (j + 1)) = ascB 1 39 L) := by
              refine hide ?_
              rw [← HA.out, hst, if_neg (by omega)]
            have hL2 : Hid (j + 1 = 0 ∧ x + 1 = 1 ∨ ∃ y, 0 < j + 1 ∧ L[j + 1 - 1]? = some y ∧ x + 1 = y + 1 ∧ 1 ≤ y ∧ y ≤ 39) := hide (.inr ⟨x, by omega, by rw [Nat.add_sub_cancel]; exact hxj.out, rfl, hx.1, hx.2⟩)
            have hDN : Hid (∀ n, Below w1.heap.size w1 (wr.drewN n)) := hide (fun n => below_drewN hD n)
            by_cases hjz : j = 0
            · subst hjz
              rw [Nat.add_zero] at hcx
              clear hst HA HL hD hRr
              go_wp2_with fail
              go_quiet ((go_at_call 67; exact Calls.quiet_of (l01In_yes _ _ _ _ hx.1 hx.2)))
              go_wp2_with fail
              go_roundw
              case rel => exact ⟨0 + 1, x + 1, by omega, by go_num, hgo, hL2, hDN.out _⟩
              case measure => simp [intOf]; omega
            · obtain ⟨m, rfl⟩ : ∃ m, j = m + 1 := ⟨j - 1, by omega⟩
              obtain ⟨bz2, oz2, y, e2, hcy, hym⟩ := (ha.keep hBr).one (k := m) (by omega)
              cases e2
              have hxy : ¬ x ≤ y := by
                rcases HL.out with ⟨h, _⟩ | ⟨y', _, hy', h2, _⟩
                · omega
                · have h3 := hym.out
                  rw [Nat.add_sub_cancel] at hy'
                  rw [hy'] at h3
                  cases h3
                  omega
              have hw1 : IntKind.i64.wrap (((m + 1 : Nat) : Int) - 1) = (m : Int) := by rw [IntWalk.i64_in _ (by omega)]; omega
              have hw2 : IntKind.i64.wrap (m : Int) = (m : Int) := IntWalk.i64_in _ (by omega)
              have hm0 : (0 : Int) ≤ (m : Int) := by omega
              have hmn : (m : Int) < (L.length : Int) := by omega
              have hg0 : decide ((0 : Int) < ((m + 1 : Nat) : Int)) = true := decide_eq_true (by omega)
              have hg1 : decide ((0 : Int) < (m : Int) + 1) = true := decide_eq_true (by omega)
              have hg2 : decide (0 < m + 1) = true := decide_eq_true (by omega)
              have hle : decide (x ≤ y) = false := decide_eq_false hxy
              clear hst HA HL hD hRr
              go_wp2_with fail
              go_quiet ((go_at_call 67; exact Calls.quiet_of (l01In_yes _ _ _ _ hx.1 hx.2)))
              go_wp2_with fail
              go_roundw
              case rel => exact ⟨m + 1 + 1, x + 1, by omega, by go_num, hgo, hL2, hDN.out _⟩
              case measure => simp [intOf]; omega
        · have hno : ascB 1 39 L = false := by rw [← HA.out, hst, if_pos (by omega)]
          have hr0 := HR.out
          rw [hno] at hr0
          obtain rfl : r = ([], 2) := by simpa using hr0
          clear hst hno hr0 HA HL hD hRr
          go_wp2_with fail
          go_quiet ((go_at_call 67; exact Calls.quiet_of (l01In_no _ _ _ _ hx)))
          go_wp2_with fail
          exact bodyPost_ret (v := .tuple #[.agg #[.slice none 0 0], .int .i64 2]) (by simp [results, Try.results26, go_sem, hcR]) rfl (HNO.out _ (by first | exact hBr.drew | exact hBr.drew.setCell (p := ⟨w.heap.size, 0, none⟩) (Nat.le_refl _) _ | exact (quiet_keep hBr ⟨_, rfl⟩) | exact (quiet_keep hBr ⟨_, rfl⟩).setCell (p := ⟨w.heap.size, 0, none⟩) (Nat.le_refl _) _))
      · obtain rfl : j = L.length := by omega
        have hyes : ascB 1 39 L = true := by
          have := HA.out
          rw [List.drop_length] at this
          rw [← this]
          rfl
        have hr0 := HR.out
        rw [hyes] at hr0
        obtain rfl : r = (heapRows kn L (kn + 1), 0) := by simpa using hr0
        have hL : L.length ≤ 39 := by have := ascB_len hyes; omega
        have hcall := hide (l01Heap_any _ c kn L wr (ha.keep hBr) hL (by omega) (ascB_mem hyes))
        have hRr' := hide hRr
        clear hyes hr0 HA HL hD hRr
        go_wp2_with fail
        refine hcall.out.mono ?_
        rintro e w3 ⟨a3, c3, rfl, hg3, hB3⟩
        have hR3 := (hB3.block w.heap.size (block_lt hRr'.out)).trans hRr'.out
        have hc3 : w3.cell? ⟨w.heap.size, 0, none⟩ = some (.slice none 0 0) := by rw [cell_of_row w3 w.heap.size 0 _ _ (0, 0) hR3]; rfl
        have hf3 : w3.frozen? ⟨w.heap.size, 0, none⟩ = false := frozen_of_row w3 w.heap.size 0 _ _ hR3
        have hfin : Hid (NewRowsC (heapRows kn L (kn + 1), 0) w (.returned (.tuple #[.agg #[.slice a3 (heapRows kn L (kn + 1)).length c3], .int .i64 0])) (w3.setCell ⟨w.heap.size, 0, none⟩ (.slice a3 (heapRows kn L (kn + 1)).length c3))) :=
          hide ⟨a3, c3, rfl, hg3 _ (fun b hb => Below.heap_setCell _ _ _ _ (by have := block_lt hRr'.out; simp; omega)), (Below.trans' hBr hB3).setCell (p := ⟨w.heap.size, 0, none⟩) (Nat.le_refl _) _⟩
        clear hg3 hB3 hR3 hcall
        go_wp2_with fail
        exact bodyPost_ret (v := .tuple #[.agg #[.slice a3 (heapRows kn L (kn + 1)).length c3], .int .i64 0]) (by simp [results, Try.results26, go_sem, hc3]) rfl hfin.out
  · have e : heapOk k L = false := by
      unfold heapOk
      by_cases h0 : 0 ≤ k
      · rw [decide_eq_false (p := k ≤ 39) (by omega)]; simp
      · rw [decide_eq_false h0]; rfl
    have hin : (decide ((0 : Int) ≤ k) && decide (k ≤ 39)) = false := by
      by_cases h0 : 0 ≤ k
      · rw [decide_eq_false (p := k ≤ 39) (by omega)]; simp
      · rw [decide_eq_false h0]; rfl
    rw [e] at hr
    obtain rfl : r = ([], 2) := by simpa using hr
    have HIN := hide hin
    clear hr e hin hk
    go_enter Try.func26, Try.ntmps26
    go_wp2_with fail
    refine (l01In_any _ _ _ _).mono ?_
    rw [HIN.out]
    rintro e w1 ⟨rfl, rfl⟩
    go_wp2_with fail
    exact bodyPost_ret (v := .tuple #[.agg #[.slice none 0 0], .int .i64 2]) (by simp [results, Try.results26, go_sem]) rfl (HNO.out _ (by first | exact hB0 | exact (hB0.setCell (p := ⟨w.heap.size, 0, none⟩) (Nat.le_refl _) _)))
end Go.Proofs.Ytlgogpphlnogoaa
