/-
  CrossedSquares, both texts.
-/
import Derived.Test.YtmoekjgnichgnaaDoorOp
import Derived.Test.YtmoekjgnichgnaaDoorSv
namespace Go.Proofs.YtmoekjgnichgnaaDoor
open Go.RowKit Go.Shelf
attribute [local go_sem] Oper.semAt_some
set_option linter.unusedVariables false

def csR (ss : List ByteArray) (c : Cr) (mv : Int) : List (List Int) × Int := if movC ss c mv = 0 then ((crs c.x c.y (c.nu mv) (c.nv mv)).map two, 0) else ([], movC ss c mv)
theorem nu_rg {ss : List ByteArray} {c : Cr} {mv : Int} (hs : shp ss = true) (h : okCr ss c = true) (h0 : 0 ≤ mv) (h8 : mv ≤ 8) : (-6 ≤ c.nu mv ∧ c.nu mv ≤ 6) ∧ (-6 ≤ c.nv mv ∧ c.nv mv ≤ 6) := by
  obtain ⟨_, _, hu, hv⟩ := okCr_rg hs h
  unfold Cr.nu Cr.nv
  omega
theorem two_le {L : List (Int × Int)} : ∀ zs ∈ L.map two, zs.length ≤ 2 := by
  intro zs hz
  obtain ⟨p, _, rfl⟩ := List.mem_map.1 hz
  exact Nat.le_refl _
theorem csR_le (ss : List ByteArray) (c : Cr) (mv : Int) : (csR ss c mv).1.length ≤ 6 ∧ ∀ zs ∈ (csR ss c mv).1, zs.length ≤ 2 := by
  unfold csR
  split
  · rename_i h
    obtain ⟨h1, h0, h8⟩ := movC_zero h
    obtain ⟨ht, hok⟩ := carC_zero h1
    obtain ⟨hu, hv⟩ := nu_rg (trk_shp ht) hok h0 h8
    refine ⟨?_, two_le⟩
    show ((crs c.x c.y (c.nu mv) (c.nv mv)).map two).length ≤ 6
    rw [List.length_map, crs_len]
    have := spd_le hu hv
    omega
  · exact ⟨by simp, by simp⟩
theorem newRows_nil (W W' : World) (k : Int) (h : Below W.heap.size W W') : NewRows ([], k) W (.returned (.tuple #[.slice none 0 0, .int .i64 k])) W' := ⟨none, 0, [], rfl, RowsO.nil _ _, h⟩

/-! ### the program's -/
def cvals {x y u v : Int} (l : List (Cs x y u v)) : List (List Int) := l.map fun z => two z.1
theorem cvals_snoc {x y u v : Int} (l : List (Cs x y u v)) (z : Cs x y u v) : cvals (l ++ [z]) = cvals l ++ [two z.1] := by simp [cvals]
theorem cvals_len {x y u v : Int} (l : List (Cs x y u v)) : (cvals l).length = l.length := by simp [cvals]
theorem cvals_all {x y u v : Int} {l : List (Cs x y u v)} (h : l.map (·.1) = crs x y u v) : cvals l = (crs x y u v).map two := by
  rw [← h]
  simp [cvals]
theorem RowsO.kept {B : Nat} {w w' : World} {v : Value} {vs : List Value} {xss : List (List Int)} {row : Option Nat} (h : RowsO B w v vs xss) (hg : w.grownBy w' row) (hr : ∀ r, row = some r → ∃ o : Obj, w.heap[r]? = some o ∧ o.isCells = false) : RowsO B w' v vs xss := by
  have hk : ∀ {n : Nat} {e : TypeId} {u : Value} {xs : List Value}, w.ownsRow B e 1 u n xs → w'.ownsRow B e 1 u n xs := by
    intro n e u xs ho
    refine ho.kept hg ?_
    cases hv : u.ownBlock with
    | none => simp
    | some j =>
      refine .inr (fun e => ?_)
      obtain ⟨o, hh, hc⟩ := hr j e.symm
      rw [own_cells ho j o hv hh] at hc
      cases hc
  exact ⟨⟨h.l.len, hk h.l.own, fun i u zs hi hz => hk (h.l.rows i u zs hi hz)⟩, h.nod⟩
/-- Between two rounds of the loop: the box of the list, the list of rows; all that was there as it was. -/
def MidR (xss : List (List Int)) (N : Nat) (W0 W : World) : Prop :=
  ∃ v vs, W.heap[N]? = some (.cells #[v] 32 (0, 0)) ∧ RowsO (N + 3) W v vs xss ∧ N + 3 ≤ W.heap.size ∧ Below N W0 W
theorem MidR.grown {xss : List (List Int)} {N B : Nat} {W0 W W' : World} {row : Option Nat} (h : MidR xss N W0 W) (hB : N < B) (hg : W.grownBy W' row) (hr : ∀ r, row = some r → B ≤ r ∧ ∃ o : Obj, W.heap[r]? = some o ∧ o.isCells = false) : MidR xss N W0 W' := by
  obtain ⟨v, vs, h1, h2, h3, h4⟩ := h
  exact ⟨v, vs, (hg.block N (by omega) (fun e => by have := (hr N e.symm).1; omega)).trans h1, h2.kept hg (fun r e => (hr r e).2), by have := hg.size; omega, h4.trans ⟨hg.os, hg.tape, hg.output, hg.size, fun k hk => hg.block k (by omega) (fun e => by have := (hr k e.symm).1; omega)⟩⟩

theorem RowsO.same {B : Nat} {w w' : World} {v : Value} {vs : List Value} {xss : List (List Int)} (h : RowsO B w v vs xss) (hk : ∀ (k : Nat) (cs : Array Value) (t : TypeId), (t = 2 ∨ t = 39) → w.heap[k]? = some (.cells cs t (0, 0)) → w'.heap[k]? = some (.cells cs t (0, 0))) : RowsO B w' v vs xss := by
  have hh : ∀ {n : Nat} {e : TypeId} {u : Value} {xs : List Value}, (e = 2 ∨ e = 39) → w.ownsRow B e 1 u n xs → w'.ownsRow B e 1 u n xs := by
    intro n e u xs he ho
    refine ⟨ho.1, ?_⟩
    rcases ho.2 with h2 | ⟨g, cap, cur, hv, hg, hr, r⟩
    · exact .inl h2
    · exact .inr ⟨g, cap, cur, hv, hg, hk _ _ _ he hr, r⟩
  exact ⟨⟨h.l.len, hh (.inr rfl) h.l.own, fun i u zs hi hz => hh (.inl rfl) (h.l.rows i u zs hi hz)⟩, h.nod⟩
theorem rowsO_set {B b : Nat} {w : World} {v x : Value} {vs : List Value} {xss : List (List Int)} (hb : w.heap[b]? = some (.cells #[x] 32 (0, 0))) (h : RowsO B w v vs xss) (hB : b < B) (y : Value) : RowsO B (w.setCell ⟨b, 0, none⟩ y) v vs xss :=
  h.same fun k cs t ht hr => (Below.heap_setCell _ _ _ _ (fun e => by
    have e2 : k = b := e
    rw [e2, hb] at hr
    simp only [Option.some.injEq, Obj.cells.injEq] at hr
    obtain ⟨_, h2, _⟩ := hr
    rcases ht with rfl | rfl
    · exact absurd h2 (by decide)
    · exact absurd h2 (by decide))).trans hr
theorem rowsO_put {B D : Nat} {w : World} {o o' : Obj} {v : Value} {vs : List Value} {xss : List (List Int)} (h : RowsO B w v vs xss) (hD : w.heap[D]? = some o) (ho : o.isCells = false) : RowsO B (w.putObj D o') v vs xss :=
  h.same fun k cs t ht hr => (World.putObj_heap_other (fun e => by
    have e2 : k = D := e
    rw [e2, hD] at hr
    cases hr
    cases ho)).trans hr

set_option maxRecDepth 100000 in
set_option maxHeartbeats 8000000 in
theorem implCrossedSquares_any (a : Option Addr) (c : Nat) (ss : List ByteArray) (x y u v mv : Int) (W : World) (ha : StrsAt W a ss) (hl : ss.length ≤ 1048576) (hz : ∀ s ∈ ss, s.size ≤ 1048576) (hcap : ss.length ≤ c) :
    Calls Tryd.prog 25 #[.slice a ss.length c, .agg #[.int .i64 x, .int .i64 y, .int .i64 u, .int .i64 v], .int .i64 mv] W (NewRows (csR ss ⟨x, y, u, v⟩ mv) W) := by
  obtain ⟨W0, hW0, hb0, hr0⟩ := carBox W x y u v
  have HB0 := hide hb0
  have HA := hide (ha.keep hb0)
  have HR0 := hide hr0
  have HCC := hide (checkMove_any a c ss x y u v mv W0 HA.out hl hz hcap)
  obtain ⟨d0, d1, d2, d3⟩ := row4 hr0
  rw [hW0] at d0 d1 d2 d3
  obtain ⟨k, hk⟩ : ∃ k, k = movC ss ⟨x, y, u, v⟩ mv := ⟨_, rfl⟩
  by_cases h0 : k = 0
  · subst h0
    obtain ⟨hcar, hm0, hm8⟩ := movC_zero hk.symm
    obtain ⟨htk, hok⟩ := carC_zero hcar
    have hs := trk_shp htk
    obtain ⟨⟨x0, x1⟩, ⟨y0, y1⟩, hu5, hv5⟩ := okCr_rg hs hok
    dsimp only at x0 x1 y0 y1 hu5 hv5
    obtain ⟨nu, hnu⟩ : ∃ nu, (⟨x, y, u, v⟩ : Cr).nu mv = nu := ⟨_, rfl⟩
    obtain ⟨nv, hnv⟩ : ∃ nv, (⟨x, y, u, v⟩ : Cr).nv mv = nv := ⟨_, rfl⟩
    have hfin : Hid (csR ss ⟨x, y, u, v⟩ mv = ((crs x y nu nv).map two, 0)) := hide (by unfold csR; rw [if_pos hk.symm, hnu, hnv])
    rw [← hk] at HCC
    rw [hfin.out]
    clear ha hr0 hb0 hl hz hk htk hcap hcar
    obtain ⟨i0, hi0, hz0, hz1, hz2⟩ := info_parts infoRow
    refine (callsIn_wide (n := 6)).1 ?_
    refine callsIn_of_wp_marks Tryd.func25 rfl trivial ?_ rfl
    simp only [Tryd.ntmps25, List.size_toArray, List.length_cons, List.length_nil, Nat.reduceAdd, Nat.reduceSub, Array.replicate_succ, Array.replicate_zero, List.push_toArray, List.append_toArray, List.nil_append, List.cons_append]
    gi_wp2
    rw [← hW0]
    clear hW0
    (try gi_wp2)
    refine ⟨trivial, ?_⟩
    gi_at_call 61
    refine (callsIn_wide.2 HCC.out).mono ?_
    rintro e w1 ⟨rfl, hb1⟩
    have HB1 := hide (Below.trans' HB0.out hb1)
    have HR1 := hide (box_keep HR0.out hb1)
    clear hb1 d0 d1 d2 d3
    obtain ⟨W2, hW2⟩ : ∃ W2, W2 = w1.alloc (.cells #[.slice none 0 0] 32) := ⟨_, rfl⟩
    have hs2 : W2.heap.size = w1.heap.size + 1 := by rw [hW2]; simp
    have HB2 : Hid (Below w1.heap.size w1 W2) := by rw [hW2]; exact hide (below_alloc _ _)
    have HR2 : Hid (W2.heap[w1.heap.size]? = some (.cells #[.slice none 0 0] 32 (0, 0))) := by rw [hW2]; exact hide (row_new _ _ _)
    obtain ⟨d0, d1, d2, d3⟩ := row4 (box_keep HR1.out HB2.out)
    rw [hW2] at d0 d1 d2 d3
    gi_wp2
    rw [← hW2]
    (try gi_wp2)
    clear d0 d1 d2 d3 hW2
    refine ⟨trivial, ?_⟩
    gi_at_call 62
    refine (callsIn_wide.2 (crossed_any _ _ _ _ _ _)).mono ?_
    rintro e w3 ⟨rfl, hw3⟩
    have hs3 : w3.heap.size = w1.heap.size + 3 := by rw [← hw3]; simp; omega
    have HB3 : Hid (Below W2.heap.size W2 w3) := by rw [← hw3]; exact hide ((below_alloc _ _).alloc (by simp) _)
    have hBc : w3.heap[W2.heap.size]? = some (.cells #[.int .i64 x, .int .i64 y, .int .i64 u, .int .i64 v] 28 (0, 0)) := by rw [← hw3]; exact row_up _ (row_new _ _ _)
    have hBm : w3.heap[W2.heap.size + 1]? = some (.cells #[.int .i64 mv] 2 (0, 0)) := by
      have := row_new (W2.alloc (.cells #[.int .i64 x, .int .i64 y, .int .i64 u, .int .i64 v] 28)) #[.int .i64 mv] 2
      rw [← hw3]
      simpa using this
    have h23 : Below w1.heap.size w1 w3 := Below.trans' HB2.out HB3.out
    have hM0 : MidR [] w1.heap.size w1 w3 := ⟨_, [], box_keep HR2.out HB3.out, RowsO.nil _ _, by omega, h23⟩
    clear hw3
    (try gi_wp2)
    rw [hs2] at hBc hBm
    refine wpIn_rangeFunc_ownF (F := Fence.wide) rfl (by omega) (gf := 107) (lb := #[.pointer (some ⟨w1.heap.size + 1, 0, none⟩), .pointer (some ⟨w1.heap.size + 1 + 1, 0, none⟩)]) rfl trivial (enters_of Tryd.func107 (by kernel_rfl) rfl)
      (crs_stops 5 (by omega) (w1.heap.size + 1) (w1.heap.size + 1 + 1) w1.heap.size x y u v mv nu nv (by unfold Rg; omega) (by unfold Rg; omega) hu5 hv5 hm0 hm8 hnu hnv w3 hBc hBm (by omega)) KeepB.trans (keepB_b (by omega) (by omega) (by omega)) (Below.refl _ _) (fun _ => rfl)
      (fun pre V => MidR (cvals pre) w1.heap.size w1 V)
      (fun _ _ _ => False)
      (fun s V V' row hs hg hr => MidR.grown (xss := cvals s) hs (B := w3.heap.size) (by omega) hg hr)
      (fun _ _ _ _ _ hs _ _ => hs)
      hM0
      (fun z => { tmps := #[.slice a ss.length c, .agg #[.int .i64 x, .int .i64 y, .int .i64 u, .int .i64 v], .int .i64 mv, undef, .pointer (some ⟨W.heap.size, 0, none⟩), undef, .slice none 0 0, .int .i64 0, .int .i64 0, .pointer (some ⟨w1.heap.size, 0, none⟩), .int .i64 z.1.1, .int .i64 z.1.2, .slice a ss.length c, .agg #[.int .i64 x, .int .i64 y, .int .i64 u, .int .i64 v], .int .i64 mv, .int .i64 0, .int .i64 0, .bool false, undef, .agg #[.int .i64 x, .int .i64 y, .int .i64 u, .int .i64 v], .int .i64 mv, .func (.func 107) #[] #[.pointer (some ⟨w1.heap.size + 1, 0, none⟩), .pointer (some ⟨w1.heap.size + 1 + 1, 0, none⟩)], .int .i64 z.1.1, .int .i64 z.1.2, undef, undef, undef, undef, undef, undef, undef], defers := [] }) ?assign ?body ?done ?stop
    case assign =>
      intro l z V K hK
      gi_wp2
      exact hK
    case body =>
      rintro l pre z V hM hlt
      obtain ⟨rv, vs, m1, m2, m3, m4⟩ := hM
      have hM1 := hide m1
      have hM4 := hide m4
      have hM2 := hide m2
      obtain ⟨c0, f0⟩ := row1 m1
      have hl6 : (cvals pre).length ≤ 6 := by rw [cvals_len]; omega
      have HV := hide (cvals_snoc pre z)
      obtain ⟨xss, hxs⟩ : ∃ xss, xss = cvals pre := ⟨_, rfl⟩
      rw [← hxs] at hl6 hM2 HV
      obtain ⟨⟨X, Y⟩, hq⟩ : ∃ q, q = z.1 := ⟨_, rfl⟩
      rw [← hq] at HV ⊢
      dsimp only
      obtain ⟨V1, hV1⟩ : ∃ V1, V1 = V.alloc (.cells #[.int .i64 X, .int .i64 Y] 2) := ⟨_, rfl⟩
      have hbV1 : Below V.heap.size V V1 := by rw [hV1]; exact below_alloc _ _
      have HRO4 := hide (hM2.out.keep hbV1)
      have HU : Hid (V1.ownsRow (w1.heap.size + 3) 2 1 (.slice (some ⟨V.heap.size, 0, none⟩) 2 2) 2 ([X, Y].map intV)) := by rw [hV1]; exact hide (own_two V _ _ m3)
      have hnew : Hid (∀ x' ∈ vs, ∀ g, x'.ownBlock = some g → (Value.slice (some ⟨V.heap.size, 0, none⟩) 2 2).ownBlock ≠ some g) := hide (fun x' hx' g hg e => by
        have h1 := hM2.out.lt x' hx' g hg
        simp [Value.ownBlock] at e
        omega)
      have hown := HRO4.out.l.own
      have hVe := hide hV1
      have HB1V := hide hbV1
      have hs1 : V1.heap.size = V.heap.size + 1 := by rw [hV1]; simp
      rw [hV1] at hown
      clear m1 m2 m4 hq hxs hM0 hBm hBc h23 hbV1 hV1
      gi_wp2_with (first | (with_reducible refine leadAny _ ?_) | (refine wpListIn_append_own _ rfl _ _ 32 rfl (w1.heap.size + 3) 39 i0 (.slice none 0 0) 1 24 Tryd.underlying32 hi0 hz0 hz1 hz2 rfl (by decide) _ _ _ rfl (hown.alloc _) ⟨V.heap.size + 1, 0, none⟩ 1 1 [.slice (some ⟨V.heap.size, 0, none⟩) 2 2] rfl rfl (by have := cell_one_new (V.alloc (.cells #[.int .i64 X, .int .i64 Y] 2)) (.slice (some ⟨V.heap.size, 0, none⟩) 2 2) 39; simpa using this) (by simp [Value.oneCell']) (by unfold maxLen; omega) (by omega) (by simp; omega) ?_))
      intro v'0 w5 hown' hgrow _
      rw [← hVe.out] at hgrow
      obtain ⟨av', cv', rfl⟩ := own_form hown'
      obtain ⟨v', hv'⟩ : ∃ v', v' = Value.slice av' (xss.length + 1) cv' := ⟨_, rfl⟩
      have hR7 := hide (RowsO.snoc (u := .slice (some ⟨V.heap.size, 0, none⟩) 2 2) (zs := [X, Y]) HRO4.out HU.out hnew.out (by simpa using hown') hgrow)
      rw [← hv'] at hR7
      have hlt5 : ∀ j, rv.ownBlock = some j → w1.heap.size + 3 ≤ j := fun j e => ((hM2.out.l.own).lt _ e).1
      have hne : rv.ownBlock ≠ some w1.heap.size := fun e => by have := hlt5 _ e; omega
      have hG5 : ∀ j, j < V.heap.size → rv.ownBlock ≠ some j → w5.heap[j]? = V.heap[j]? := fun j hj h1 => (hgrow.block j (by simp; omega) (Ne.symm h1)).trans ((Below.heap_alloc _ _ _ (by omega)).trans (HB1V.out.block j hj))
      have hbox5 : w5.heap[w1.heap.size]? = some (.cells #[rv] 32 (0, 0)) := (hG5 _ (by omega) hne).trans hM1.out
      have hb1 : Below w1.heap.size V w5 := ((HB1V.out.mono (by omega)).alloc (by omega) _).trans ⟨hgrow.os, hgrow.tape, hgrow.output, hgrow.size, fun k hk => hgrow.block k (by simp; omega) (fun e => by have := hlt5 _ e.symm; omega)⟩
      have hko5 : KeepsOthers V w5 := by
        rw [hVe.out] at hgrow
        exact ((KeepsOthers.alloc V _).trans (KeepsOthers.alloc _ _)).trans (KeepsOthers.of_grownBy hgrow (own_cells ((hown).alloc _)))
      have HKO := hide hko5
      have HB5 := hide hb1
      have HG5 := hide hG5
      obtain ⟨c5, f5⟩ := row1 hbox5
      have HBX := hide hbox5
      clear hown' hgrow hbox5 c0 f0 hown hko5 hb1 hG5
      gi_wp2_with (with_reducible refine leadAny _ ?_)
      rw [← hv']
      have hout : ∀ j, j < V.heap.size → rv.ownBlock ≠ some j → j ≠ w1.heap.size → (w5.setCell ⟨w1.heap.size, 0, none⟩ v').heap[j]? = V.heap[j]? := fun j hj h1 h2 => (Below.heap_setCell _ _ _ _ h2).trans (HG5.out j hj h1)
      have hb2 : Below w1.heap.size V (w5.setCell ⟨w1.heap.size, 0, none⟩ v') := HB5.out.setCell (p := ⟨w1.heap.size, 0, none⟩) (Nat.le_refl _) _
      have hko : KeepsOthers V (w5.setCell ⟨w1.heap.size, 0, none⟩ v') := HKO.out.trans (KeepsOthers.setCell _ _ _)
      refine ⟨hko, ⟨hb2, hout _ (by omega) (fun e => by have := hlt5 _ e; omega) (by omega), hout _ (by omega) (fun e => by have := hlt5 _ e; omega) (by omega)⟩, ?_⟩
      show MidR _ w1.heap.size w1 _
      rw [HV.out]
      exact ⟨v', _, box_set1 _ HBX.out, rowsO_set HBX.out hR7.out (by omega) v', by have := hko.size; omega, hM4.out.trans hb2⟩
    case done =>
      rintro D ys V hD hys hM hK
      obtain ⟨rv, vs, m1, m2, m3, m4⟩ := hM
      have hlt : w1.heap.size < D := by omega
      have hK2 : V.heap[D]? = some (.deferred (some [])) := hK
      have hys' : cvals ys = (crs x y nu nv).map two := cvals_all hys
      rw [hys'] at m2
      obtain ⟨xss, hxs⟩ : ∃ xss, xss = (crs x y nu nv).map two := ⟨_, rfl⟩
      rw [← hxs] at m2
      have HZS := hide hxs
      obtain ⟨av, cv, rfl⟩ := own_form m2.l.own
      have hp : (V.putObj D (.deferred none)).heap[w1.heap.size]? = some (.cells #[.slice av xss.length cv] 32 (0, 0)) := (World.putObj_heap_other (by omega)).trans m1
      have HB : Hid (Below W.heap.size W (V.putObj D (.deferred none))) := hide (Below.trans' HB1.out (m4.trans (belowK_b (w := w3) (by omega) V D _ _ hD hK2 rfl rfl)))
      have HOW : Hid (RowsO (w1.heap.size + 3) (V.putObj D (.deferred none)) (.slice av xss.length cv) vs xss) := hide (rowsO_put m2 hK2 rfl)
      have hw1 := HB1.out.size
      obtain ⟨c5, f5⟩ := row1 hp
      obtain ⟨c6, f6⟩ := row1 m1
      clear m2 m4 hys hys' hM0 hBm hBc h23 hxs
      gi_wp2
      refine ⟨by simp, .inl ⟨_, _, rfl, run_takeDeferred hK2, ?_⟩⟩
      refine ⟨.tuple #[.slice av xss.length cv, .int .i64 0], by simp [results, Tryd.results25, go_sem], ?_⟩
      have hz := HZS.out
      subst hz
      exact ⟨av, cv, vs, rfl, HOW.out.base (by omega), HB.out⟩
    case stop =>
      rintro D c pre V hD _ h hK
      exact h.elim
  · have hfin : Hid (csR ss ⟨x, y, u, v⟩ mv = ([], k)) := hide (by unfold csR; rw [if_neg (by rw [← hk]; exact h0), hk])
    rw [← hk] at HCC
    rw [hfin.out]
    clear ha hr0 hb0 hl hz hk hcap
    go_enter Tryd.func25, Tryd.ntmps25
    go_wp2_with fail
    rw [← hW0]
    clear hW0
    (try go_wp2_with fail)
    refine HCC.out.mono ?_
    rintro e w1 ⟨rfl, hb1⟩
    have hfin2 := hide (newRows_nil W w1 k (Below.trans' HB0.out hb1))
    clear hb1 d0 d1 d2 d3
    go_wp2_with fail
    go_ret2
    exact hfin2.out
end Go.Proofs.YtmoekjgnichgnaaDoor
