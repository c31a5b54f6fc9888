/-
  OpenMoves, the program's text.
-/
import Derived.Test.YtmoekjgnichgnaaDoorOm
import Derived.Test.YtmoekjgnichgnaaDoorMv
import Derived.Test.YtmoekjgnichgnaaDoorOl
namespace Go.Proofs.YtmoekjgnichgnaaDoor
open Go.RowKit Go.Shelf
attribute [local go_sem] Oper.semAt_some
set_option linter.unusedVariables false

def omR (ss : List ByteArray) (c : Cr) : List Int × Int := if carC ss c = 0 then (opens ss c, 0) else ([], carC ss c)
theorem omR_le (ss : List ByteArray) (c : Cr) : (omR ss c).1.length ≤ 1048576 := by
  unfold omR
  split
  · have := opensTo_len ss c 9
    rw [← opens_all] at this
    show (opens ss c).length ≤ _
    omega
  · simp

theorem opm_stops (m : Nat) (hm : 1 ≤ m) (Bt Bc n₀ : Nat) (a : Option Addr) (c : Nat) (ss : List ByteArray) (x y u v : Int) (hs : shp ss = true) (hok : okCr ss ⟨x, y, u, v⟩ = true) (V0 w : World) (hV0 : V0.heap.size ≤ n₀) (hVW : Below V0.heap.size V0 w) (ha : StrsAt V0 a ss)
    (hBt : w.heap[Bt]? = some (.cells #[.slice a ss.length c] 63 (0, 0))) (hBc : w.heap[Bc]? = some (.cells #[.int .i64 x, .int .i64 y, .int .i64 u, .int .i64 v] 28 (0, 0))) (hn₀ : n₀ ≤ w.heap.size) :
    SeqStopsK Fence.wide m Tryd.prog 110 #[.pointer (some ⟨Bt, 0, none⟩), .pointer (some ⟨Bc, 0, none⟩)] (fun z : Om ss ⟨x, y, u, v⟩ => #[Value.int .i64 z.1, crV ((⟨x, y, u, v⟩ : Cr).go z.1)]) (KeepB n₀ Bt Bc)
      (fun ys => ys.map (·.1) = opens ss ⟨x, y, u, v⟩) (fun _ => True) 9 w := fun l J Jx W hW hJ _ hY h0' =>
  opm_in m hm l Bt Bc n₀ a c ss x y u v hs hok J Jx (fun s A C hs hb => hJ s A C none hs (below_grownBy hb) (fun r e => by cases e)) hY W V0 hV0 (Below.trans' hVW hW) ha (box_keep hBt hW) (box_keep hBc hW) (by have := hW.size; omega) h0'

def mvals {ss : List ByteArray} {c : Cr} (l : List (Om ss c)) : List Int := l.map (·.1)
theorem mvals_snoc {ss : List ByteArray} {c : Cr} (l : List (Om ss c)) (x : Om ss c) : mvals (l ++ [x]) = mvals l ++ [x.1] := by simp [mvals]
theorem mvals_len {ss : List ByteArray} {c : Cr} (l : List (Om ss c)) : (mvals l).length = l.length := by simp [mvals]
/-- Between two rounds of the loop: the box of the list, the list; all that was there as it was. -/
def MidM (zs : List Int) (N : Nat) (W0 W : World) : Prop :=
  ∃ v, W.heap[N]? = some (.cells #[v] 39 (0, 0)) ∧ W.ownsRow (N + 3) 2 1 v zs.length (zs.map intV) ∧ N + 3 ≤ W.heap.size ∧ Below N W0 W
theorem own_cells {w : World} {base n : Nat} {e : TypeId} {v : Value} {xs : List Value} (h : w.ownsRow base e 1 v n xs) : ∀ (j : Nat) (o : Obj), v.ownBlock = some j → w.heap[j]? = some o → o.isCells = true := by
  intro j o hj ho
  rcases h.2 with ⟨hv, _⟩ | ⟨g, cap, cur, hv, _, hh, _⟩
  · rw [hv] at hj; simp [Value.ownBlock] at hj
  · rw [hv] at hj
    simp [Value.ownBlock] at hj
    subst hj
    rw [hh] at ho
    cases ho
    rfl
theorem MidM.grown {zs : List Int} {N B : Nat} {W0 W W' : World} {row : Option Nat} (h : MidM zs N W0 W) (hB : N < B) (hg : W.grownBy W' row) (hr : ∀ r, row = some r → B ≤ r ∧ ∃ o : Obj, W.heap[r]? = some o ∧ o.isCells = false) : MidM zs N W0 W' := by
  obtain ⟨v, h1, h2, h3, h4⟩ := h
  refine ⟨v, (hg.block N (by omega) (fun e => by have := (hr N e.symm).1; omega)).trans h1, h2.kept hg ?_, by have := hg.size; omega, h4.trans ⟨hg.os, hg.tape, hg.output, hg.size, fun k hk => hg.block k (by omega) (fun e => by have := (hr k e.symm).1; omega)⟩⟩
  cases hv : v.ownBlock with
  | none => simp
  | some j =>
    refine .inr (fun e => ?_)
    obtain ⟨_, o, ho, hc⟩ := hr j e.symm
    rw [own_cells h2 j o hv ho] at hc
    cases hc

set_option maxRecDepth 100000 in
set_option maxHeartbeats 8000000 in
theorem implOpenMoves_any (a : Option Addr) (c : Nat) (ss : List ByteArray) (x y u v : Int) (W : World) (ha : StrsAt W a ss) (hl : ss.length ≤ 1048576) (hz : ∀ s ∈ ss, s.size ≤ 1048576) (hcap : ss.length ≤ c) :
    Calls Tryd.prog 31 #[.slice a ss.length c, .agg #[.int .i64 x, .int .i64 y, .int .i64 u, .int .i64 v]] W (NewList (omR ss ⟨x, y, u, v⟩) W) := by
  obtain ⟨W0, hW0, hb0, hr0⟩ := carBox W x y u v
  have HB0 := hide hb0
  have HA := hide (ha.keep hb0)
  have HR0 := hide hr0
  have HCC := hide (checkCar_any a c ss x y u v W0 HA.out hl hz hcap)
  obtain ⟨d0, d1, d2, d3⟩ := row4 hr0
  rw [hW0] at d0 d1 d2 d3
  obtain ⟨k, hk⟩ : ∃ k, k = carC ss ⟨x, y, u, v⟩ := ⟨_, rfl⟩
  by_cases h0 : k = 0
  · subst h0
    obtain ⟨htk, hok⟩ := carC_zero hk.symm
    have hs := trk_shp htk
    have hfin : Hid (omR ss ⟨x, y, u, v⟩ = (opens ss ⟨x, y, u, v⟩, 0)) := hide (by unfold omR; rw [if_pos hk.symm])
    rw [← hk] at HCC
    rw [hfin.out]
    clear ha hr0 hb0 hl hz hk htk hcap
    obtain ⟨i0, hi0, hz0, hz1, hz2⟩ := info_parts Tryd.info2
    refine (callsIn_wide (n := 6)).1 ?_
    refine callsIn_of_wp_marks Tryd.func31 rfl trivial ?_ rfl
    simp only [Tryd.ntmps31, List.size_toArray, List.length_cons, List.length_nil, Nat.reduceAdd, Nat.reduceSub, Array.replicate_succ, Array.replicate_zero, List.push_toArray, List.append_toArray, List.nil_append, List.cons_append]
    gi_wp2
    rw [← hW0]
    clear hW0
    (try gi_wp2)
    refine ⟨trivial, ?_⟩
    gi_at_call 65
    refine (callsIn_wide.2 HCC.out).mono ?_
    rintro e w1 ⟨rfl, hb1⟩
    have HB1 := hide (Below.trans' HB0.out hb1)
    have HA1 := hide (HA.out.keep hb1)
    have HR1 := hide (box_keep HR0.out hb1)
    clear hb1 d0 d1 d2 d3
    obtain ⟨W2, hW2⟩ : ∃ W2, W2 = w1.alloc (.cells #[.slice none 0 0] 39) := ⟨_, rfl⟩
    have hs2 : W2.heap.size = w1.heap.size + 1 := by rw [hW2]; simp
    have HB2 : Hid (Below w1.heap.size w1 W2) := by rw [hW2]; exact hide (below_alloc _ _)
    have HR2 : Hid (W2.heap[w1.heap.size]? = some (.cells #[.slice none 0 0] 39 (0, 0))) := by rw [hW2]; exact hide (row_new _ _ _)
    obtain ⟨d0, d1, d2, d3⟩ := row4 (box_keep HR1.out HB2.out)
    rw [hW2] at d0 d1 d2 d3
    gi_wp2
    rw [← hW2]
    (try gi_wp2)
    clear d0 d1 d2 d3 hW2
    refine ⟨trivial, ?_⟩
    gi_at_call 66
    refine (callsIn_wide.2 (openMoves_any _ _ _ _ _ _ _ _)).mono ?_
    rintro e w3 ⟨rfl, hw3⟩
    have hs3 : w3.heap.size = w1.heap.size + 3 := by rw [← hw3]; simp; omega
    have HB3 : Hid (Below W2.heap.size W2 w3) := by rw [← hw3]; exact hide ((below_alloc _ _).alloc (by simp) _)
    have hBt : w3.heap[W2.heap.size]? = some (.cells #[.slice a ss.length c] 63 (0, 0)) := by rw [← hw3]; exact row_up _ (row_new _ _ _)
    have hBc : w3.heap[W2.heap.size + 1]? = some (.cells #[.int .i64 x, .int .i64 y, .int .i64 u, .int .i64 v] 28 (0, 0)) := by
      have := row_new (W2.alloc (.cells #[.slice a ss.length c] 63)) #[.int .i64 x, .int .i64 y, .int .i64 u, .int .i64 v] 28
      rw [← hw3]
      simpa using this
    have hM0 : MidM [] w1.heap.size w1 w3 := ⟨_, box_keep HR2.out HB3.out, World.ownsRow_nil _ _ _ _, by omega, Below.trans' HB2.out HB3.out |>.mono (Nat.le_refl _)⟩
    have h23 : Below w1.heap.size w1 w3 := Below.trans' HB2.out HB3.out
    clear hw3
    (try gi_wp2)
    rw [hs2] at hBt hBc
    have hRN := HR2.out
    refine wpIn_rangeFunc_ownF (F := Fence.wide) rfl (by omega) (gf := 110) (lb := #[.pointer (some ⟨w1.heap.size + 1, 0, none⟩), .pointer (some ⟨w1.heap.size + 1 + 1, 0, none⟩)]) rfl trivial (enters_of Tryd.func110 (by kernel_rfl) rfl)
      (opm_stops 5 (by omega) (w1.heap.size + 1) (w1.heap.size + 1 + 1) w1.heap.size a c ss x y u v hs hok w1 w3 (Nat.le_refl _) h23 HA1.out hBt hBc (by omega)) KeepB.trans (keepB_b (by omega) (by omega) (by omega)) (Below.refl _ _) (fun _ => rfl)
      (fun pre V => MidM (mvals pre) w1.heap.size w1 V)
      (fun _ _ _ => False)
      (fun s V V' row hs hg hr => MidM.grown (zs := mvals s) hs (B := w3.heap.size) (by omega) hg hr)
      (fun _ _ _ _ _ hs _ _ => hs)
      hM0
      (fun z => { tmps := #[.slice a ss.length c, .agg #[.int .i64 x, .int .i64 y, .int .i64 u, .int .i64 v], undef, .pointer (some ⟨W.heap.size, 0, none⟩), .slice none 0 0, .int .i64 0, .int .i64 0, .pointer (some ⟨w1.heap.size, 0, none⟩), .int .i64 z.1, .slice a ss.length c, .agg #[.int .i64 x, .int .i64 y, .int .i64 u, .int .i64 v], .int .i64 0, .int .i64 0, .bool false, undef, .slice a ss.length c, .agg #[.int .i64 x, .int .i64 y, .int .i64 u, .int .i64 v], .func (.func 110) #[] #[.pointer (some ⟨w1.heap.size + 1, 0, none⟩), .pointer (some ⟨w1.heap.size + 1 + 1, 0, none⟩)], .int .i64 z.1, crV ((⟨x, y, u, v⟩ : Cr).go z.1), undef, undef, undef, undef, undef], defers := [] }) ?assign ?body ?done ?stop
    case assign =>
      intro l z V K hK
      gi_wp2
      exact hK
    case body =>
      rintro l pre z V hM hlt
      obtain ⟨rv, m1, m2, m3, m4⟩ := hM
      have hM1 := hide m1
      have hM4 := hide m4
      have hown := m2
      have hM2 := hide m2
      obtain ⟨c0, f0⟩ := row1 m1
      have hl9 : (mvals pre).length ≤ 9 := by rw [mvals_len]; omega
      have HV := hide (mvals_snoc pre z)
      obtain ⟨zs, hzs⟩ : ∃ zs, zs = mvals pre := ⟨_, rfl⟩
      rw [← hzs] at hl9 hown hM2 HV
      obtain ⟨q, hq⟩ : ∃ q, q = z.1 := ⟨_, rfl⟩
      rw [← hq] at HV ⊢
      obtain ⟨K, hK⟩ : ∃ K, K = (⟨x, y, u, v⟩ : Cr).go q := ⟨_, rfl⟩
      rw [← hK]
      clear m1 m2 m4 hq hzs hK hM0 hBt hBc h23 hRN
      gi_wp2_with (first | (with_reducible refine leadAny _ ?_) | (refine wpListIn_append_own _ rfl _ _ 39 rfl (w1.heap.size + 3) 2 i0 (.int .i64 0) 1 8 Tryd.underlying39 hi0 hz0 hz1 hz2 rfl (by decide) _ _ _ rfl (hown.alloc _) ⟨V.heap.size, 0, none⟩ 1 1 [.int .i64 q] rfl rfl (cell_one_new _ _ _) (by simp [Value.oneCell']) (by unfold maxLen; omega) (by omega) (by simp; omega) ?_))
      intro v'0 w5 hown' hgrow _
      obtain ⟨av', cv', rfl⟩ := own_form hown'
      obtain ⟨v', hv'⟩ : ∃ v', v' = Value.slice av' (zs.length + 1) cv' := ⟨_, rfl⟩
      have hne : rv.ownBlock ≠ some w1.heap.size := fun e => by have := (hM2.out.lt _ e).1; omega
      have hbox5 : w5.heap[w1.heap.size]? = some (.cells #[rv] 39 (0, 0)) := (hgrow.block w1.heap.size (by simp; omega) (Ne.symm hne)).trans ((Below.heap_alloc _ _ _ (by omega)).trans hM1.out)
      have HO5 : Hid (w5.ownsRow (w1.heap.size + 3) 2 1 v' (zs.length + 1) (zs.map intV ++ [.int .i64 q])) := hide (by rw [hv']; simpa using hown')
      have HG := hide hgrow
      obtain ⟨c5, f5⟩ := row1 hbox5
      have HBX := hide hbox5
      clear hown' hgrow hbox5 c0 f0 hown
      gi_wp2_with (with_reducible refine leadAny _ ?_)
      rw [← hv']
      have hout : ∀ j, j < V.heap.size → rv.ownBlock ≠ some j → j ≠ w1.heap.size → (w5.setCell ⟨w1.heap.size, 0, none⟩ v').heap[j]? = V.heap[j]? := fun j hj h1 h2 =>
        (Below.heap_setCell _ _ _ _ h2).trans ((HG.out.block j (by simp; omega) (Ne.symm h1)).trans (Below.heap_alloc _ _ _ hj))
      have hb1 : Below w1.heap.size V w5 := (below_alloc V (.cells #[.int .i64 q] 2)).mono (by omega) |>.trans ⟨HG.out.os, HG.out.tape, HG.out.output, HG.out.size, fun k hk => HG.out.block k (by simp; omega) (fun e => by have := (hM2.out.lt _ e.symm).1; omega)⟩
      have hb2 : Below w1.heap.size V (w5.setCell ⟨w1.heap.size, 0, none⟩ v') := hb1.setCell (p := ⟨w1.heap.size, 0, none⟩) (Nat.le_refl _) _
      have hko : KeepsOthers V (w5.setCell ⟨w1.heap.size, 0, none⟩ v') := ((KeepsOthers.alloc V (.cells #[.int .i64 q] 2)).trans (KeepsOthers.of_grownBy HG.out (own_cells (hM2.out.alloc _)))).trans (KeepsOthers.setCell _ _ _)
      refine ⟨hko, ⟨hb2, hout _ (by omega) (fun e => by have := (hM2.out.lt _ e).1; omega) (by omega), hout _ (by omega) (fun e => by have := (hM2.out.lt _ e).1; omega) (by omega)⟩, ?_⟩
      show MidM _ w1.heap.size w1 _
      rw [HV.out]
      refine ⟨v', box_set1 _ HBX.out, ?_, by have := hko.size; omega, hM4.out.trans hb2⟩
      have := ownsRow_setCell_below HO5.out (a := ⟨w1.heap.size, 0, none⟩) (show w1.heap.size < w1.heap.size + 3 by omega) v'
      simpa [intV] using this
    case done =>
      rintro D ys V hD hys hM hK
      obtain ⟨rv, m1, m2, m3, m4⟩ := hM
      have hlt : w1.heap.size < D := by omega
      have hK2 : V.heap[D]? = some (.deferred (some [])) := hK
      have hys' : mvals ys = opens ss ⟨x, y, u, v⟩ := hys
      rw [hys'] at m2
      obtain ⟨zs, hzs⟩ : ∃ zs, zs = opens ss ⟨x, y, u, v⟩ := ⟨_, rfl⟩
      rw [← hzs] at m2
      have HZS := hide hzs
      obtain ⟨av, cv, rfl⟩ := own_form m2
      have hp : (V.putObj D (.deferred none)).heap[w1.heap.size]? = some (.cells #[.slice av zs.length cv] 39 (0, 0)) := (World.putObj_heap_other (by omega)).trans m1
      have HB : Hid (Below W.heap.size W (V.putObj D (.deferred none))) := hide (Below.trans' HB1.out (m4.trans (belowK_b (w := w3) (by omega) V D _ _ hD hK2 rfl rfl)))
      have HOW : Hid ((V.putObj D (.deferred none)).ownsRow (w1.heap.size + 3) 2 1 (.slice av zs.length cv) zs.length (zs.map intV)) := hide (by
        refine ⟨m2.1, ?_⟩
        rcases m2.2 with h2 | ⟨g, cap, cur, hv, hg, hh, r⟩
        · exact .inl h2
        · refine .inr ⟨g, cap, cur, hv, hg, (World.putObj_heap_other (fun e => ?_)).trans hh, r⟩
          rw [e, hK2] at hh
          cases hh)
      have hw1 := HB1.out.size
      obtain ⟨c5, f5⟩ := row1 hp
      obtain ⟨c6, f6⟩ := row1 m1
      clear m2 m4 hys hys' hM0 hBt hBc h23 hRN hzs
      gi_wp2
      refine ⟨by simp, .inl ⟨_, _, rfl, run_takeDeferred hK2, ?_⟩⟩
      refine ⟨.tuple #[.slice av zs.length cv, .int .i64 0], by simp [results, Tryd.results31, go_sem], ?_⟩
      have hz := HZS.out
      subst hz
      exact ⟨av, cv, rfl, ownsRow_base HOW.out (by omega), HB.out⟩
    case stop =>
      rintro D c pre V hD _ h hK
      exact h.elim
  · have hfin : Hid (omR ss ⟨x, y, u, v⟩ = ([], k)) := hide (by unfold omR; rw [if_neg (by rw [← hk]; exact h0), hk])
    rw [← hk] at HCC
    rw [hfin.out]
    clear ha hr0 hb0 hl hz hk hcap
    go_enter Tryd.func31, Tryd.ntmps31
    go_wp2_with fail
    rw [← hW0]
    clear hW0
    (try go_wp2_with fail)
    refine HCC.out.mono ?_
    rintro e w1 ⟨rfl, hb1⟩
    have hfin2 := hide (newList_nil W w1 k (Below.trans' HB0.out hb1))
    clear hb1 d0 d1 d2 d3
    go_wp2_with fail
    go_ret2
    exact hfin2.out
end Go.Proofs.YtmoekjgnichgnaaDoor
