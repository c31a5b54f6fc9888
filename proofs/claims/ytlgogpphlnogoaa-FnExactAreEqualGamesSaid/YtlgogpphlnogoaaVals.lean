/-
  valuesBy over int64: for every rule that has a contract.
-/
import Derived.Test.YtlgogpphlnogoaaIter
namespace Go.Proofs.Ytlgogpphlnogoaa
open Go.RowKit Go.Shelf
attribute [local go_sem] Oper.semAt_some

/-- What a rule makes of the values, place by place. -/
def upd {β : Type} (st : Nat → β) (p : Nat) (v : β) : Nat → β := fun i => if i = p then v else st i
def rowOf (xss : List (List Int)) (p : Nat) : List Int := xss[p]?.getD []
def afterOf {β : Type} (st : Nat → β) (zs : List Int) : List β := zs.map fun q => st q.toNat
def stL {β : Type} (z : β) (R : List β → β) (xss : List (List Int)) {n : Nat} (xs : List (Pl n)) : Nat → β := xs.foldl (fun st x => upd st x.1 (R (afterOf st (rowOf xss x.1)))) (fun _ => z)
theorem stL_snoc {β : Type} (z : β) (R : List β → β) (xss : List (List Int)) {n : Nat} (xs : List (Pl n)) (x : Pl n) : stL z R xss (xs ++ [x]) = upd (stL z R xss xs) x.1 (R (afterOf (stL z R xss xs) (rowOf xss x.1))) := by simp [stL]
def valsL {β : Type} (z : β) (R : List β → β) (xss : List (List Int)) : List β := (List.range xss.length).map (stL z R xss (downs xss.length xss.length (Nat.le_refl _)))
/-- All values are good ones. -/
theorem stL_good {β : Type} {z : β} {R : List β → β} {xss : List (List Int)} {G : β → Prop} (h0 : G z) (hR : ∀ vs, vs.length ≤ 40 → (∀ v ∈ vs, G v) → G (R vs)) (hx : ∀ zs ∈ xss, zs.length ≤ 40) {n : Nat} :
    ∀ (xs : List (Pl n)) (st : Nat → β), (∀ i, G (st i)) → ∀ i, G (xs.foldl (fun st x => upd st x.1 (R (afterOf st (rowOf xss x.1)))) st i)
  | [], st, h, i => h i
  | x :: r, st, h, i => by
    refine stL_good h0 hR hx r _ ?_ i
    intro j
    show G (upd st x.1 _ j)
    unfold upd
    split
    · refine hR _ ?_ ?_
      · simp only [afterOf, List.length_map]
        unfold rowOf
        cases hz : xss[x.1]? with
        | none => simp
        | some zs => exact hx zs (List.mem_of_getElem? hz)
      · intro v hv
        simp only [afterOf, List.mem_map] at hv
        obtain ⟨q, _, rfl⟩ := hv
        exact h _
    · exact h j

theorem keepsOthers_below {W W' : World} (h : Below W.heap.size W W') : KeepsOthers W W' := ⟨h.size, fun k _ hk _ => (h.block k (Array.getElem?_eq_some_iff.1 hk).1).trans hk⟩

/-- The list behind a place's moves when k of it are read. -/
def readTo (st : Nat → Int) (zs : List Int) (k : Nat) : Nat → Value := fun j => .int .i64 (if j < k then st (zs[j]?.getD 0).toNat else 0)
theorem readTo_set {w : World} {b : Nat} {t : TypeId} {st : Nat → Int} {zs : List Int} {k q : Nat} (h : w.rowIs b t zs.length (readTo st zs k)) (hz : zs[k]? = some (q : Int)) :
    (w.setCell ⟨b, k, none⟩ (.int .i64 (st q))).rowIs b t zs.length (readTo st zs (k + 1)) := by
  refine (h.set k _).congr ?_
  intro i _
  unfold readTo
  by_cases e : i = k
  · subst e; simp [hz]
  · simp only [e, if_false]
    by_cases h1 : i < k
    · rw [if_pos h1, if_pos (by omega)]
    · rw [if_neg h1, if_neg (by omega)]

/-- Between two rounds: what the call's own blocks hold (B: the first of them). -/
def Mid (st : Nat → Int) (fv : Value) (n : Nat) (w : World) (W : World) : Prop :=
  w.heap.size + 5 ≤ W.heap.size ∧ W.rowIs (w.heap.size + 1 + 1) 2 n (fun i => .int .i64 (st i)) ∧ W.cell? ⟨w.heap.size + 1, 0, none⟩ = some fv ∧
  W.cell? ⟨w.heap.size + 1 + 1 + 1, 0, none⟩ = some (.slice (some ⟨w.heap.size + 1 + 1, 0, none⟩) n n) ∧ Below w.heap.size w W
theorem Mid.below {st : Nat → Int} {fv : Value} {n : Nat} {w W W' : World} (h : Mid st fv n w W) (hb : Below (w.heap.size + 5) W W') : Mid st fv n w W' :=
  ⟨Nat.le_trans h.1 hb.size, h.2.1.of_block (hb.block _ (by omega)), (hb.cell (p := ⟨w.heap.size + 1, 0, none⟩) (by simp)).trans h.2.2.1, (hb.cell (p := ⟨w.heap.size + 1 + 1 + 1, 0, none⟩) (by simp)).trans h.2.2.2.1, h.2.2.2.2.trans (hb.mono (by omega))⟩

set_option maxRecDepth 100000 in
set_option maxHeartbeats 4000000 in
theorem valuesBy_any (gf : Nat) (lb : Array Value) (R : List Int → Int) (G : Int → Prop) (a : Option Addr) (c : Nat) (xss : List (List Int)) (w : World) (ha : RowsAt w a xss) (hs : Small xss) (hg : isGameB xss = true)
    (eg : ∀ args w, (callFunc gf args).run Try.prog w = .ok (.enter gf args) w) (hG0 : G 0) (hGR : ∀ vs, vs.length ≤ 40 → (∀ v ∈ vs, G v) → G (R vs))
    (hrule : ∀ (a : Option Addr) (c : Nat) (vs : List Int) (W : World), Below w.heap.size w W → IntsAt W a vs → vs.length ≤ 40 → (∀ v ∈ vs, G v) → Calls Try.prog gf (#[.slice a vs.length c] ++ lb) W fun e W' => e = .returned (.int .i64 (R vs)) ∧ Below W.heap.size W W') :
    Calls Try.prog 72 #[.agg #[.slice a xss.length c], .func (.func gf) #[] lb] w (NewInts (valsL 0 R xss) w) := by
  have hlen := game_len hg
  have HG := hide hg
  have HR := hide hrule
  have HGR := hide hGR
  have hB0 : Below w.heap.size w ((w.alloc (.cells #[.slice a xss.length c] 29)).alloc (.cells #[.func (.func gf) #[] lb] 63)) := ((Below.refl _ _).alloc (Nat.le_refl _) _).alloc (by simp) _
  have hx1 : ((w.alloc (.cells #[.slice a xss.length c] 29)).alloc (.cells #[.func (.func gf) #[] lb] 63)).cell? ⟨w.heap.size, 0, none⟩ = some (.slice a xss.length c) := by simp [go_sem]
  have hx2 : ((w.alloc (.cells #[.slice a xss.length c] 29)).alloc (.cells #[.func (.func gf) #[] lb] 63)).cell? ⟨w.heap.size + 1, 0, none⟩ = some (.func (.func gf) #[] lb) := by simp [go_sem]
  clear hg hrule hGR
  refine (callsIn_wide (n := 6)).1 ?_
  refine callsIn_of_wp_marks Try.func72 rfl trivial ?_ rfl
  simp only [Try.ntmps72, List.size_toArray, List.length_cons, List.length_nil, Nat.reduceAdd, Nat.reduceSub, Array.replicate_succ, Array.replicate_zero, List.push_toArray, List.append_toArray, List.nil_append, List.cons_append]
  gi_wp2_with (first
    | (gi_at_make; refine wpListIn_make_fresh _ rfl _ _ 26 rfl 2 (.int .i64 0) 8 Try.underlying26 Try.info2 rfl .i64 .i64 xss.length rfl rfl (by omega) (by omega) ?_; intro w1 hr1 hB1 hz1; have hc1 := cell_keep hB1 hx1; have hc2 := cell_keep hB1 hx2; simp only [World.size_alloc] at hr1 hz1; clear hx1 hx2)
    | (refine ⟨trivial, ?_⟩; gi_at_call 96; refine (callsIn_wide.2 (lastToFirst_any _ _ _ _)).mono ?_; rintro e w2 ⟨rfl, rfl⟩))
  obtain ⟨W0, hW0⟩ : ∃ W0, W0 = (w1.alloc (.cells #[.slice (some ⟨w.heap.size + 1 + 1, 0, none⟩) xss.length xss.length] 26)).alloc (.cells #[.slice a xss.length c] 29) := ⟨_, rfl⟩
  have hs0 : W0.heap.size = w.heap.size + 5 := by rw [hW0]; simp; omega
  have hB10 : Below w1.heap.size w1 W0 := by rw [hW0]; exact ((Below.refl _ _).alloc (Nat.le_refl _) _).alloc (by simp) _
  have hcv : W0.cell? ⟨w.heap.size + 1 + 1 + 1, 0, none⟩ = some (.slice (some ⟨w.heap.size + 1 + 1, 0, none⟩) xss.length xss.length) := by rw [hW0]; simp [go_sem, ← hz1]
  have hcg : W0.cell? ⟨w.heap.size + 1 + 1 + 1 + 1, 0, none⟩ = some (.slice a xss.length c) := by rw [hW0]; simp [go_sem, ← hz1]
  have hBw : Below w.heap.size w W0 := (Below.trans' hB0 hB1).trans (hB10.mono (by omega))
  have hM0 : Mid (stL 0 R xss ([] : List (Pl xss.length))) (.func (.func gf) #[] lb) xss.length w W0 := ⟨by omega, hr1.of_block (hB10.block _ (by omega)), cell_keep hB10 hc2, hcv, hBw⟩
  rw [← hW0]
  obtain ⟨b, off, rfl, hrows⟩ := ha (by intro e; subst e; simp at hlen)
  have hb : b < w.heap.size := by
    obtain ⟨ai, ci, hcell, _⟩ := hrows 0 xss[0] (List.getElem?_eq_getElem (by omega))
    exact World.block_lt_of_cell? w _ hcell
  obtain ⟨A, hA⟩ : ∃ A : Nat → Option Addr × Nat, ∀ p zs, xss[p]? = some zs → w.cell? ⟨b, off + p, none⟩ = some (.slice (A p).1 zs.length (A p).2) ∧ IntsAt w (A p).1 zs := by
    have : ∀ p, ∃ y : Option Addr × Nat, ∀ zs, xss[p]? = some zs → w.cell? ⟨b, off + p, none⟩ = some (.slice y.1 zs.length y.2) ∧ IntsAt w y.1 zs := by
      intro p
      cases hz : xss[p]? with
      | none => exact ⟨(none, 0), fun zs h => by cases h⟩
      | some zs =>
        obtain ⟨ai, ci, h1, h2⟩ := hrows p zs hz
        exact ⟨(ai, ci), fun zs' h => by cases h; exact ⟨h1, h2⟩⟩
    exact ⟨fun p => Classical.choose (this p), fun p => Classical.choose_spec (this p)⟩
  have HA := hide hA
  have hcells : ∀ p, p < xss.length → W0.cell? ⟨b, off + p, none⟩ = some (.slice (A p).1 (rowOf xss p).length (A p).2) := by
    intro p hp
    have := (HA.out p xss[p] (List.getElem?_eq_getElem hp)).1
    rw [show rowOf xss p = xss[p] by simp [rowOf, hp]]
    exact (hBw.cell (p := ⟨b, off + p, none⟩) hb).trans this
  have HC := hide hcells
  clear hr1 hB1 hc1 hc2 hW0 hrows hA hcells ha hB10 hz1
  refine wpIn_rangeFunc_ownF (F := Fence.wide) rfl (by omega) (gf := 102) (lb := #[.pointer (some ⟨w.heap.size + 1 + 1 + 1 + 1, 0, none⟩)]) rfl trivial (enters_of Try.func102 (by kernel_rfl) rfl)
    (iter_stops 5 (by omega) (w.heap.size + 1 + 1 + 1 + 1) w.heap.size b off c xss.length (fun p => (A p).1) (fun p => (rowOf xss p).length) (fun p => (A p).2) hlen.2 hb W0 (by omega) (by omega) hcg HC.out) KeepB.trans (keepB_b (by omega) (by omega)) (Below.refl _ _) (fun _ => rfl)
    (fun pre W => Mid (stL 0 R xss pre) (.func (.func gf) #[] lb) xss.length w W)
    (fun _ _ _ => False)
    (ownFrom_of_below (fun s W h => by rw [hs0]; exact h.1) (fun s W W' h hb => h.below (by rw [← hs0]; exact hb)))
    (fun _ _ _ _ _ hs _ _ => hs)
    hM0
    (fun x => { tmps := #[.agg #[.slice (some ⟨b, off, none⟩) xss.length c], .func (.func gf) #[] lb, .pointer (some ⟨w.heap.size, 0, none⟩), .pointer (some ⟨w.heap.size + 1, 0, none⟩), .slice none 0 0, .pointer (some ⟨w.heap.size + 1 + 1 + 1, 0, none⟩), .int .i64 (x.1 : Int), .slice (A x.1).1 (rowOf xss x.1).length (A x.1).2, undef, undef, undef, .pointer (some ⟨w.heap.size, 0, none⟩), .slice (some ⟨b, off, none⟩) xss.length c, .int .i64 xss.length, .slice (some ⟨w.heap.size + 1 + 1, 0, none⟩) xss.length xss.length, .agg #[.slice (some ⟨b, off, none⟩) xss.length c], .func (.func 102) #[] #[.pointer (some ⟨w.heap.size + 1 + 1 + 1 + 1, 0, none⟩)], .int .i64 (x.1 : Int), .slice (A x.1).1 (rowOf xss x.1).length (A x.1).2, undef, undef, undef, undef, undef, undef, undef, undef, undef, undef, undef, undef, undef, undef, undef, undef, undef, undef, undef, undef, undef, undef, undef, undef, undef], defers := [] }) ?assign ?body ?done ?stop
  case assign =>
    intro l x W K hK
    gi_wp2
    exact hK
  case body =>
    rintro l pre x W hM hlt
    obtain ⟨zs, hzs⟩ : ∃ zs, zs = rowOf xss x.1 := ⟨_, rfl⟩
    have hzg : xss[x.1]? = some zs := by rw [hzs]; simp [rowOf, x.2]
    have hzl := game_row_len HG.out hzg
    have hrow := hide (game_row HG.out hzg)
    obtain ⟨_, hzi⟩ := HA.out x.1 zs hzg
    obtain ⟨st, hst⟩ : ∃ st, st = stL 0 R xss pre := ⟨_, rfl⟩
    have HST := hide hst
    have HZ := hide hzs
    have hxn := x.2
    rw [← hst] at hM
    dsimp only
    rw [← hzs]
    obtain ⟨xp, hxp⟩ : ∃ xp : Nat, xp = x.1 := ⟨_, rfl⟩
    rw [← hxp] at hzi hrow hxn ⊢
    have HX := hide hxp
    clear hst hzs hzg hxp
    obtain ⟨hsz, hrv, hcr, hcv, hBW⟩ := hM
    gi_wp2_with (gi_at_make; refine wpListIn_make_fresh _ rfl _ _ 26 rfl 2 (.int .i64 0) 8 Try.underlying26 Try.info2 rfl .i64 .i64 zs.length rfl rfl (by omega) (by omega) ?_; intro w2 hr2 hB2 hz2)
    gi_loopw [24] (fun i wr => ∃ k : Nat, k ≤ zs.length ∧ i = .int .i64 k ∧ wr.rowIs W.heap.size 2 zs.length (readTo st zs k) ∧ Below W.heap.size W wr) (fun i _ => zs.length - (intOf i).toNat)
    case atStart => exact ⟨0, Nat.zero_le _, rfl, hr2.congr (fun i _ => by simp [readTo]), hB2⟩
    case round =>
      obtain ⟨k, hk, rfl, hrk, hBk⟩ := hrel
      have hcvk := cell_keep hBk hcv
      have hrvk := hrv.of_block (hBk.block _ hrv.lt)
      by_cases hklt : k < zs.length
      · obtain ⟨bz, oz, z, hae, hcz, hzk⟩ := (hzi.keep (hBW.trans (hBk.mono (by omega)))).one hklt
        have hzr := hrow.out z (mem_of_get hzk.out)
        obtain ⟨q, rfl⟩ := Int.eq_ofNat_of_zero_le (show 0 ≤ z by omega)
        have hqn : q < xss.length := by omega
        have hcq := hrvk.cell hqn
        have hfk := hrk.frozen k
        have hck := hrk.cell hklt
        have hrk2 := hide (readTo_set hrk hzk.out)
        have hBk2 := hBk.setCell (p := ⟨W.heap.size, k, none⟩) (Nat.le_refl _) (.int .i64 (st q))
        clear hrk hrvk hr2 hB2 hz2
        gi_wp2
        go_roundw
        case rel => exact ⟨k + 1, by omega, by go_num, hrk2.out, hBk2⟩
        case measure => simp [intOf]; omega
      · obtain rfl : k = zs.length := by omega
        have hcrk := cell_keep hBk hcr
        have hint : IntsAt wr (some ⟨W.heap.size, 0, none⟩) (afterOf st zs) := by
          have := rowIs_owns (base := 0) (vs := (afterOf st zs).map intV) hrk (Nat.zero_le _) (by unfold maxLen; omega) (by simp [afterOf]) (fun i hi => by simp [readTo, afterOf, hi, intV])
          have hl : (afterOf st zs).length = zs.length := by simp [afterOf]
          exact cellsAt_of_ownsRow this
        have hx2 := hrvk.cell hxn
        have hfx := hrvk.frozen xp
        have hmx : Try.prog.follows .mixedOrders = true := by kernel_rfl
        have hd : Below wr.heap.size wr wr.drew := Below.drew (Below.refl _ _)
        have hgood : ∀ v ∈ afterOf st zs, G v := by
          intro v hv
          simp only [afterOf, List.mem_map] at hv
          obtain ⟨q, _, rfl⟩ := hv
          rw [HST.out]
          exact stL_good hG0 HGR.out (fun zs hz => by obtain ⟨i, hi⟩ := List.mem_iff_getElem?.1 hz; exact game_row_len HG.out hi) pre _ (fun _ => hG0) _
        have hBwd : Below w.heap.size w wr.drew := (hBW.trans (hBk.mono (by omega))).trans (hd.mono (by have := hBk.size; omega))
        have hcall := HR.out (some ⟨W.heap.size, 0, none⟩) zs.length (afterOf st zs) wr.drew hBwd (hint.keep hd) (by simp only [afterOf, List.length_map]; exact hzl) hgood
        rw [show (afterOf st zs).length = zs.length by simp [afterOf]] at hcall
        obtain ⟨rv, hrv2⟩ : ∃ rv, rv = R (afterOf st zs) := ⟨_, rfl⟩
        rw [← hrv2] at hcall
        have HRV := hide hrv2
        have HCALL := hide hcall
        have hxd := cell_keep hd hx2
        have hfxd := (hd.frozen (p := ⟨w.heap.size + 1 + 1, xp, none⟩) (World.block_lt_of_cell? wr _ hx2)).trans hfx
        have hcvd := cell_keep hd hcvk
        have hltd := World.block_lt_of_cell? wr.drew _ hxd
        have hall : ∀ w3 : World, Below wr.drew.heap.size wr.drew w3 → KeepsOthers W (w3.setCell ⟨w.heap.size + 1 + 1, xp, none⟩ (.int .i64 rv)) ∧ KeepB w.heap.size (w.heap.size + 1 + 1 + 1 + 1) W (w3.setCell ⟨w.heap.size + 1 + 1, xp, none⟩ (.int .i64 rv)) ∧
            Mid (stL 0 R xss (pre ++ [x])) (.func (.func gf) #[] lb) xss.length w (w3.setCell ⟨w.heap.size + 1 + 1, xp, none⟩ (.int .i64 rv)) := by
          intro w3 hB3
          have hW3 : Below W.heap.size W w3 := (hBk.trans (hd.mono hBk.size)).trans (hB3.mono hBk.size)
          have hoth : ∀ k, k ≠ w.heap.size + 1 + 1 → (w3.setCell ⟨w.heap.size + 1 + 1, xp, none⟩ (.int .i64 rv)).heap[k]? = w3.heap[k]? := fun k hk => Below.heap_setCell w3 _ _ k hk
          refine ⟨(keepsOthers_below hW3).trans (KeepsOthers.setCell _ _ _), (KeepB.of_below hW3 (by omega) (by omega)).trans ⟨(Below.refl _ _).setCell (p := ⟨w.heap.size + 1 + 1, xp, none⟩) (by simp; omega) _, hoth _ (by omega)⟩, ?_, ?_, ?_, ?_, ?_⟩
          · have := hW3.size
            simp [World.setCell]
            omega
          · refine ((hrv.of_block (hW3.block _ hrv.lt)).set xp (.int .i64 rv)).congr ?_
            intro j _
            rw [stL_snoc, ← HST.out, ← HX.out, HX.out, ← HZ.out, ← HX.out, ← HRV.out]
            unfold upd
            split <;> rfl
          · exact (World.cell?_of_block (a := ⟨w.heap.size + 1, 0, none⟩) (hoth _ (by simp))).trans (cell_keep hW3 hcr)
          · exact (World.cell?_of_block (a := ⟨w.heap.size + 1 + 1 + 1, 0, none⟩) (hoth _ (by simp))).trans (cell_keep hW3 hcv)
          · exact (hBW.trans (hW3.mono (by omega))).setCell (p := ⟨w.heap.size + 1 + 1, xp, none⟩) (by simp; omega) _
        have HALL := hide hall
        clear hall hr2 hB2 hz2 hrv2 hcall hint hgood hrow hzi HST HZ HX hrk hrvk hBk hBwd hsz hrv hcr hcv hBW hd HRV HR HGR HG hG0 HA HC hcg hM0 hBw hs0 hB0 hx2 hfx hzl
        gi_wp2
        gi_region_with_o ((with_reducible refine And.intro ?_ ?_); exact (trivial : Fence.wide.fn gf); (with_reducible refine (CallsIn.inRound l (callsIn_wide.2 HCALL.out)).mono ?_); rintro e w3 ⟨rfl, hB3⟩; have hx3 := cell_keep hB3 hxd; have hf3 := (hB3.frozen (p := ⟨w.heap.size + 1 + 1, xp, none⟩) hltd).trans hfxd; have hcv3 := cell_keep hB3 hcvd)
        all_goals gi_wp2
        all_goals exact HALL.out _ (by assumption)
  case done =>
    rintro D ys W hD rfl hM hK
    have hcv := hM.2.2.2.1
    have hfin : NewInts (valsL 0 R xss) w (.returned (.slice (some ⟨w.heap.size + 1 + 1, 0, none⟩) (valsL 0 R xss).length xss.length)) (W.putObj D (.deferred none)) := by
      have hl : (valsL 0 R xss).length = xss.length := by simp [valsL]
      refine ⟨_, _, rfl, ?_, hM.2.2.2.2.trans (belowK_b (w := W0) (by omega) W D _ _ hD hK rfl rfl)⟩
      have := rowIs_owns (base := w.heap.size) (vs := (valsL 0 R xss).map intV) hM.2.1 (by omega) (by unfold maxLen; omega) (by simp [hl]) (fun i hi => by simp [valsL, hi, intV])
      rw [hl]
      exact ownsRow_putObj this _ hK rfl
    have HF := hide hfin
    have hl : (valsL 0 R xss).length = xss.length := by simp [valsL]
    rw [hl] at hfin
    gi_wp2
    refine ⟨by simp, .inl ⟨_, _, rfl, run_takeDeferred hK, ?_⟩⟩
    refine ⟨_, results_tmp rfl _ _ _, ?_⟩
    exact hfin
  case stop =>
    rintro D c pre W _ _ h _
    exact h.elim
end Go.Proofs.Ytlgogpphlnogoaa
