/-
  ReachedFrom: both texts against one plain function.
-/
import Derived.Test.YtailjbenichiaabPlace
namespace Go.Proofs.Ytailjbenichiaab
open Go.RowKit

/-- Which places are marked when the first q places are done. -/
def mk (xss : List (List Int)) (p : Nat) : Nat → Nat → Bool
  | 0, i => decide (i = p)
  | q + 1, i => mk xss p q i || (mk xss p q q && decide ((i : Int) ∈ xss[q]?.getD []))
theorem mk_no {xss : List (List Int)} {p q : Nat} (h : mk xss p q q = false) : mk xss p (q + 1) = mk xss p q := by
  funext i
  rw [mk, h]; simp
theorem mk_yes {xss : List (List Int)} {p q : Nat} {zs : List Int} (h : mk xss p q q = true) (hz : xss[q]? = some zs) (i : Nat) : mk xss p (q + 1) i = (mk xss p q i || decide ((i : Int) ∈ zs)) := by
  rw [mk, h, hz]; simp
/-- Nothing below p is ever marked. -/
theorem mk_low {xss : List (List Int)} {p : Nat} (hg : isGameB xss = true) : ∀ (q i : Nat), i < p → mk xss p q i = false
  | 0, i, h => by rw [mk]; exact decide_eq_false (by omega)
  | q + 1, i, h => by
    rw [mk, mk_low hg q i h]
    by_cases hq : q < p
    · rw [mk_low hg q q hq]; rfl
    · have : ¬ (i : Int) ∈ xss[q]?.getD [] := by
        intro hm
        cases hz : xss[q]? with
        | none => rw [hz] at hm; simp at hm
        | some zs =>
          rw [hz] at hm
          have := (game_row hg hz _ hm).1
          omega
      rw [decide_eq_false this]; simp
def reachTo (xss : List (List Int)) (p k : Nat) : List Int := ((List.range k).filter (fun q : Nat => mk xss p q q)).map (fun q : Nat => (q : Int))
theorem reachTo_yes {xss : List (List Int)} {p k : Nat} (h : mk xss p k k = true) : reachTo xss p (k + 1) = reachTo xss p k ++ [(k : Int)] := by
  simp [reachTo, List.range_succ, h]
theorem reachTo_no {xss : List (List Int)} {p k : Nat} (h : mk xss p k k = false) : reachTo xss p (k + 1) = reachTo xss p k := by
  simp [reachTo, List.range_succ, h]
theorem reachTo_le (xss : List (List Int)) (p k : Nat) : (reachTo xss p k).length ≤ k := by
  unfold reachTo
  rw [List.length_map]
  exact Nat.le_trans (List.length_filter_le _ _) (by simp)
theorem reachTo_low {xss : List (List Int)} {p : Nat} (hg : isGameB xss = true) : ∀ k, k ≤ p → reachTo xss p k = []
  | 0, _ => rfl
  | k + 1, h => by rw [reachTo_no (mk_low hg k k (by omega)), reachTo_low hg k (by omega)]
theorem mk_at {xss : List (List Int)} {p : Nat} (hg : isGameB xss = true) : ∀ q, q ≤ p → mk xss p q = mk xss p 0
  | 0, _ => rfl
  | q + 1, h => by rw [mk_no (mk_low hg q q (by omega)), mk_at hg q (by omega)]

def reachR (xss : List (List Int)) (p : Int) : List Int × Int := if placeCode xss p = 0 then (reachTo xss p.toNat xss.length, 0) else ([], placeCode xss p)
theorem reachR_le (xss : List (List Int)) (p : Int) (hs : Small xss) : (reachR xss p).1.length ≤ 1048576 := by
  unfold reachR
  split
  · have := reachTo_le xss p.toNat xss.length
    have := hs.1
    show (reachTo xss p.toNat xss.length).length ≤ 1048576
    omega
  · simp

theorem Try.info4' : (Try.prog.info? 4).map (fun i => (i.zero, i.size, i.bytes)) = some (some (.bool false), 1, 1) := by kernel_rfl

/-- The row of marks; and that row while the moves of place q are marked. -/
def mv (m : Nat → Bool) : Nat → Value := fun i => .bool (m i)
def part (m : Nat → Bool) (zs : List Int) (j : Nat) : Nat → Bool := fun i => m i || decide ((i : Int) ∈ zs.take j)
theorem part_zero (m : Nat → Bool) (zs : List Int) : part m zs 0 = m := by funext i; simp [part]
theorem part_all (m : Nat → Bool) (zs : List Int) : part m zs zs.length = fun i => m i || decide ((i : Int) ∈ zs) := by funext i; simp [part]
theorem part_set {w : World} {b n : Nat} {t : TypeId} {m : Nat → Bool} {zs : List Int} {j z : Nat} (h : w.rowIs b t n (mv (part m zs j))) (hz : zs[j]? = some (z : Int)) :
    (w.setCell ⟨b, z, none⟩ (.bool true)).rowIs b t n (mv (part m zs (j + 1))) := by
  refine (h.set z (.bool true)).congr ?_
  intro i _
  unfold mv part
  rw [List.take_add_one, hz]
  by_cases e : i = z
  · subst e; simp
  · have : (i : Int) ≠ (z : Int) := by omega
    simp [e, this]
theorem mv_start {w : World} {b n p : Nat} {t : TypeId} (h : w.rowIs b t n (fun _ => .bool false)) (xss : List (List Int)) :
    (w.setCell ⟨b, p, none⟩ (.bool true)).rowIs b t n (mv (mk xss p 0)) := by
  refine (h.set p (.bool true)).congr ?_
  intro i _
  unfold mv mk
  by_cases e : i = p
  · subst e; simp
  · simp [e]

set_option maxRecDepth 100000 in
set_option maxHeartbeats 2000000 in
theorem implReached_any (a : Option Addr) (c : Nat) (xss : List (List Int)) (p : Int) (w : World) (ha : RowsAt w a xss) (hs : Small xss) (_hp : (Lit.int .i64 p).wf = true) :
    Calls Try.prog 20 #[.agg #[.slice a xss.length c], .int .i64 p] w (NewList (reachR xss p) w) := by
  have hl := hs.1
  obtain ⟨i0, hi, hz0, hz1, hz2⟩ := info_parts Try.info2
  have hB0 : Below w.heap.size w (w.alloc (.cells #[.slice a xss.length c] 29)) := (Below.refl _ _).alloc (Nat.le_refl _) _
  have hbox : (w.alloc (.cells #[.slice a xss.length c] 29)).cell? ⟨w.heap.size, 0, none⟩ = some (.slice a xss.length c) := by simp [go_sem]
  by_cases hc : placeCode xss p = 0
  · obtain ⟨hg, h0, h1⟩ := placeCode_zero hc
    obtain ⟨pn, rfl⟩ := Int.eq_ofNat_of_zero_le h0
    have hpn : pn < xss.length := by omega
    have hR : reachR xss (pn : Int) = (reachTo xss pn xss.length, 0) := by unfold reachR; rw [if_pos hc, Int.toNat_natCast]
    rw [hR]
    have HG := hide hg
    have HC := hide hc
    clear hR hg hc
    have hlen := game_len HG.out
    have hfin : ∀ (v : Value) (base : Nat) (w' : World), w.heap.size ≤ base → w'.ownsRow base 2 1 v (reachTo xss pn xss.length).length ((reachTo xss pn xss.length).map intV) → Below w.heap.size w w' → NewList (reachTo xss pn xss.length, 0) w (.returned (.tuple #[v, .int .i64 0])) w' := by
      intro v base w' hbase h1 h2
      obtain ⟨a', c', rfl⟩ := own_form h1
      exact ⟨a', c', rfl, ownsRow_base h1 hbase, h2⟩
    have HF := hide hfin
    have hmk := run_make_row' (P := Try.prog) 55 4 (.bool false) 1 Try.underlying55 Try.info4' rfl .i64 .i64 xss.length (by omega) (by omega)
    clear hfin
    go_enter Try.func20, Try.ntmps20
    go_wp2_with fail
    refine (checkPlace_any _ _ xss _ _ (ha.keep hB0) hs).mono ?_
    rw [HC.out]
    rintro e w1 ⟨rfl, hB1⟩
    have hb1 := cell_keep hB1 hbox
    have hBB := Below.trans' hB0 hB1
    clear hbox hB1
    have hlt1 : w.heap.size < w1.heap.size := World.block_lt_of_cell? w1 _ hb1
    go_wp2_with (at_make; refine wpList_make_fresh _ rfl _ _ 55 rfl 4 (.bool false) 1 Try.underlying55 Try.info4' rfl .i64 .i64 xss.length rfl rfl (by omega) (by omega) ?_; intro w2 hr0 hB2; have hcp := hr0.cell hpn; have hfp := hr0.frozen pn; have hb2 := cell_keep hB2 hb1; have hb3 := cell_keep ((Below.refl w1.heap.size w1).trans (hB2.setCell (p := ⟨w1.heap.size, pn, none⟩) (Nat.le_refl _) (.bool true))) hb1)
    have hr1 := hide (mv_start (p := pn) hr0 xss)
    have hBB1 := hBB.trans ((hB2.setCell (p := ⟨w1.heap.size, pn, none⟩) (Nat.le_refl _) (.bool true)).mono hBB.size)
    have hsz1 : w1.heap.size + 1 ≤ w2.heap.size := hr0.lt
    clear hr0 hcp hfp hb2 hb1
    go_loopw [8, 29] (fun v i wr => ∃ (k : Nat) (v0 : Value), v0 = v ∧ k ≤ xss.length ∧ i = .int .i64 k ∧ wr.rowIs w1.heap.size 4 xss.length (mv (mk xss pn k)) ∧ wr.ownsRow (w1.heap.size + 1) 2 1 v (reachTo xss pn k).length ((reachTo xss pn k).map intV) ∧ w1.heap.size + 1 ≤ wr.heap.size ∧ Below w.heap.size w wr) (fun _ i _ => xss.length - (intOf i).toNat)
    case atStart => exact ⟨0, _, rfl, Nat.zero_le _, rfl, hr1.out, World.ownsRow_nil _ _ _ _, by simpa using hsz1, hBB1⟩
    case round =>
      obtain ⟨k, v, rfl, hk, rfl, hr, hown, hsz, hB⟩ := hrel
      by_cases hlt : k < xss.length
      · obtain ⟨b, off, ai, ci, zs, rfl, hcell0, hzz, hgk⟩ := ha.one hlt
        have hcell := cell_keep hB hcell0
        have hel := reachTo_le xss pn k
        have hce := hr.cell hlt
        cases hm : mk xss pn k k
        · have hr2 := hide hr
          have ho2 := hide hown
          have hE1 := hide (mk_no hm)
          have hE2 := hide (reachTo_no hm)
          simp only [mv, hm] at hce
          clear ha hs hb3 hr hown hm hr1 hcell0
          go_wp2_with fail
          go_roundw
          case rel => exact ⟨k + 1, _, rfl, by omega, by go_num, by rw [hE1.out]; exact hr2.out, by rw [hE2.out]; exact ho2.out, hsz, hB⟩
          case measure => simp [intOf]; omega
        · have hE1 := hide (mk_yes hm hgk.out)
          have hE2 := hide (reachTo_yes hm)
          have hrow := hide (game_row HG.out hgk.out)
          simp only [mv, hm] at hce
          have hzl := game_row_len HG.out hgk.out
          clear ha hs hb3 hm hr1 hcell0
          go_wp2_with (at_builtin; refine wpList_append_own _ rfl _ _ 26 rfl (w1.heap.size + 1) 2 i0 (.int .i64 0) 1 8 Try.underlying26 hi hz0 hz1 hz2 rfl (by decide) _ _ _ rfl (hown.alloc _) ⟨wr.heap.size, 0, none⟩ 1 1 [.int .i64 k] rfl rfl (cell_one_new _ _ _) (by simp [Value.oneCell']) (by unfold maxLen; omega) (by omega) (by simp; omega) ?_)
          intro v' w3 hown' hgrow _
          have hrA := hr.alloc (.cells #[Value.int .i64 k] 2)
          have hnb : v.ownBlock ≠ some w1.heap.size := fun e => by have := (hown.lt _ e).1; omega
          have hr3 : w3.rowIs w1.heap.size 4 xss.length (mv (mk xss pn k)) := hrA.of_block (hgrow.block _ (by simp; omega) (fun e => hnb e.symm))
          have hB3 : Below w.heap.size w w3 := (hB.alloc hB.size _).grown hgrow (by have := hB.size; simp; omega) (fun j hj => by have := (hown.alloc (.cells #[Value.int .i64 k] 2)).lt j hj; omega)
          have hsz3 : w1.heap.size + 1 ≤ w3.heap.size := by have := hgrow.size; simp at this; omega
          have ho3 : Hid (w3.ownsRow (w1.heap.size + 1) 2 1 v' (reachTo xss pn (k + 1)).length ((reachTo xss pn (k + 1)).map intV)) := by
            refine hide ?_
            rw [hE2.out]
            simpa [intV] using hown'
          have hr4 := hide (show w3.rowIs w1.heap.size 4 xss.length (mv (part (mk xss pn k) zs 0)) by rw [part_zero]; exact hr3)
          clear hown' hgrow hown hB hr3 hrA hr hnb hE2
          go_wp2_with fail
          go_loopw [45] (fun i wq => ∃ j : Nat, i = .int .i64 j ∧ j ≤ zs.length ∧ wq.rowIs w1.heap.size 4 xss.length (mv (part (mk xss pn k) zs j)) ∧ wq.ownsRow (w1.heap.size + 1) 2 1 v' (reachTo xss pn (k + 1)).length ((reachTo xss pn (k + 1)).map intV) ∧ w1.heap.size + 1 ≤ wq.heap.size ∧ Below w.heap.size w wq) (fun i _ => zs.length - (intOf i).toNat)
          case atStart => exact ⟨0, rfl, Nat.zero_le _, hr4.out, ho3.out, hsz3, hB3⟩
          case round =>
            obtain ⟨j, rfl, hj, hrj, hoj, hszj, hBj⟩ := hrel
            by_cases hjlt : j < zs.length
            · obtain ⟨bz, oz, z, rfl, hcz, hzj⟩ := (hzz.keep hBj).one hjlt
              have hzr := hrow.out z (mem_of_get hzj.out)
              obtain ⟨zn, rfl⟩ := Int.eq_ofNat_of_zero_le (show 0 ≤ z by omega)
              have hzn : zn < xss.length := by omega
              have hcr := hrj.cell hzn
              have hfr := hrj.frozen zn
              have hrj2 := hide (part_set hrj hzj.out)
              have hoj2 := hide (ownsRow_setCell_below hoj (a := ⟨w1.heap.size, zn, none⟩) (by simp) (.bool true))
              have hBj2 := hBj.setCell (p := ⟨w1.heap.size, zn, none⟩) (by simp; omega) (.bool true)
              have hszj2 := hide (show w1.heap.size + 1 ≤ (wr.setCell ⟨w1.heap.size, zn, none⟩ (.bool true)).heap.size by simpa [World.setCell] using hszj)
              clear hrj hoj hBj
              go_wp2_with fail
              go_roundw
              case rel => exact ⟨j + 1, by go_num, by omega, hrj2.out, hoj2.out, hszj2.out, hBj2⟩
              case measure => simp [intOf]; omega
            · obtain rfl : j = zs.length := by omega
              have hrE : Hid (wr.rowIs w1.heap.size 4 xss.length (mv (mk xss pn (k + 1)))) := by
                refine hide (hrj.congr ?_)
                intro i _
                rw [part_all]
                unfold mv
                rw [hE1.out i]
              clear hrj
              go_wp2_with fail
              go_roundw
              case rel => exact ⟨k + 1, _, rfl, by omega, by go_num, hrE.out, hoj, hszj, hBj⟩
              case measure => simp [intOf]; omega
      · obtain rfl : k = xss.length := by omega
        have hf := HF.out v (w1.heap.size + 1) wr (by omega) hown hB
        clear hown hr
        go_wp2_with fail
        go_ret2
        exact hf
  · have hR : reachR xss p = ([], placeCode xss p) := by unfold reachR; rw [if_neg hc]
    rw [hR]
    have hcc := placeCode_cases xss p
    obtain ⟨cd, hcd⟩ : ∃ cd, cd = placeCode xss p := ⟨_, rfl⟩
    rw [← hcd] at hc hcc ⊢
    have HCD := hide hcd
    clear hR hcd
    have hne : ((cd : Int) != 0) = true := by simpa using hc
    have hfin : ∀ w' : World, Below w.heap.size w w' → NewList ([], cd) w (.returned (.tuple #[.slice none 0 0, .int .i64 cd])) w' := fun w' h => ⟨none, 0, rfl, World.ownsRow_nil _ _ _ _, h⟩
    have HF := hide hfin
    clear hfin hc hcc
    go_enter Try.func20, Try.ntmps20
    go_wp2_with fail
    refine (checkPlace_any _ _ xss _ _ (ha.keep hB0) hs).mono ?_
    rw [← HCD.out]
    rintro e w1 ⟨rfl, hB1⟩
    go_wp2_with fail
    go_ret2
    exact HF.out _ (Below.trans' hB0 hB1)

set_option maxRecDepth 100000 in
set_option maxHeartbeats 4000000 in
theorem specReached_any (a : Option Addr) (c : Nat) (xss : List (List Int)) (p : Int) (w : World) (ha : RowsAt w a xss) (hs : Small xss) (_hp : (Lit.int .i64 p).wf = true) :
    Calls Try.prog 19 #[.agg #[.slice a xss.length c], .int .i64 p] w (NewList (reachR xss p) w) := by
  have hl := hs.1
  obtain ⟨i0, hi, hz0, hz1, hz2⟩ := info_parts Try.info2
  have hB0 : Below w.heap.size w (w.alloc (.cells #[.slice a xss.length c] 29)) := (Below.refl _ _).alloc (Nat.le_refl _) _
  have hbox : (w.alloc (.cells #[.slice a xss.length c] 29)).cell? ⟨w.heap.size, 0, none⟩ = some (.slice a xss.length c) := by simp [go_sem]
  by_cases hc : placeCode xss p = 0
  · obtain ⟨hg, h0, h1⟩ := placeCode_zero hc
    obtain ⟨pn, rfl⟩ := Int.eq_ofNat_of_zero_le h0
    have hpn : pn < xss.length := by omega
    have hR : reachR xss (pn : Int) = (reachTo xss pn xss.length, 0) := by unfold reachR; rw [if_pos hc, Int.toNat_natCast]
    rw [hR]
    have HG := hide hg
    have HC := hide hc
    clear hR hg hc
    have hlen := game_len HG.out
    have hfin : ∀ (v : Value) (base : Nat) (w' : World), w.heap.size ≤ base → w'.ownsRow base 2 1 v (reachTo xss pn xss.length).length ((reachTo xss pn xss.length).map intV) → Below w.heap.size w w' → NewList (reachTo xss pn xss.length, 0) w (.returned (.tuple #[v, .int .i64 0])) w' := by
      intro v base w' hbase h1 h2
      obtain ⟨a', c', rfl⟩ := own_form h1
      exact ⟨a', c', rfl, ownsRow_base h1 hbase, h2⟩
    have HF := hide hfin
    clear hfin
    go_enter Try.func19, Try.ntmps19
    go_wp2_with fail
    refine (l01Place_any _ _ xss _ _ (ha.keep hB0) hs).mono ?_
    rw [HC.out]
    rintro e w0 ⟨rfl, hB1⟩
    have hb0 := cell_keep hB1 hbox
    have hBB0 := Below.trans' hB0 hB1
    clear hbox hB1
    go_wp2_with fail
    refine (l01N_any _ _ _ _).mono ?_
    rintro e w1 ⟨rfl, hBn⟩
    have hb1 := cell_keep hBn hb0
    have hBB := Below.trans' hBB0 hBn
    have hlt1 : w.heap.size < w1.heap.size := World.block_lt_of_cell? w1 _ hb1
    clear hb0 hBB0 hBn
    go_wp2_with (at_make; refine wpList_make_fresh _ rfl _ _ 55 rfl 4 (.bool false) 1 Try.underlying55 Try.info4' rfl .i64 .i64 xss.length rfl rfl (by omega) (by omega) ?_; intro w2 hr0 hB2; have hcp := (hr0.alloc (.cells #[] 2)).cell hpn; have hfp := (hr0.alloc (.cells #[] 2)).frozen pn; have hszz := hr0.lt)
    have hr1 := hide ((mv_start (p := pn) hr0 xss).alloc (.cells #[] 2))
    have hD1 := hide ((hB2.setCell (p := ⟨w1.heap.size, pn, none⟩) (Nat.le_refl _) (.bool true)).alloc (by have := hB2.size; simpa [World.setCell] using this) (.cells #[] 2))
    have ho1 := hide (show ((w2.setCell ⟨w1.heap.size, pn, none⟩ (.bool true)).alloc (.cells #[] 2)).ownsRow (w1.heap.size + 1) 2 1 (.slice (some ⟨w2.heap.size, 0, none⟩) 0 0) (reachTo xss pn pn).length ((reachTo xss pn pn).map intV) by
      rw [reachTo_low HG.out pn (Nat.le_refl _)]
      have := World.ownsRow_made (e := 2) (size := 1) (base := w1.heap.size + 1) (w2.setCell ⟨w1.heap.size, pn, none⟩ (.bool true)) #[] 0 (by have := hszz; simp [World.setCell]; omega) (Nat.zero_le _) rfl
      simpa [World.setCell] using this)
    have HM0 := hide (mk_at HG.out pn (Nat.le_refl _))
    clear hr0 hcp hfp hB2 hB0
    go_loopw [8, 9] (fun v i wr => ∃ (k : Nat) (v0 : Value), v0 = v ∧ k ≤ xss.length ∧ pn ≤ k ∧ i = .int .i64 k ∧ wr.rowIs w1.heap.size 4 xss.length (mv (mk xss pn k)) ∧ wr.ownsRow (w1.heap.size + 1) 2 1 v (reachTo xss pn k).length ((reachTo xss pn k).map intV) ∧ w1.heap.size + 1 ≤ wr.heap.size ∧ Below w1.heap.size w1 wr) (fun _ i _ => xss.length - (intOf i).toNat)
    case atStart => exact ⟨pn, _, rfl, by omega, Nat.le_refl _, rfl, by rw [HM0.out]; exact hr1.out, ho1.out, by simp [World.setCell]; omega, hD1.out⟩
    case round =>
      clear hr1 hD1 ho1 HM0 hszz
      obtain ⟨k, v, rfl, hk, hpk, rfl, hr', hown', hsz', hD'⟩ := hrel
      have hb := (hD'.cell (p := ⟨w.heap.size, 0, none⟩) hlt1).trans hb1
      go_wp2_with fail
      refine (l01N_any _ _ _ _).mono ?_
      rintro e w3 ⟨rfl, hB3⟩
      have hb3 := cell_keep hB3 hb
      have hr := hr'.of_block (hB3.block _ hr'.lt)
      have hown := ownsRow_keep hown' hB3
      have hsz := Nat.le_trans hsz' hB3.size
      have hD := hD'.trans (hB3.mono (by omega))
      have hB := hBB.trans (hD.mono (by omega))
      clear hr' hown' hsz' hD' hB3 hb
      by_cases hlt : k < xss.length
      · obtain ⟨b, off, ai, ci, zs, rfl, hcell0, hzz, hgk⟩ := ha.one hlt
        have hcell := cell_keep hB hcell0
        have hel := reachTo_le xss pn k
        have hce := hr.cell hlt
        cases hm : mk xss pn k k
        · have hr2 := hide hr
          have ho2 := hide hown
          have hE1 := hide (mk_no hm)
          have hE2 := hide (reachTo_no hm)
          simp only [mv, hm] at hce
          clear ha hs hr hown hm hcell0
          go_wp2_with fail
          go_roundw
          case rel => exact ⟨k + 1, _, rfl, by omega, by omega, by go_num, by rw [hE1.out]; exact hr2.out, by rw [hE2.out]; exact ho2.out, hsz, hD⟩
          case measure => simp [intOf]; omega
        · have hE1 := hide (mk_yes hm hgk.out)
          have hE2 := hide (reachTo_yes hm)
          have hrow := hide (game_row HG.out hgk.out)
          simp only [mv, hm] at hce
          have hzl := game_row_len HG.out hgk.out
          clear ha hs hm hcell hb3
          go_wp2_with (at_builtin; refine wpList_append_own _ rfl _ _ 26 rfl (w1.heap.size + 1) 2 i0 (.int .i64 0) 1 8 Try.underlying26 hi hz0 hz1 hz2 rfl (by decide) _ _ _ rfl (hown.alloc _) ⟨w3.heap.size, 0, none⟩ 1 1 [.int .i64 k] rfl rfl (cell_one_new _ _ _) (by simp [Value.oneCell']) (by unfold maxLen; omega) (by omega) (by simp; omega) ?_)
          intro v' w4 hown' hgrow _
          have hrA := hr.alloc (.cells #[Value.int .i64 k] 2)
          have hnb : v.ownBlock ≠ some w1.heap.size := fun e => by have := (hown.lt _ e).1; omega
          have hr3 : w4.rowIs w1.heap.size 4 xss.length (mv (mk xss pn k)) := hrA.of_block (hgrow.block _ (by simp; omega) (fun e => hnb e.symm))
          have hD3 : Below w1.heap.size w1 w4 := (hD.alloc hD.size _).grown hgrow (by have := hD.size; simp; omega) (fun j hj => by have := (hown.alloc (.cells #[Value.int .i64 k] 2)).lt j hj; omega)
          have hsz3 : w1.heap.size + 1 ≤ w4.heap.size := by have := hgrow.size; simp at this; omega
          have ho3 : Hid (w4.ownsRow (w1.heap.size + 1) 2 1 v' (reachTo xss pn (k + 1)).length ((reachTo xss pn (k + 1)).map intV)) := by
            refine hide ?_
            rw [hE2.out]
            simpa [intV] using hown'
          have hr4 := hide (show w4.rowIs w1.heap.size 4 xss.length (mv (part (mk xss pn k) zs 0)) by rw [part_zero]; exact hr3)
          clear hown' hgrow hown hD hB hr3 hrA hr hnb hE2
          go_wp2_with fail
          go_loopw [10] (fun i wr => ∃ j : Nat, i = .int .i64 j ∧ j ≤ zs.length ∧ wr.rowIs w1.heap.size 4 xss.length (mv (part (mk xss pn k) zs j)) ∧ wr.ownsRow (w1.heap.size + 1) 2 1 v' (reachTo xss pn (k + 1)).length ((reachTo xss pn (k + 1)).map intV) ∧ w1.heap.size + 1 ≤ wr.heap.size ∧ Below w1.heap.size w1 wr) (fun i _ => zs.length - (intOf i).toNat)
          case atStart => exact ⟨0, rfl, Nat.zero_le _, hr4.out, ho3.out, hsz3, hD3⟩
          case round =>
            obtain ⟨j, rfl, hj, hrj, hoj, hszj, hDj⟩ := hrel
            have hBj := hBB.trans (hDj.mono (by omega))
            have hbj := (hDj.cell (p := ⟨w.heap.size, 0, none⟩) hlt1).trans hb1
            have hcj := cell_keep hBj hcell0
            by_cases hjlt : j < zs.length
            · obtain ⟨bz, oz, z, rfl, hcz, hzj⟩ := (hzz.keep hBj).one hjlt
              have hzr := hrow.out z (mem_of_get hzj.out)
              obtain ⟨zn, rfl⟩ := Int.eq_ofNat_of_zero_le (show 0 ≤ z by omega)
              have hzn : zn < xss.length := by omega
              have hcr := hrj.cell hzn
              have hfr := hrj.frozen zn
              have hrj2 := hide (part_set hrj hzj.out)
              have hoj2 := hide (ownsRow_setCell_below hoj (a := ⟨w1.heap.size, zn, none⟩) (by simp) (.bool true))
              have hDj2 := hDj.setCell (p := ⟨w1.heap.size, zn, none⟩) (Nat.le_refl _) (.bool true)
              have hszj2 := hide (show w1.heap.size + 1 ≤ (wr.setCell ⟨w1.heap.size, zn, none⟩ (.bool true)).heap.size by simpa [World.setCell] using hszj)
              clear hrj hoj hBj hDj hcell0
              go_wp2_with fail
              go_roundw
              case rel => exact ⟨j + 1, by go_num, by omega, hrj2.out, hoj2.out, hszj2.out, hDj2⟩
              case measure => simp [intOf]; omega
            · obtain rfl : j = zs.length := by omega
              have hrE : Hid (wr.rowIs w1.heap.size 4 xss.length (mv (mk xss pn (k + 1)))) := by
                refine hide (hrj.congr ?_)
                intro i _
                rw [part_all]
                unfold mv
                rw [hE1.out i]
              clear hrj hcell0
              go_wp2_with fail
              go_roundw
              case rel => exact ⟨k + 1, _, rfl, by omega, by omega, by go_num, hrE.out, hoj, hszj, hDj⟩
              case measure => simp [intOf]; omega
      · obtain rfl : k = xss.length := by omega
        have hf := HF.out v (w1.heap.size + 1) w3 (by omega) hown hB
        clear hown hr
        go_wp2_with fail
        go_ret2
        exact hf
  · have hR : reachR xss p = ([], placeCode xss p) := by unfold reachR; rw [if_neg hc]
    rw [hR]
    have hcc := placeCode_cases xss p
    obtain ⟨cd, hcd⟩ : ∃ cd, cd = placeCode xss p := ⟨_, rfl⟩
    rw [← hcd] at hc hcc ⊢
    have HCD := hide hcd
    clear hR hcd
    have hne : ((cd : Int) != 0) = true := by simpa using hc
    have hfin : ∀ w' : World, Below w.heap.size w w' → NewList ([], cd) w (.returned (.tuple #[.slice none 0 0, .int .i64 cd])) w' := fun w' h => ⟨none, 0, rfl, World.ownsRow_nil _ _ _ _, h⟩
    have HF := hide hfin
    clear hfin hc hcc
    go_enter Try.func19, Try.ntmps19
    go_wp2_with fail
    refine (l01Place_any _ _ xss _ _ (ha.keep hB0) hs).mono ?_
    rw [← HCD.out]
    rintro e w1 ⟨rfl, hB1⟩
    go_wp2_with fail
    go_ret2
    exact HF.out _ (Below.trans' hB0 hB1)
end Go.Proofs.Ytailjbenichiaab
