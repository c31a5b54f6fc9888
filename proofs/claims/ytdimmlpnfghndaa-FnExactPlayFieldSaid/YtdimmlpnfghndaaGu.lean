/-
  PlayField, the program's text.
-/
import Derived.Test.YtdimmlpnfghndaaGt
namespace Go.Proofs.Ytdimmlpnfghndaa
open Go.RowKit Go.Maps
set_option linter.unusedVariables false

theorem but_set5 {bx : Nat} {a w : World} (h : But bx a w) (y0 y1 y2 y3 y4 : Value) : But bx a (((((w.setCell ⟨bx, 0, none⟩ y0).setCell ⟨bx, 1, none⟩ y1).setCell ⟨bx, 2, none⟩ y2).setCell ⟨bx, 3, none⟩ y3).setCell ⟨bx, 4, none⟩ y4) := ((((h.set 0 y0).set 1 y1).set 2 y2).set 3 y3).set 4 y4
/-- The block of a fresh list is none that was there. -/
theorem fresh_far {w : World} {a : Option Addr} {n c Z : Nat} {vs : List Value} {e : TypeId} (h : w.ownsRow Z e 1 (.slice a n c) n vs) : ∀ g off, a = some ⟨g, off, none⟩ → Z ≤ g ∧ g < w.heap.size := by
  intro g off e2
  rcases h.2 with ⟨hv, _⟩ | ⟨g', cap, cur, hv, hgg, hh, _⟩
  · simp only [Value.slice.injEq] at hv
    rw [e2] at hv
    cases hv.1
  · simp only [Value.slice.injEq] at hv
    rw [e2] at hv
    have e3 := hv.1
    simp only [Option.some.injEq, Addr.mk.injEq] at e3
    have hlt := (Array.getElem?_eq_some_iff.1 hh).1
    omega
/-- A list that stands apart from the row under way and from two blocks. -/
def Beside (wr : World) (a : Option Addr) (zs : List Int) (v : Value) (bx bm : Nat) : Prop := IntsAt wr a zs ∧ ∀ g off, a = some ⟨g, off, none⟩ → v.ownBlock ≠ some g ∧ g ≠ bx ∧ g ≠ bm ∧ g < wr.heap.size
theorem beside_new {w w' : World} {a : Option Addr} {c : Nat} {zs : List Int} {v : Value} {bx bm : Nat} (h : w'.ownsRow w.heap.size 2 1 (.slice a zs.length c) zs.length (zs.map intV)) (hv : ∀ j, v.ownBlock = some j → j < w.heap.size) (hx : bx < w.heap.size) (hm : bm < w.heap.size) : Beside w' a zs v bx bm :=
  ⟨intsAt_of_ownsRow h, fun g off e => by
    obtain ⟨h1, h2⟩ := fresh_far h g off e
    exact ⟨fun e2 => by have := hv g e2; omega, by omega, by omega, h2⟩⟩

set_option maxRecDepth 100000 in
set_option maxHeartbeats 8000000 in
theorem implPlay_any (n L R0 B0 game p0 : Int) (W : World) : Calls Try.prog 34 #[.agg #[.int .i64 n, .int .i64 L, .int .i64 R0, .int .i64 B0], .int .i64 game, .int .i64 p0] W (NewList (plR n L R0 B0 game p0) W) := by
  obtain ⟨i0, hi0, hz0, hz1, hz2⟩ := info_parts Try.info2
  have hB0 := hide (below_alloc W (.cells #[.int .i64 n, .int .i64 L, .int .i64 R0, .int .i64 B0] 25))
  have hX0 := hide (fieldIn_new W n L R0 B0 25)
  by_cases hc : codeP n L R0 B0 game p0 = 0
  · have HC := hide hc
    obtain ⟨PR, hPR⟩ : ∃ zs, zs = play n L R0 B0 game p0 := ⟨_, rfl⟩
    have HR : Hid (plR n L R0 B0 game p0 = (PR, 0)) := hide (by unfold plR; rw [if_pos hc, hPR])
    have HPR := hide hPR
    obtain ⟨g1, g2, g3, g4⟩ := codeP_zero hc
    have HOK : Hid (okT n L R0 B0 p0) := hide ⟨g1, by omega, by omega⟩
    have hn8 := (okF_nums g1).2.1
    obtain ⟨K, hrv⟩ := ruleV_form game
    obtain ⟨I, hI⟩ : ∃ I : Nat → World → Prop, I = fun b => KnM (lvB n L game) 4 n L [] b := ⟨_, rfl⟩
    have HIB : Hid (∀ (k : Nat) (a b : World), I k a → Below a.heap.size a b → I k b) := hide (fun k a b h h2 => by rw [hI] at h ⊢; exact KnM.keep h h2)
    have HIT : Hid (∀ (k : Nat) (a b : World), I k a → b.heap[k]? = a.heap[k]? → I k b) := hide (fun k a b h h2 => by rw [hI] at h ⊢; exact KnM.turn h h2 (fun p hp => by cases hp))
    have HIL : Hid (∀ (k : Nat) (a : World), I k a → k < a.heap.size) := hide (fun k a h => by rw [hI] at h; exact KnM.lt h)
    have HRF : Hid (∀ V : World, Calls Try.prog 53 #[.agg #[.int .i64 n, .int .i64 L, .int .i64 R0, .int .i64 B0], .int .i64 game, .int .i64 p0] V (RetB (.tuple #[.iface K (.agg #[]), .int .i64 0]) V)) := hide (fun V => by rw [← hrv]; exact rulesFor_ok HC.out V)
    have HV0 : Hid (∀ (bm : Nat) (R B pl : Int) (V : World), okT n L R B pl → I bm V → Calls Try.prog 65 #[.agg #[.int .i64 n, .int .i64 L, .int .i64 R, .int .i64 B, .int .i64 pl], .agg #[.iface K (.agg #[]), .func (.func 62) #[] #[], .map (some bm)]] V (NewLM bm (I bm) (best n L R B game pl) V)) := hide (fun bm R B pl V hok hk => by rw [hI] at hk ⊢; rw [← hrv]; exact toWin_any n L game [] g2 bm R B pl hok V hk)
    have HPT : Hid (∀ (R B pl : Int) (V : World), okT n L R B pl → Calls Try.prog 54 #[.agg #[.int .i64 n, .int .i64 L, .int .i64 R, .int .i64 B, .int .i64 pl], .iface K (.agg #[])] V (NewL (pts n L R B game pl) V)) := hide (fun R B pl V hok => by rw [← hrv]; exact points_any n L R B game pl hok.1 g2 ⟨hok.2.1, hok.2.2⟩ V)
    have HNW : Hid (∀ V : World, Calls Try.prog 61 #[.iface K (.agg #[]), .func (.func 62) #[] #[]] V fun e W' => ∃ bm, e = .returned (.agg #[.iface K (.agg #[]), .func (.func 62) #[] #[], .map (some bm)]) ∧ I bm W' ∧ V.heap.size ≤ bm ∧ Below V.heap.size V W') := hide (fun V => by rw [hI]; exact newB_any n L (lvB n L game) [] K V (fun p hp => by cases hp))
    rw [HR.out]
    clear hc hPR hrv g1 g2 g3 g4 hI
    obtain ⟨X0, X1, X2, X3⟩ := hX0.out
    go_enter Try.func34, Try.ntmps34
    go_wp2_with fail
    refine (HRF.out _).mono ?_
    rintro e w1 ⟨rfl, hb1⟩
    (try clear X0 X1 X2 X3)
    have hX1 := hide (hX0.out.keep hb1)
    obtain ⟨X0, X1, X2, X3⟩ := hX1.out
    have hB1 := hide (Below.trans' hB0.out hb1)
    clear hb1
    go_wp2_with fail
    refine (HNW.out _).mono ?_
    rintro e w2 ⟨bm, rfl, hk2, hbm, hb2⟩
    have HK2 := hide hk2
    have hB2 := hide (Below.trans' hB1.out hb2)
    have hX2 := hide (hX1.out.keep hb2)
    have hW1 := hX1.out.lt
    have hm2 := HIL.out _ _ hk2
    have hs2 := hb2.size
    clear hk2 hb2 X0 X1 X2 X3
    obtain ⟨X0, X1, X2, X3⟩ := hX2.out.keep (below_alloc w2 (.cells #[.iface K (.agg #[]), .func (.func 62) #[] #[], .map (some bm)] 77))
    go_wp2_with fail
    obtain ⟨w3, hw3⟩ : ∃ w3, w3 = (w2.alloc (.cells #[.iface K (.agg #[]), .func (.func 62) #[] #[], .map (some bm)] 77)).alloc (.cells #[.int .i64 n, .int .i64 L, .int .i64 R0, .int .i64 B0, .int .i64 p0] 64) := ⟨_, rfl⟩
    have hb3 : Below w2.heap.size w2 w3 := by rw [hw3]; exact (below_alloc _ _).alloc (by simp) _
    have hS3 : w3.heap[w2.heap.size]? = some (.cells #[.iface K (.agg #[]), .func (.func 62) #[] #[], .map (some bm)] 77 (0, 0)) := by rw [hw3]; exact row_alloc (alloc_row _ _ _) _
    have hR3 : Hid (w3.heap[w2.heap.size + 1]? = some (.cells #[.int .i64 n, .int .i64 L, .int .i64 R0, .int .i64 B0, .int .i64 p0] 64 (0, 0))) := by rw [hw3]; exact hide (alloc_row2 _ _ _ _)
    have hz3 : Hid (w3.heap.size = w2.heap.size + 2) := by rw [hw3]; exact hide (by simp)
    rw [← hw3]
    have HS3 := hide hS3
    have HK3 := hide (HIB.out _ _ _ HK2.out hb3)
    have hB3 := hide (Below.trans' hB2.out hb3)
    obtain ⟨sb, hsb⟩ : ∃ b, b = w2.heap.size := ⟨_, rfl⟩
    obtain ⟨bx, hbx⟩ : ∃ b, b = w2.heap.size + 1 := ⟨_, rfl⟩
    rw [← hbx] at hR3 ⊢
    rw [← hsb] at HS3 hS3 hm2 hs2 ⊢
    have HSB := hide hsb
    have HBX := hide hbx
    clear hw3 hb3 hS3 hsb hbx X0 X1 X2 X3
    obtain ⟨t0, t1, t2, t3, t4, _⟩ := row5 hR3.out
    (try go_wp2_with fail)
    refine (HPT.out _ _ _ _ HOK.out).mono ?_
    rintro e w4 ⟨a4, c4, rfl, ho4, hb4⟩
    obtain ⟨Z, hZ⟩ : ∃ Z, Z = w4.heap.size := ⟨_, rfl⟩
    have hz3' := hz3.out
    have e1 := HSB.out
    have e2 := HBX.out
    have hsz4 := hb4.size
    have hBS : Hid (Beside w4 a4 (pts n L R0 B0 game p0) (.slice none 0 0) bx bm) := hide (beside_new ho4 (fun j hj => by simp [Value.ownBlock] at hj) (by omega) (by omega))
    have HT4 : Hid (TurnF (.cells #[.int .i64 n, .int .i64 L, .int .i64 R0, .int .i64 B0, .int .i64 p0] 64 (0, 0)) (I bm) w4 bx bm Z [] (.slice none 0 0) w4) := hide ⟨box_keep hR3.out hb4, World.ownsRow_nil _ _ _ _, HIB.out _ _ _ HK3.out hb4, Two.refl _ _ _ _, by rw [hZ]; exact Nat.le_refl _⟩
    have HS4 := hide (box_keep HS3.out hb4)
    have hB4 := hide (Below.trans' hB3.out hb4)
    have hWw := hB4.out.size
    have hxZ : bx < Z := by omega
    have hmZ : bm < Z := by omega
    have hxm : bx ≠ bm := by omega
    have hsZ : sb < Z := by omega
    have hsx : sb ≠ bx := by omega
    have hsm : sb ≠ bm := by omega
    have HWB : Hid (W.heap.size ≤ Z) := hide (by omega)
    have HWX : Hid (W.heap.size ≤ bx) := hide (by omega)
    have HWK : Hid (W.heap.size ≤ bm) := hide (by omega)
    have HZ := hide hZ
    clear ho4 hb4 hZ hz3' e1 e2 hsz4 hWw t0 t1 t2 t3 t4
    go_wp2_with fail
    obtain ⟨g0, hg0⟩ : ∃ g, g = freeN n R0 B0 := ⟨_, rfl⟩
    have HG0 := hide hg0
    clear hg0
    go_loopg [12, 13] g0 (fun g v12 v13 wr => ∃ (PL : List Int) (R B pl : Int) (v0 : Value) (ac : Option Addr) (cc : Nat), v0 = v12 ∧ v13 = .slice ac (pts n L R B game pl).length cc ∧ okT n L R B pl ∧ freeN n R B = g ∧ PL ++ play n L R B game pl = PR ∧ Beside wr ac (pts n L R B game pl) v12 bx bm ∧ TurnF (.cells #[.int .i64 n, .int .i64 L, .int .i64 R, .int .i64 B, .int .i64 pl] 64 (0, 0)) (I bm) w4 bx bm Z PL v12 wr)
    case atStart => exact ⟨[], R0, B0, p0, _, a4, c4, rfl, rfl, HOK.out, HG0.out.symm, by rw [HPR.out]; rfl, hBS.out, HT4.out⟩
    case round =>
      clear HT4 hBS
      obtain ⟨PL, R, B, pl, v, ac, cc, rfl, rfl, hok, hfr, hpl, hbs, hT⟩ := hrel
      have HOT := hide hok
      have HPL := hide hpl
      have HFR := hide hfr
      have HT := hide hT
      have HBS := hide hbs
      obtain ⟨t0, t1, t2, t3, t4, _⟩ := row5 hT.box
      obtain ⟨f0, f1, f2, _⟩ := row3 (hT.old.row HS4.out hsZ hsx hsm)
      obtain ⟨pl0, pl1⟩ := hok.2
      have hPL8 : PL.length ≤ 8 := by
        have h1 := congrArg List.length hpl
        have h2 := play_le n L R0 B0 game p0 hn8
        rw [← HPR.out, List.length_append] at *
        omega
      clear hok hfr hpl
      cases hpt : pts n L R B game pl with
      | nil =>
        have hpe : Hid (PL = PR) := hide (by
          have hbe : best n L R B game pl = [] := by
            unfold best
            rw [hpt]
            rfl
          rw [← HPL.out, play_none (by rw [next_pts_of hbe, hpt])]
          simp)
        obtain ⟨av, cv, rfl⟩ := own_form hT.own
        have HFIN : Hid (NewList (PL, 0) W (.returned (.tuple #[.slice av PL.length cv, .int .i64 0])) wr) := hide ⟨av, cv, rfl, ownsRow_base hT.own HWB.out, Two.old hB4.out hT.old HWB.out HWX.out HWK.out⟩
        clear hT hbs hpt t0 t1 t2 t3 t4 f0 f1 f2
        go_wp2_with fail
        go_ret2
        rw [← hpe.out]
        exact HFIN.out
      | cons j0 jr =>
        have HPTS := hide hpt
        have hjl : (0 : Int) < ((j0 :: jr).length : Int) := by simp
        obtain ⟨nj, hnj⟩ : ∃ nj, nj = (j0 :: jr).length := ⟨_, rfl⟩
        have HNJ := hide hnj
        rw [← hnj] at hjl ⊢
        clear hT hbs hpt hnj
        go_wp2_with fail
        refine (HV0.out _ _ _ _ _ HOT.out HT.out.kn).mono ?_
        cases hbe : best n L R B game pl with
        | nil =>
          rintro e w6 ⟨⟨a5, c5, rfl, ho5, hb5⟩, hk5⟩
          have HT6 := hide (HT.out.but hb5 hk5 hxm hmZ)
          have hnx : next n L R B game pl = j0 :: jr := by rw [next_pts_of hbe, HPTS.out]
          obtain ⟨bl, off, i', rfl, hci, hi'⟩ := HBS.out.1.one (k := 0) (by rw [HPTS.out]; simp)
          have hii : i' = j0 := by have := hi'.out; rw [HPTS.out] at this; simp at this; exact this.symm
          subst hii
          obtain ⟨hblv, hblx, hblm, hbll⟩ := HBS.out.2 bl off rfl
          have hci' : w6.cell? ⟨bl, off, none⟩ = some (.int .i64 i') := hb5.cell (by simpa using hci) hblm
          have hbl6 : bl < w6.heap.size := World.block_lt_of_cell? w6 _ hci'
          have hrl := hjl
          have hi8 : Hid (next n L R B game pl = i' :: jr) := hide hnx
          clear ho5 hb5 hk5 hbe t0 t1 t2 t3 t4 f0 f1 f2 hci hi' hnx
          have hmem : i' ∈ pts n L R B game pl := next_pts (by rw [hi8.out]; simp)
          obtain ⟨z0, z1, z2, z3⟩ := pts_mem hmem
          obtain ⟨h1, _, h3⟩ := move_of_pts HOT.out.1 hmem
          obtain ⟨g', hg'⟩ : ∃ g', gk = g' + 1 := ⟨freeN n (mvR R pl i') (mvB B pl i'), by have := HFR.out; omega⟩
          subst hg'
          have hpl2 : (PL ++ [i']) ++ play n L (mvR R pl i') (mvB B pl i') game (1 - pl) = PR := by
            rw [← HPL.out, play_some HOT.out.1 hi8.out]
            simp
          obtain ⟨_, _, _, _, r0, r1, b0, b1⟩ := okF_nums HOT.out.1
          obtain ⟨r, hr⟩ : ∃ r, r = mvR R pl i' := ⟨_, rfl⟩
          obtain ⟨bb, hbb⟩ : ∃ bb, bb = mvB B pl i' := ⟨_, rfl⟩
          have HAF : Hid (∀ V : World, Calls Try.prog 66 #[.agg #[.int .i64 n, .int .i64 L, .int .i64 R, .int .i64 B, .int .i64 pl], .int .i64 i'] V (RetB (.agg #[.int .i64 n, .int .i64 L, .int .i64 r, .int .i64 bb, .int .i64 (1 - pl)]) V)) := hide (fun V => by rw [hr, hbb]; exact after_any n L R B pl i' r0 r1 b0 b1 z0 (by omega) HOT.out.2.1 HOT.out.2.2 V)
          rw [← hr, ← hbb] at h1 h3 hpl2
          have HOT2 : Hid (okT n L r bb (1 - pl)) := hide ⟨h1, by omega, by omega⟩
          have HFR2 : Hid (freeN n r bb = g') := hide (by have := HFR.out; omega)
          have HPL2 := hide hpl2
          have hown6 := HT6.out.own
          have hsz6 := HT6.out.size
          clear hmem h1 h3 hr hbb hpl2 r0 r1 b0 b1
          go_wp2_with (at_builtin; refine wpList_append_own _ rfl _ _ 33 rfl (Z) 2 i0 (.int .i64 0) 1 8 Try.underlying33 hi0 hz0 hz1 hz2 rfl (by decide) _ _ _ rfl (hown6.alloc _) ⟨w6.heap.size, 0, none⟩ 1 1 [.int .i64 i'] rfl rfl (cell_one_new _ _ _) (by simp [Value.oneCell']) (by unfold maxLen; omega) (by omega) (by simp; omega) ?_)
          intro v' w7 hown' hgrow _
          have hT7 := HT6.out.push (HIT.out bm) hxZ hmZ (by simpa using hown') hgrow
          have hci7 : w7.cell? ⟨bl, off, none⟩ = some (.int .i64 i') := (World.cell?_of_block (hgrow.block bl (by simp; omega) (fun e => hblv e.symm))).trans (cell_keep (below_alloc w6 _) hci')
          have HT7 := hide hT7
          obtain ⟨t0, t1, t2, t3, t4, _⟩ := row5 hT7.box
          have t0' : ∀ p : Past w7, p.to.cell? ⟨bx, 0, none⟩ = some (.int .i64 n) := fun p => p.cell t0
          have t1' : ∀ p : Past w7, p.to.cell? ⟨bx, 1, none⟩ = some (.int .i64 L) := fun p => p.cell t1
          have t2' : ∀ p : Past w7, p.to.cell? ⟨bx, 2, none⟩ = some (.int .i64 R) := fun p => p.cell t2
          have t3' : ∀ p : Past w7, p.to.cell? ⟨bx, 3, none⟩ = some (.int .i64 B) := fun p => p.cell t3
          have t4' : ∀ p : Past w7, p.to.cell? ⟨bx, 4, none⟩ = some (.int .i64 pl) := fun p => p.cell t4
          have hci8 : ∀ p : Past w7, p.to.cell? ⟨bl, off, none⟩ = some (.int .i64 i') := fun p => p.cell hci7
          clear hown' hgrow hown6 hT7 hci' hci7 t0 t1 t2 t3 t4
          go_wp2_with fail
          refine wp_region_past_tail 5 (by kernel_rfl) (by kernel_rfl) ?_
          simp only [List.take_succ_cons, List.take_zero, List.drop_succ_cons, List.drop_zero]
          repeat (first | go_big_quiet_step ((go_at_call 66; with_reducible exact ret_past (HAF.out _))) | quiet_step ((go_at_call 66; with_reducible exact ret_past (HAF.out _))))
          refine wpQuiet_nil ?_
          rintro _ ⟨pq, rfl⟩
          have hT8 := HT7.out.below (HIB.out bm) pq.old
          obtain ⟨t0, t1, t2, t3, t4, y0, y1, y2, y3, y4⟩ := row5 hT8.box
          have hT9 := hT8.store (HIT.out bm) hxZ hmZ hxm (box_set5 (.int .i64 n) (.int .i64 L) (.int .i64 r) (.int .i64 bb) (.int .i64 (1 - pl)) hT8.box) (but_set5 (But.refl _ _) _ _ _ _ _)
          obtain ⟨w9, hw9⟩ : ∃ w9, w9 = (((((pq.to.setCell ⟨bx, 0, none⟩ (.int .i64 n)).setCell ⟨bx, 1, none⟩ (.int .i64 L)).setCell ⟨bx, 2, none⟩ (.int .i64 r)).setCell ⟨bx, 3, none⟩ (.int .i64 bb)).setCell ⟨bx, 4, none⟩ (.int .i64 (1 - pl))) := ⟨_, rfl⟩
          rw [← hw9] at hT9
          have HT9 := hide hT9
          clear hT8 t0' t1' t2' t3' t4' hci8 hT9
          go_wp2_with fail
          rw [← hw9]
          clear hw9 t0 t1 t2 t3 t4 y0 y1 y2 y3 y4
          (try go_wp2_with fail)
          refine (HPT.out _ _ _ _ HOT2.out).mono ?_
          rintro e w10 ⟨a10, c10, rfl, ho10, hb10⟩
          have HT10 := hide (HT9.out.below (HIB.out bm) hb10)
          have hBS10 := hide (beside_new (v := v') (bx := bx) (bm := bm) ho10 (fun j hj => (HT9.out.own.lt j hj).2) (by have := HT9.out.size; omega) (by have := HT9.out.size; omega))
          clear ho10 hb10
          (try go_wp2_with fail)
          go_roundg g'
          case rel => exact ⟨PL ++ [i'], r, bb, 1 - pl, _, a10, c10, rfl, rfl, HOT2.out, HFR2.out, HPL2.out, hBS10.out, HT10.out⟩
          case measure => omega
        | cons i rl =>
          rintro e w6 ⟨⟨a6, c6, rfl, ho6, hb5⟩, hk5⟩
          have HT6 := hide (HT.out.but hb5 hk5 hxm hmZ)
          have hi8 : Hid (next n L R B game pl = i :: rl) := hide (next_best hbe)
          obtain ⟨bl, off, i', rfl, hci, hi'⟩ := (intsAt_of_ownsRow ho6).one (k := 0) (by simp)
          have hii : i' = i := by have := hi'.out; simp at this; exact this.symm
          subst hii
          have hci' : w6.cell? ⟨bl, off, none⟩ = some (.int .i64 i') := by simpa using hci
          have hbl6 : bl < w6.heap.size := World.block_lt_of_cell? w6 _ hci'
          have hblv : v.ownBlock ≠ some bl := by
            have h1 := fresh_far ho6 bl off rfl
            intro hx
            have := HT.out.own.lt bl hx
            omega
          have hrl : (0 : Int) < ((i' :: rl).length : Int) := by simp
          obtain ⟨nb, hnb⟩ : ∃ nb, nb = (i' :: rl).length := ⟨_, rfl⟩
          rw [← hnb] at hrl ⊢
          clear ho6 hb5 hk5 hbe t0 t1 t2 t3 t4 f0 f1 f2 hci hi' hnb
          have hmem : i' ∈ pts n L R B game pl := next_pts (by rw [hi8.out]; simp)
          obtain ⟨z0, z1, z2, z3⟩ := pts_mem hmem
          obtain ⟨h1, _, h3⟩ := move_of_pts HOT.out.1 hmem
          obtain ⟨g', hg'⟩ : ∃ g', gk = g' + 1 := ⟨freeN n (mvR R pl i') (mvB B pl i'), by have := HFR.out; omega⟩
          subst hg'
          have hpl2 : (PL ++ [i']) ++ play n L (mvR R pl i') (mvB B pl i') game (1 - pl) = PR := by
            rw [← HPL.out, play_some HOT.out.1 hi8.out]
            simp
          obtain ⟨_, _, _, _, r0, r1, b0, b1⟩ := okF_nums HOT.out.1
          obtain ⟨r, hr⟩ : ∃ r, r = mvR R pl i' := ⟨_, rfl⟩
          obtain ⟨bb, hbb⟩ : ∃ bb, bb = mvB B pl i' := ⟨_, rfl⟩
          have HAF : Hid (∀ V : World, Calls Try.prog 66 #[.agg #[.int .i64 n, .int .i64 L, .int .i64 R, .int .i64 B, .int .i64 pl], .int .i64 i'] V (RetB (.agg #[.int .i64 n, .int .i64 L, .int .i64 r, .int .i64 bb, .int .i64 (1 - pl)]) V)) := hide (fun V => by rw [hr, hbb]; exact after_any n L R B pl i' r0 r1 b0 b1 z0 (by omega) HOT.out.2.1 HOT.out.2.2 V)
          rw [← hr, ← hbb] at h1 h3 hpl2
          have HOT2 : Hid (okT n L r bb (1 - pl)) := hide ⟨h1, by omega, by omega⟩
          have HFR2 : Hid (freeN n r bb = g') := hide (by have := HFR.out; omega)
          have HPL2 := hide hpl2
          have hown6 := HT6.out.own
          have hsz6 := HT6.out.size
          clear hmem h1 h3 hr hbb hpl2 r0 r1 b0 b1
          go_wp2_with (at_builtin; refine wpList_append_own _ rfl _ _ 33 rfl (Z) 2 i0 (.int .i64 0) 1 8 Try.underlying33 hi0 hz0 hz1 hz2 rfl (by decide) _ _ _ rfl (hown6.alloc _) ⟨w6.heap.size, 0, none⟩ 1 1 [.int .i64 i'] rfl rfl (cell_one_new _ _ _) (by simp [Value.oneCell']) (by unfold maxLen; omega) (by omega) (by simp; omega) ?_)
          intro v' w7 hown' hgrow _
          have hT7 := HT6.out.push (HIT.out bm) hxZ hmZ (by simpa using hown') hgrow
          have hci7 : w7.cell? ⟨bl, off, none⟩ = some (.int .i64 i') := (World.cell?_of_block (hgrow.block bl (by simp; omega) (fun e => hblv e.symm))).trans (cell_keep (below_alloc w6 _) hci')
          have HT7 := hide hT7
          obtain ⟨t0, t1, t2, t3, t4, _⟩ := row5 hT7.box
          have t0' : ∀ p : Past w7, p.to.cell? ⟨bx, 0, none⟩ = some (.int .i64 n) := fun p => p.cell t0
          have t1' : ∀ p : Past w7, p.to.cell? ⟨bx, 1, none⟩ = some (.int .i64 L) := fun p => p.cell t1
          have t2' : ∀ p : Past w7, p.to.cell? ⟨bx, 2, none⟩ = some (.int .i64 R) := fun p => p.cell t2
          have t3' : ∀ p : Past w7, p.to.cell? ⟨bx, 3, none⟩ = some (.int .i64 B) := fun p => p.cell t3
          have t4' : ∀ p : Past w7, p.to.cell? ⟨bx, 4, none⟩ = some (.int .i64 pl) := fun p => p.cell t4
          have hci8 : ∀ p : Past w7, p.to.cell? ⟨bl, off, none⟩ = some (.int .i64 i') := fun p => p.cell hci7
          clear hown' hgrow hown6 hT7 hci' hci7 t0 t1 t2 t3 t4
          go_wp2_with fail
          refine wp_region_past_tail 5 (by kernel_rfl) (by kernel_rfl) ?_
          simp only [List.take_succ_cons, List.take_zero, List.drop_succ_cons, List.drop_zero]
          repeat (first | go_big_quiet_step ((go_at_call 66; with_reducible exact ret_past (HAF.out _))) | quiet_step ((go_at_call 66; with_reducible exact ret_past (HAF.out _))))
          refine wpQuiet_nil ?_
          rintro _ ⟨pq, rfl⟩
          have hT8 := HT7.out.below (HIB.out bm) pq.old
          obtain ⟨t0, t1, t2, t3, t4, y0, y1, y2, y3, y4⟩ := row5 hT8.box
          have hT9 := hT8.store (HIT.out bm) hxZ hmZ hxm (box_set5 (.int .i64 n) (.int .i64 L) (.int .i64 r) (.int .i64 bb) (.int .i64 (1 - pl)) hT8.box) (but_set5 (But.refl _ _) _ _ _ _ _)
          obtain ⟨w9, hw9⟩ : ∃ w9, w9 = (((((pq.to.setCell ⟨bx, 0, none⟩ (.int .i64 n)).setCell ⟨bx, 1, none⟩ (.int .i64 L)).setCell ⟨bx, 2, none⟩ (.int .i64 r)).setCell ⟨bx, 3, none⟩ (.int .i64 bb)).setCell ⟨bx, 4, none⟩ (.int .i64 (1 - pl))) := ⟨_, rfl⟩
          rw [← hw9] at hT9
          have HT9 := hide hT9
          clear hT8 t0' t1' t2' t3' t4' hci8 hT9
          go_wp2_with fail
          rw [← hw9]
          clear hw9 t0 t1 t2 t3 t4 y0 y1 y2 y3 y4
          (try go_wp2_with fail)
          refine (HPT.out _ _ _ _ HOT2.out).mono ?_
          rintro e w10 ⟨a10, c10, rfl, ho10, hb10⟩
          have HT10 := hide (HT9.out.below (HIB.out bm) hb10)
          have hBS10 := hide (beside_new (v := v') (bx := bx) (bm := bm) ho10 (fun j hj => (HT9.out.own.lt j hj).2) (by have := HT9.out.size; omega) (by have := HT9.out.size; omega))
          clear ho10 hb10
          (try go_wp2_with fail)
          go_roundg g'
          case rel => exact ⟨PL ++ [i'], r, bb, 1 - pl, _, a10, c10, rfl, rfl, HOT2.out, HFR2.out, HPL2.out, hBS10.out, HT10.out⟩
          case measure => omega
  · have HR : Hid (plR n L R0 B0 game p0 = ([], codeP n L R0 B0 game p0)) := hide (by unfold plR; rw [if_neg hc])
    rw [HR.out]
    obtain ⟨c, hcc⟩ : ∃ c, c = codeP n L R0 B0 game p0 := ⟨_, rfl⟩
    rw [← hcc] at hc ⊢
    have HC := hide hcc.symm
    have HN := hide hc
    have hd : (c != 0) = true := by simp [hc]
    clear hcc hc
    obtain ⟨X0, X1, X2, X3⟩ := hX0.out
    go_enter Try.func34, Try.ntmps34
    go_wp2_with fail
    refine (rulesFor_bad HC.out HN.out _).mono ?_
    rintro e w1 ⟨rfl, hb1⟩
    (try clear X0 X1 X2 X3)
    have hX1 := hide (hX0.out.keep hb1)
    obtain ⟨X0, X1, X2, X3⟩ := hX1.out
    have hB1 := hide (Below.trans' hB0.out hb1)
    clear hb1
    go_wp2_with fail
    go_ret2
    exact newList_nil hB1.out
end Go.Proofs.Ytdimmlpnfghndaa
