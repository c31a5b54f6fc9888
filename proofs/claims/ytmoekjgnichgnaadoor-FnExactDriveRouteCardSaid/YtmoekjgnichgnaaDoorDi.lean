/-
  DriveRoute, the program's text.
-/
import Derived.Test.YtmoekjgnichgnaaDoorDs
import Derived.Test.YtmoekjgnichgnaaDoorJm
import Derived.WalkMore
import Derived.Deep.Cut
namespace Go.Proofs.YtmoekjgnichgnaaDoor
open Go.RowKit Go.Deep
set_option linter.unusedVariables false

/-- The moves from the j-th on. -/
def adv : Option Addr → Nat → Option Addr
  | none, _ => none
  | some p, j => some ⟨p.block, p.off + j, p.spot⟩
abbrev mvV (am : Option Addr) (n cm j : Nat) : Value := .slice (adv am j) (n - j) (cm - j)
theorem adv_zero (am : Option Addr) : adv am 0 = am := by cases am <;> rfl
/-- What stands at a look at the next move. -/
structure Road (ss : List ByteArray) (ms : List Int) (R : Cr × Int) (W : World) (b7 j : Nat) (K : Cr) (w : World) : Prop where
  rd : drv ss K (ms.drop j) = R
  ok : okCr ss K = true
  box : w.heap[b7]? = some (.cells #[.int .i64 K.x, .int .i64 K.y, .int .i64 K.u, .int .i64 K.v] 28 (0, 0))
  res : w.heap[W.heap.size]? = some (.cells #[.int .i64 0, .int .i64 0, .int .i64 0, .int .i64 0] 28 (0, 0))
  old : Below W.heap.size W w
  lt : W.heap.size < b7
theorem Road.keep {ss : List ByteArray} {ms : List Int} {R : Cr × Int} {W : World} {b7 j : Nat} {K : Cr} {w w' : World} (h : Road ss ms R W b7 j K w) (hb : Below w.heap.size w w') : Road ss ms R W b7 j K w' :=
  ⟨h.rd, h.ok, box_keep h.box hb, box_keep h.res hb, Below.trans' h.old hb, h.lt⟩
theorem st4_other {w : World} {b k : Nat} (x y u v : Int) (h : k ≠ b) : (st4 w b x y u v).heap[k]? = w.heap[k]? :=
  (Below.heap_setCell _ _ _ _ h).trans ((Below.heap_setCell _ _ _ _ h).trans ((Below.heap_setCell _ _ _ _ h).trans (Below.heap_setCell _ _ _ _ h)))
theorem Road.drive {ss : List ByteArray} {ms : List Int} {R : Cr × Int} {W : World} {b7 j : Nat} {K : Cr} {w : World} {gx gy gu gv : Int} (h : Road ss ms R W b7 j K w) (hd : drv ss ⟨gx, gy, gu, gv⟩ (ms.drop (j + 1)) = R) (ho : okCr ss ⟨gx, gy, gu, gv⟩ = true) : Road ss ms R W b7 (j + 1) ⟨gx, gy, gu, gv⟩ (st4 w b7 gx gy gu gv) :=
  ⟨hd, ho, st4_box gx gy gu gv h.box, (st4_other gx gy gu gv (by have := h.lt; omega)).trans h.res, st4_below gx gy gu gv h.old (by have := h.lt; omega), h.lt⟩
/-- At a jump to a label: 0 (look), 1 (drive). -/
def DrAt (a : Option Addr) (c : Nat) (ss : List ByteArray) (am : Option Addr) (cm : Nat) (ms : List Int) (R : Cr × Int) (W : World) (m l : Nat) (act : Act) (w : World) : Prop :=
  ∃ (b7 j : Nat) (K : Cr) (ad : Option Addr) (cp : Nat) (u8 u9 u10 u11 u12 u13 u14 u15 u16 u17 u18 u19 u20 u21 u22 u23 u24 u25 u26 u27 u28 u29 u30 u31 u32 u33 u34 u35 u36 : Value), act = { tmps := #[.slice a ss.length c, (.slice ad (ms.length - j) cp), undef, undef, .pointer (some ⟨W.heap.size, 0, none⟩), .int .i64 0, .slice a ss.length c, .pointer (some ⟨b7, 0, none⟩), u8, u9, u10, u11, u12, u13, u14, u15, u16, u17, u18, u19, u20, u21, u22, u23, u24, u25, u26, u27, u28, u29, u30, u31, u32, u33, u34, u35, u36], defers := [] } ∧ (j < ms.length → ad = adv am j ∧ cp = cm - j) ∧ j ≤ ms.length ∧ Hid (Road ss ms R W b7 j K w) ∧ ((l = 0 ∧ m = 2 * (ms.length - j) + 1) ∨ (l = 1 ∧ m = 2 * (ms.length - j) ∧ ∃ q, Hid (ms[j]? = some q) ∧ Hid (opn ss K q = true)))

set_option maxRecDepth 100000 in
set_option maxHeartbeats 8000000 in
theorem implDrive_any (a : Option Addr) (c : Nat) (ss : List ByteArray) (am : Option Addr) (cm : Nat) (ms : List Int) (W : World) (ha : StrsAt W a ss) (hl : ss.length ≤ 1048576) (hz : ∀ s ∈ ss, s.size ≤ 1048576) (hcap : ss.length ≤ c) (hm : IntsAt W am ms) (hml : ms.length ≤ 1048576) (hmc : ms.length ≤ cm) :
    Calls Tryd.prog 45 #[.slice a ss.length c, .slice am ms.length cm] W (RetB (.tuple #[crV (drR ss ms).1, .int .i64 (drR ss ms).2]) W) := by
  obtain ⟨W0, hW0, hb0, hr0⟩ := carBox W 0 0 0 0
  have hs0 : W0.heap.size = W.heap.size + 1 := by rw [hW0]; simp
  have HB0 := hide hb0
  have HA0 := hide ha
  have HM0 := hide hm
  have HA := hide (ha.keep hb0)
  have HM := hide (hm.keep hb0)
  have HR0 := hide hr0
  have HIS := hide (implIsTrack_any a c ss W0 HA.out hl hz hcap)
  clear ha hr0 hb0 hm
  cases hok : trk ss
  · have HF : Hid (drR ss ms = (Cr.zero, 1)) := hide (by unfold drR; rw [hok]; rfl)
    rw [hok] at HIS
    clear hl hz hok
    go_enter Tryd.func45, Tryd.ntmps45
    go_wp2_with fail
    go_step3
    rw [← hW0]
    clear hW0
    (try go_wp2_with fail)
    refine HIS.out.mono ?_
    rintro e w1 ⟨rfl, hb1⟩
    have hB := hide (st4_below 0 0 0 0 (b := W.heap.size) (Below.trans' HB0.out hb1) (Nat.le_refl _))
    have hr9 := box_keep HR0.out hb1
    have hst := st4_box 0 0 0 0 hr9
    obtain ⟨f0, f1, f2, f3⟩ := froz4 hr9
    obtain ⟨d0, d1, d2, d3⟩ := row4 hr9
    obtain ⟨j0, j1, j2, j3⟩ := row4 hst
    have HJ := hide (And.intro j0 (And.intro j1 (And.intro j2 j3)))
    clear hst j0 j1 j2 j3 hr9
    go_wp2_with fail
    (try rw [Exit.noGoto_ret])
    obtain ⟨j0, j1, j2, j3⟩ := HJ.out
    unfold st4 at j0 j1 j2 j3 hB
    exact bodyPost_ret (v := .tuple #[.agg #[.int .i64 0, .int .i64 0, .int .i64 0, .int .i64 0], .int .i64 1]) (by simp [results, Tryd.results45, go_sem, j0, j1, j2, j3]) rfl ⟨by rw [HF.out]; rfl, hB.out⟩
  rw [hok] at HIS
  have HAM := hide (fun V (h : IntsAt V am ms) => areMoves_any am cm ms V h hml)
  cases hmo : mvsOk ms
  · have HF : Hid (drR ss ms = (Cr.zero, 2)) := hide (by unfold drR; rw [hok, hmo]; rfl)
    rw [hmo] at HAM
    clear hl hz hok hmo
    go_enter Tryd.func45, Tryd.ntmps45
    go_wp2_with fail
    go_step3
    rw [← hW0]
    clear hW0
    (try go_wp2_with fail)
    refine HIS.out.mono ?_
    rintro e w1 ⟨rfl, hb1⟩
    have HB1 := hide (Below.trans' HB0.out hb1)
    have HM1 := hide (HM.out.keep hb1)
    have HR1 := hide (box_keep HR0.out hb1)
    clear hb1
    go_wp2_with fail
    refine (HAM.out _ HM1.out).mono ?_
    rintro e w2 ⟨rfl, hb2⟩
    have hB := hide (st4_below 0 0 0 0 (b := W.heap.size) (Below.trans' HB1.out hb2) (Nat.le_refl _))
    have hr9 := box_keep HR1.out hb2
    have hst := st4_box 0 0 0 0 hr9
    obtain ⟨f0, f1, f2, f3⟩ := froz4 hr9
    obtain ⟨d0, d1, d2, d3⟩ := row4 hr9
    obtain ⟨j0, j1, j2, j3⟩ := row4 hst
    have HJ := hide (And.intro j0 (And.intro j1 (And.intro j2 j3)))
    clear hst j0 j1 j2 j3 hr9
    go_wp2_with fail
    (try rw [Exit.noGoto_ret])
    obtain ⟨j0, j1, j2, j3⟩ := HJ.out
    unfold st4 at j0 j1 j2 j3 hB
    exact bodyPost_ret (v := .tuple #[.agg #[.int .i64 0, .int .i64 0, .int .i64 0, .int .i64 0], .int .i64 2]) (by simp [results, Tryd.results45, go_sem, j0, j1, j2, j3]) rfl ⟨by rw [HF.out]; rfl, hB.out⟩
  obtain ⟨hn, hin⟩ := mvsOk_parts hmo
  have HFI := hide (fun V (h : StrsAt V a ss) => firstCar_any a c ss V h hok)
  have hsh := trk_shp hok
  have hof := okCr_first hok
  obtain ⟨R, hR⟩ : ∃ R, R = drR ss ms := ⟨_, rfl⟩
  have HRE : Hid (drv ss (fstC ss) ms = R) := hide (by
    rw [hR]
    unfold drR
    rw [if_pos hok, if_pos hmo])
  rw [← hR]
  rw [hmo] at HAM
  have HIN := hide hin
  clear hl hz hok hR hmo hin
  go_enter Tryd.func45, Tryd.ntmps45
  go_wp2_with fail
  refine wp_scope_labels (fun m l act w => DrAt a c ss am cm ms R W m l act w) ?_ ?_
  · rw [← hW0]
    clear hW0
    go_wp2_with fail
    refine HIS.out.mono ?_
    rintro e w1 ⟨rfl, hb1⟩
    have HB1 := hide (Below.trans' HB0.out hb1)
    have HA1 := hide (HA.out.keep hb1)
    have HM1 := hide (HM.out.keep hb1)
    have HR1 := hide (box_keep HR0.out hb1)
    clear hb1
    go_wp2_with fail
    refine (HAM.out _ HM1.out).mono ?_
    rintro e w2 ⟨rfl, hb2⟩
    have HB2 := hide (Below.trans' HB1.out hb2)
    have HA2 := hide (HA1.out.keep hb2)
    have HR2 := hide (box_keep HR1.out hb2)
    clear hb2
    go_wp2_with fail
    refine (HFI.out _ HA2.out).mono ?_
    rintro e w3 ⟨rfl, hb3⟩
    obtain ⟨⟨x, y, u, v⟩, hfc⟩ : ∃ fc, fc = fstC ss := ⟨_, rfl⟩
    rw [← hfc] at HRE hof ⊢
    unfold crV
    dsimp only
    obtain ⟨V, hV⟩ : ∃ V, V = w3.alloc (.cells #[.int .i64 x, .int .i64 y, .int .i64 u, .int .i64 v] 28) := ⟨_, rfl⟩
    have hbV : Below w3.heap.size w3 V := by rw [hV]; exact below_alloc _ _
    have hrV : V.heap[w3.heap.size]? = some (.cells #[.int .i64 x, .int .i64 y, .int .i64 u, .int .i64 v] 28 (0, 0)) := by rw [hV]; exact row_new _ _ _
    obtain ⟨b7, hb7⟩ : ∃ b7, b7 = w3.heap.size := ⟨_, rfl⟩
    have hb7l : W.heap.size < b7 := by rw [hb7]; exact Nat.lt_of_lt_of_le (block_lt HR2.out) hb3.size
    rw [← hb7] at hrV
    obtain ⟨j, hj0⟩ : ∃ j : Nat, j = 0 := ⟨_, rfl⟩
    obtain ⟨ad, had⟩ : ∃ ad, ad = am := ⟨_, rfl⟩
    obtain ⟨cp, hcp⟩ : ∃ cp, cp = cm := ⟨_, rfl⟩
    have hav : j < ms.length → ad = adv am j ∧ cp = cm - j := fun _ => by rw [hj0, adv_zero, had, hcp]; exact ⟨rfl, rfl⟩
    have HRo : Hid (Road ss ms R W b7 j ⟨x, y, u, v⟩ V) := hide ⟨by rw [hj0]; exact HRE.out, hof, hrV, box_keep HR2.out (Below.trans' hb3 hbV), Below.trans' HB2.out (Below.trans' hb3 hbV), hb7l⟩
    have hmv : Value.slice am ms.length cm = .slice ad (ms.length - j) cp := by rw [hj0, had, hcp]; rfl
    have hj : j ≤ ms.length := by omega
    clear hb3 hbV hrV hof hfc hj0 had hcp
    go_wp2_with fail
    rw [← hV, ← hb7, hmv]
    clear hV hb7 hmv
    go_step3
    have hsz := HRo.out.old.size
    by_cases hje : j = ms.length
    · have HF : Hid (R = (⟨x, y, u, v⟩, 0)) := hide (by
        have h := HRo.out.rd
        rw [hje, drv_end] at h
        exact h.symm)
      have hlen : ((ms.length - j : Nat) : Int) = 0 := by omega
      have hr9 := HRo.out.res
      obtain ⟨g0, g1, g2, g3⟩ := row4 HRo.out.box
      have hst := st4_box x y u v hr9
      obtain ⟨f0, f1, f2, f3⟩ := froz4 hr9
      obtain ⟨e0, e1, e2, e3⟩ := row4 hr9
      obtain ⟨j0, j1, j2, j3⟩ := row4 hst
      have hB := hide (st4_below x y u v (b := W.heap.size) HRo.out.old (Nat.le_refl _))
      have HJ := hide (And.intro j0 (And.intro j1 (And.intro j2 j3)))
      clear hst j0 j1 j2 j3 hr9
      go_wp2_with fail
      (try rw [jumps_ret])
      obtain ⟨j0, j1, j2, j3⟩ := HJ.out
      unfold st4 at j0 j1 j2 j3 hB
      exact bodyPost_ret (v := .tuple #[.agg #[.int .i64 x, .int .i64 y, .int .i64 u, .int .i64 v], .int .i64 0]) (by simp [results, Tryd.results45, go_sem, j0, j1, j2, j3]) rfl ⟨by rw [HF.out]; rfl, hB.out⟩
    · have hjl : j < ms.length := by omega
      have hlen : ¬ ((ms.length - j : Nat) : Int) = 0 := by omega
      have hlp : 0 < ms.length - j := by omega
      obtain ⟨rfl, rfl⟩ := hav hjl
      obtain ⟨bm, om, q, rfl, hcm, hgm⟩ := (HM0.out.keep HRo.out.old).one (k := j) hjl
      obtain ⟨hq0, hq8⟩ := HIN.out q (List.mem_of_getElem? hgm.out)
      obtain ⟨g0, g1, g2, g3⟩ := row4 HRo.out.box
      have p0 : ∀ p : Past V, p.to.cell? ⟨b7, 0, none⟩ = some (.int .i64 x) := fun p => p.cell g0
      have p1 : ∀ p : Past V, p.to.cell? ⟨b7, 1, none⟩ = some (.int .i64 y) := fun p => p.cell g1
      have p2 : ∀ p : Past V, p.to.cell? ⟨b7, 2, none⟩ = some (.int .i64 u) := fun p => p.cell g2
      have p3 : ∀ p : Past V, p.to.cell? ⟨b7, 3, none⟩ = some (.int .i64 v) := fun p => p.cell g3
      have p4 : ∀ p : Past V, p.to.cell? ⟨bm, om + j, none⟩ = some (.int .i64 q) := fun p => p.cell hcm
      have HIO := hide (fun (p : Past V) => isOpen_any a c ss x y u v q p.to ((HA0.out.keep HRo.out.old).keep p.old) hsh HRo.out.ok hq0 hq8)
      have hav2 : adv (some ⟨bm, om, none⟩) j = some ⟨bm, om + j, none⟩ := rfl
      rw [hav2]
      cases hop : opn ss ⟨x, y, u, v⟩ q
      · have HF : Hid (R = (Cr.zero, 5)) := hide (HRo.out.rd.symm.trans (drv_no hgm.out hop))
        rw [hop] at HIO
        clear hop
        clear hav hav2 g0 g1 g2 g3 hcm
        go_wp2_with fail
        refine wp_region_past (by kernel_rfl) (by kernel_rfl) ?_
        repeat (first | go_big_quiet_step ((go_at_call 67; (with_reducible exact ret_past (HIO.out _)))) | quiet_step ((go_at_call 67; (with_reducible exact ret_past (HIO.out _)))))
        refine wpQuiet_nil ?_
        rintro _ ⟨pq, rfl⟩
        have hr9 := box_keep HRo.out.res pq.old
        have hst := st4_box 0 0 0 0 hr9
        obtain ⟨f0, f1, f2, f3⟩ := froz4 hr9
        obtain ⟨e0, e1, e2, e3⟩ := row4 hr9
        obtain ⟨j0, j1, j2, j3⟩ := row4 hst
        have hB := hide (st4_below 0 0 0 0 (b := W.heap.size) (Below.trans' HRo.out.old pq.old) (Nat.le_refl _))
        have HJ := hide (And.intro j0 (And.intro j1 (And.intro j2 j3)))
        clear hst j0 j1 j2 j3 hr9 p0 p1 p2 p3 p4
        go_wp2_with fail
        (try rw [jumps_ret])
        obtain ⟨j0, j1, j2, j3⟩ := HJ.out
        unfold st4 at j0 j1 j2 j3 hB
        exact bodyPost_ret (v := .tuple #[.agg #[.int .i64 0, .int .i64 0, .int .i64 0, .int .i64 0], .int .i64 5]) (by simp [results, Tryd.results45, go_sem, j0, j1, j2, j3]) rfl ⟨by rw [HF.out]; rfl, hB.out⟩
      · have HOP := hide hop
        rw [hop] at HIO
        clear hop
        clear hav hav2 g0 g1 g2 g3 hcm
        go_wp2_with fail
        refine wp_region_past (by kernel_rfl) (by kernel_rfl) ?_
        repeat (first | go_big_quiet_step ((go_at_call 67; (with_reducible exact ret_past (HIO.out _)))) | quiet_step ((go_at_call 67; (with_reducible exact ret_past (HIO.out _)))))
        refine wpQuiet_nil ?_
        rintro _ ⟨pq, rfl⟩
        have hRo2 := hide (Road.keep HRo.out pq.old)
        clear p0 p1 p2 p3 p4
        go_wp2_with fail
        go_step3
        exact ⟨2 * (ms.length - j), b7, j, ⟨x, y, u, v⟩, some ⟨bm, om + j, none⟩, cm - j, _, _, _, _, _, _, _, _, _, _, _, _, _, _, _, _, _, _, _, _, _, _, _, _, _, _, _, _, _, rfl, fun _ => ⟨rfl, rfl⟩, by omega, hRo2, .inr ⟨rfl, rfl, q, hgm, HOP⟩⟩
  · intro m l act w hJ
    obtain ⟨b7, j, ⟨x, y, u, v⟩, ad, cp, u8, u9, u10, u11, u12, u13, u14, u15, u16, u17, u18, u19, u20, u21, u22, u23, u24, u25, u26, u27, u28, u29, u30, u31, u32, u33, u34, u35, u36, rfl, hav, hj, HRo, hcase⟩ := hJ
    rcases hcase with ⟨rfl, rfl⟩ | ⟨rfl, rfl, q, hgm, HOP⟩
    · refine ⟨_, rfl, ?_⟩
      obtain ⟨V, hV⟩ : ∃ V, V = w := ⟨_, rfl⟩
      rw [← hV] at HRo ⊢
      clear hV
      have hsz := HRo.out.old.size
      by_cases hje : j = ms.length
      · have HF : Hid (R = (⟨x, y, u, v⟩, 0)) := hide (by
          have h := HRo.out.rd
          rw [hje, drv_end] at h
          exact h.symm)
        have hlen : ((ms.length - j : Nat) : Int) = 0 := by omega
        have hr9 := HRo.out.res
        obtain ⟨g0, g1, g2, g3⟩ := row4 HRo.out.box
        have hst := st4_box x y u v hr9
        obtain ⟨f0, f1, f2, f3⟩ := froz4 hr9
        obtain ⟨e0, e1, e2, e3⟩ := row4 hr9
        obtain ⟨j0, j1, j2, j3⟩ := row4 hst
        have hB := hide (st4_below x y u v (b := W.heap.size) HRo.out.old (Nat.le_refl _))
        have HJ := hide (And.intro j0 (And.intro j1 (And.intro j2 j3)))
        clear hst j0 j1 j2 j3 hr9
        go_wp2_with fail
        (try rw [jumps_ret])
        obtain ⟨j0, j1, j2, j3⟩ := HJ.out
        unfold st4 at j0 j1 j2 j3 hB
        exact bodyPost_ret (v := .tuple #[.agg #[.int .i64 x, .int .i64 y, .int .i64 u, .int .i64 v], .int .i64 0]) (by simp [results, Tryd.results45, go_sem, j0, j1, j2, j3]) rfl ⟨by rw [HF.out]; rfl, hB.out⟩
      · have hjl : j < ms.length := by omega
        have hlen : ¬ ((ms.length - j : Nat) : Int) = 0 := by omega
        have hlp : 0 < ms.length - j := by omega
        obtain ⟨rfl, rfl⟩ := hav hjl
        obtain ⟨bm, om, q, rfl, hcm, hgm⟩ := (HM0.out.keep HRo.out.old).one (k := j) hjl
        obtain ⟨hq0, hq8⟩ := HIN.out q (List.mem_of_getElem? hgm.out)
        obtain ⟨g0, g1, g2, g3⟩ := row4 HRo.out.box
        have p0 : ∀ p : Past V, p.to.cell? ⟨b7, 0, none⟩ = some (.int .i64 x) := fun p => p.cell g0
        have p1 : ∀ p : Past V, p.to.cell? ⟨b7, 1, none⟩ = some (.int .i64 y) := fun p => p.cell g1
        have p2 : ∀ p : Past V, p.to.cell? ⟨b7, 2, none⟩ = some (.int .i64 u) := fun p => p.cell g2
        have p3 : ∀ p : Past V, p.to.cell? ⟨b7, 3, none⟩ = some (.int .i64 v) := fun p => p.cell g3
        have p4 : ∀ p : Past V, p.to.cell? ⟨bm, om + j, none⟩ = some (.int .i64 q) := fun p => p.cell hcm
        have HIO := hide (fun (p : Past V) => isOpen_any a c ss x y u v q p.to ((HA0.out.keep HRo.out.old).keep p.old) hsh HRo.out.ok hq0 hq8)
        have hav2 : adv (some ⟨bm, om, none⟩) j = some ⟨bm, om + j, none⟩ := rfl
        rw [hav2]
        cases hop : opn ss ⟨x, y, u, v⟩ q
        · have HF : Hid (R = (Cr.zero, 5)) := hide (HRo.out.rd.symm.trans (drv_no hgm.out hop))
          rw [hop] at HIO
          clear hop
          clear hav hav2 g0 g1 g2 g3 hcm
          go_wp2_with fail
          refine wp_region_past (by kernel_rfl) (by kernel_rfl) ?_
          repeat (first | go_big_quiet_step ((go_at_call 67; (with_reducible exact ret_past (HIO.out _)))) | quiet_step ((go_at_call 67; (with_reducible exact ret_past (HIO.out _)))))
          refine wpQuiet_nil ?_
          rintro _ ⟨pq, rfl⟩
          have hr9 := box_keep HRo.out.res pq.old
          have hst := st4_box 0 0 0 0 hr9
          obtain ⟨f0, f1, f2, f3⟩ := froz4 hr9
          obtain ⟨e0, e1, e2, e3⟩ := row4 hr9
          obtain ⟨j0, j1, j2, j3⟩ := row4 hst
          have hB := hide (st4_below 0 0 0 0 (b := W.heap.size) (Below.trans' HRo.out.old pq.old) (Nat.le_refl _))
          have HJ := hide (And.intro j0 (And.intro j1 (And.intro j2 j3)))
          clear hst j0 j1 j2 j3 hr9 p0 p1 p2 p3 p4
          go_wp2_with fail
          (try rw [jumps_ret])
          obtain ⟨j0, j1, j2, j3⟩ := HJ.out
          unfold st4 at j0 j1 j2 j3 hB
          exact bodyPost_ret (v := .tuple #[.agg #[.int .i64 0, .int .i64 0, .int .i64 0, .int .i64 0], .int .i64 5]) (by simp [results, Tryd.results45, go_sem, j0, j1, j2, j3]) rfl ⟨by rw [HF.out]; rfl, hB.out⟩
        · have HOP := hide hop
          rw [hop] at HIO
          clear hop
          clear hav hav2 g0 g1 g2 g3 hcm
          go_wp2_with fail
          refine wp_region_past (by kernel_rfl) (by kernel_rfl) ?_
          repeat (first | go_big_quiet_step ((go_at_call 67; (with_reducible exact ret_past (HIO.out _)))) | quiet_step ((go_at_call 67; (with_reducible exact ret_past (HIO.out _)))))
          refine wpQuiet_nil ?_
          rintro _ ⟨pq, rfl⟩
          have hRo2 := hide (Road.keep HRo.out pq.old)
          clear p0 p1 p2 p3 p4
          go_wp2_with fail
          go_step3
          exact ⟨2 * (ms.length - j), by omega, b7, j, ⟨x, y, u, v⟩, some ⟨bm, om + j, none⟩, cm - j, _, _, _, _, _, _, _, _, _, _, _, _, _, _, _, _, _, _, _, _, _, _, _, _, _, _, _, _, _, rfl, fun _ => ⟨rfl, rfl⟩, by omega, hRo2, .inr ⟨rfl, rfl, q, hgm, HOP⟩⟩
    · refine ⟨_, rfl, ?_⟩
      obtain ⟨V, hV⟩ : ∃ V, V = w := ⟨_, rfl⟩
      rw [← hV] at HRo ⊢
      clear hV
      have hjl : j < ms.length := (List.getElem?_eq_some_iff.1 hgm.out).1
      have hlp : 0 < ms.length - j := by omega
      obtain ⟨rfl, rfl⟩ := hav hjl
      obtain ⟨bm, om, q', rfl, hcm, hgm'⟩ := (HM0.out.keep HRo.out.old).one (k := j) hjl
      obtain rfl : q = q' := by have h := hgm.out; rw [hgm'.out] at h; exact (Option.some.inj h).symm
      obtain ⟨hq0, hq8⟩ := HIN.out q (List.mem_of_getElem? hgm.out)
      obtain ⟨⟨x0, x1⟩, ⟨y0, y1⟩, ⟨v0, v1⟩, ⟨v2, v3⟩⟩ := okCr_rg hsh HRo.out.ok
      dsimp only at x0 x1 y0 y1 v0 v1 v2 v3
      obtain ⟨⟨gx, gy, gu, gv⟩, hK⟩ : ∃ K, K = (⟨x, y, u, v⟩ : Cr).go q := ⟨_, rfl⟩
      have HBH := hide (fun V => behind_any x y u v q (by unfold Rg; omega) (by unfold Rg; omega) (by unfold Rg; omega) (by unfold Rg; omega) hq0 hq8 V)
      rw [← hK] at HBH
      unfold crV at HBH
      dsimp only at HBH
      have HD2 : Hid (drv ss ⟨gx, gy, gu, gv⟩ (ms.drop (j + 1)) = R ∧ okCr ss ⟨gx, gy, gu, gv⟩ = true) := hide (by
        rw [hK]
        exact ⟨(drv_yes hgm.out HOP.out).symm.trans HRo.out.rd, opn_okCr HOP.out⟩)
      obtain ⟨g0, g1, g2, g3⟩ := row4 HRo.out.box
      have p0 : ∀ p : Past V, p.to.cell? ⟨b7, 0, none⟩ = some (.int .i64 x) := fun p => p.cell g0
      have p1 : ∀ p : Past V, p.to.cell? ⟨b7, 1, none⟩ = some (.int .i64 y) := fun p => p.cell g1
      have p2 : ∀ p : Past V, p.to.cell? ⟨b7, 2, none⟩ = some (.int .i64 u) := fun p => p.cell g2
      have p3 : ∀ p : Past V, p.to.cell? ⟨b7, 3, none⟩ = some (.int .i64 v) := fun p => p.cell g3
      have p4 : ∀ p : Past V, p.to.cell? ⟨bm, om + j, none⟩ = some (.int .i64 q) := fun p => p.cell hcm
      have hav2 : adv (some ⟨bm, om, none⟩) j = some ⟨bm, om + j, none⟩ := rfl
      rw [hav2]
      clear hav hav2 g0 g1 g2 g3 hcm hK
      go_wp2_with fail
      refine wp_region_past_tail 5 (by kernel_rfl) (by kernel_rfl) ?_
      simp only [List.take_succ_cons, List.take_zero, List.drop_succ_cons, List.drop_zero]
      repeat (first | go_big_quiet_step ((go_at_call 68; (with_reducible exact ret_past (HBH.out _)))) | quiet_step ((go_at_call 68; (with_reducible exact ret_past (HBH.out _)))))
      refine wpQuiet_nil ?_
      rintro _ ⟨pq, rfl⟩
      have hr7 := box_keep HRo.out.box pq.old
      have hRo1 := HRo.out.keep pq.old
      obtain ⟨f0, f1, f2, f3⟩ := froz4 hr7
      obtain ⟨e0, e1, e2, e3⟩ := row4 hr7
      have HRo3 : Hid (Road ss ms R W b7 (j + 1) ⟨gx, gy, gu, gv⟩ (st4 pq.to b7 gx gy gu gv)) := hide (hRo1.drive HD2.out.1 HD2.out.2)
      clear p0 p1 p2 p3 p4 hr7 hRo1
      go_wp2_with fail
      all_goals
        unfold st4 at HRo3
        go_step3
        refine ⟨2 * (ms.length - (j + 1)) + 1, by omega, b7, j + 1, ⟨gx, gy, gu, gv⟩, _, _, _, _, _, _, _, _, _, _, _, _, _, _, _, _, _, _, _, _, _, _, _, _, _, _, _, _, _, _, _, rfl, ?_, by omega, HRo3, .inl ⟨rfl, rfl⟩⟩
        intro hlt2
        first | exact ⟨rfl, rfl⟩ | exact ⟨rfl, by omega⟩ | (exfalso; omega)
end Go.Proofs.YtmoekjgnichgnaaDoor
