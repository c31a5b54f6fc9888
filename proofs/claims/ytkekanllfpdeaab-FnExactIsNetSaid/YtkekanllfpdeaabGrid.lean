/-
  Slices of slices of int64, and games: what reads as a list of lists; the laws' helpers on them; both texts of IsGame.
-/
import Derived.Test.YtkekanllfpdeaabCo
import Derived.Deep.Matrix
import Derived.Deep.RegionHeld3
namespace Go.Proofs.Ytkekanllfpdeaab
open Go.RowKit

/-- The slice of slices at 'a' reads as 'xss'. -/
def RowsAt (w : World) (a : Option Addr) (xss : List (List Int)) : Prop :=
  xss ≠ [] → ∃ b off, a = some ⟨b, off, none⟩ ∧ ∀ i zs, xss[i]? = some zs → ∃ ai ci, w.cell? ⟨b, off + i, none⟩ = some (.slice ai zs.length ci) ∧ IntsAt w ai zs

theorem RowsAt.nil (w : World) (a : Option Addr) : RowsAt w a [] := fun h => absurd rfl h

theorem RowsAt.keep {w w' : World} {a : Option Addr} {xss : List (List Int)} (h : RowsAt w a xss) (hb : Below w.heap.size w w') : RowsAt w' a xss := by
  intro hne
  obtain ⟨b, off, rfl, hc⟩ := h hne
  refine ⟨b, off, rfl, fun i zs hi => ?_⟩
  obtain ⟨ai, ci, hcell, hz⟩ := hc i zs hi
  exact ⟨ai, ci, by rw [hb.cell (p := ⟨b, off + i, none⟩) (World.block_lt_of_cell? w _ hcell)]; exact hcell, hz.keep hb⟩

/-- One row, under names of its own. -/
theorem RowsAt.one {w : World} {a : Option Addr} {xss : List (List Int)} (h : RowsAt w a xss) {k : Nat} (hk : k < xss.length) :
    ∃ b off ai ci zs, a = some ⟨b, off, none⟩ ∧ w.cell? ⟨b, off + k, none⟩ = some (.slice ai zs.length ci) ∧ IntsAt w ai zs ∧ Hid (xss[k]? = some zs) := by
  obtain ⟨b, off, ha, hc⟩ := h (by intro e; subst e; simp at hk)
  obtain ⟨ai, ci, hcell, hz⟩ := hc k xss[k] (List.getElem?_eq_getElem hk)
  exact ⟨b, off, ai, ci, _, ha, hcell, hz, List.getElem?_eq_getElem hk⟩


/-! ### sizes -/
def szRows : List (List Int) → Int → Int
  | [], l => l
  | zs :: r, l => if l - (zs.length : Int) < 0 then -1 else szRows r (l - (zs.length : Int))
def szAll (xss : List (List Int)) (l : Int) : Int := if l - (xss.length : Int) < 0 then -1 else szRows xss (l - (xss.length : Int))

/-- What the laws' bound says. -/
def Small (xss : List (List Int)) : Prop := xss.length ≤ 1048576 ∧ ∀ zs ∈ xss, zs.length ≤ 1048576
theorem szRows_small : ∀ (xss : List (List Int)) (l : Int), l ≤ 1048576 → 0 ≤ szRows xss l → ∀ zs ∈ xss, zs.length ≤ 1048576
  | [], _, _, _ => by simp
  | zs :: r, l, hl, h => by
    unfold szRows at h
    split at h
    · omega
    · intro ys hy
      rcases List.mem_cons.1 hy with e | e
      · subst e; omega
      · exact szRows_small r _ (by omega) h ys e
theorem szAll_small {xss : List (List Int)} (h : 0 ≤ szAll xss 1048576) : Small xss := by
  unfold szAll at h
  split at h
  · omega
  · exact ⟨by omega, szRows_small xss _ (by omega) h⟩
theorem szRows_le : ∀ (xss : List (List Int)) (l : Int), -1 ≤ l → -1 ≤ szRows xss l ∧ szRows xss l ≤ max l (-1)
  | [], l, h => by unfold szRows; omega
  | zs :: r, l, h => by
    unfold szRows
    split
    · omega
    · have := szRows_le r (l - (zs.length : Int)) (by omega)
      omega

set_option maxHeartbeats 400000 in
theorem szInt64S_any (a : Option Addr) (n c : Nat) (l : Int) (w : World) (hl : 0 ≤ l) (hl2 : l ≤ 1048576) (hn : n ≤ 9223372036854775807) :
    Calls Try.prog 35 #[.slice a n c, .int .i64 l] w fun e w' => e = .returned (.int .i64 (if l - (n : Int) < 0 then -1 else l - (n : Int))) ∧ w = w' := by
  by_cases h : l - (n : Int) < 0
  · rw [if_pos h]
    go_enter Try.func35, Try.ntmps35
    go_wp2
    go_ret
    exact ⟨rfl, rfl⟩
  · rw [if_neg h]
    go_enter Try.func35, Try.ntmps35
    go_wp2
    go_ret
    exact ⟨rfl, rfl⟩

/-- No row is longer than a slice can be. -/
def Fits (xss : List (List Int)) : Prop := ∀ zs ∈ xss, zs.length ≤ 9223372036854775807

set_option maxHeartbeats 400000 in
theorem szInt64SS_any (a : Option Addr) (c : Nat) (xss : List (List Int)) (l : Int) (w : World) (ha : RowsAt w a xss) (hl : 0 ≤ l) (hl2 : l ≤ 1048576) (hn : xss.length ≤ 9223372036854775807) (hf : Fits xss) :
    Calls Try.prog 46 #[.slice a xss.length c, .int .i64 l] w fun e w' => e = .returned (.int .i64 (szAll xss l)) ∧ Below w.heap.size w w' := by
  by_cases h : l - (xss.length : Int) < 0
  · have hs : szAll xss l = -1 := by unfold szAll; rw [if_pos h]
    rw [hs]
    clear hs
    go_enter Try.func46, Try.ntmps46
    go_wp2
    go_ret
    exact ⟨rfl, Below.refl _ _⟩
  · have hs : szAll xss l = szRows xss (l - (xss.length : Int)) := by unfold szAll; rw [if_neg h]
    rw [hs]
    clear hs
    go_enter Try.func46, Try.ntmps46
    go_wp2_with fail
    go_loopw [1, 5] (fun s i wr => ∃ (k : Nat) (m : Int), s = .int .i64 m ∧ k ≤ xss.length ∧ i = .int .i64 k ∧ 0 ≤ m ∧ m ≤ 1048576 ∧ Hid (szRows (xss.drop k) m = szRows xss (l - (xss.length : Int))) ∧ Below w.heap.size w wr) (fun _ i _ => xss.length - (intOf i).toNat)
    case atStart => exact ⟨0, _, rfl, Nat.zero_le _, rfl, by omega, by omega, by rw [List.drop_zero]; rfl, Below.refl _ _⟩
    case round =>
      obtain ⟨k, m, rfl, hk, rfl, hm0, hm1, hS, hB⟩ := hrel
      by_cases hlt : k < xss.length
      · obtain ⟨b, off, ai, ci, zs, rfl, hcell, hz, hg⟩ := (ha.keep hB).one hlt
        have hfz : zs.length ≤ 9223372036854775807 := hf zs (mem_of_get hg.out)
        clear ha hf hz
        by_cases hx : m - (zs.length : Int) < 0
        · go_wp2_with (go_at_call 35; refine (szInt64S_any _ _ _ _ _ hm0 hm1 hfz).mono ?_; rw [if_pos hx]; rintro e w1 ⟨rfl, rfl⟩)
          go_ret
          refine ⟨ret_int ?_, hB⟩
          have := hS.out
          rw [drop_of_get hg.out, szRows, if_pos hx] at this
          exact this
        · go_wp2_with (go_at_call 35; refine (szInt64S_any _ _ _ _ _ hm0 hm1 hfz).mono ?_; rw [if_neg hx]; rintro e w1 ⟨rfl, rfl⟩)
          go_roundw
          case rel =>
            refine ⟨k + 1, _, rfl, by omega, by go_num, by omega, by omega, ?_, hB⟩
            have := hS.out
            rw [drop_of_get hg.out, szRows, if_neg (by omega)] at this
            exact this
          case measure => simp [intOf]; omega
      · obtain rfl : k = xss.length := by omega
        go_wp2
        go_ret
        refine ⟨ret_int ?_, hB⟩
        have := hS.out
        rw [List.drop_length] at this
        exact this

/-! ### copies -/
/-- Of the rows the first k are the call's own, row i the value 'vs' at i. -/
def RowsSo (w : World) (lo : Nat) (xss : List (List Int)) (vs : List Value) (k : Nat) : Prop :=
  ∀ i zs, i < k → xss[i]? = some zs → ∃ g c, vs[i]? = some (.slice (some ⟨g, 0, none⟩) zs.length c) ∧ w.ownsRow lo 2 1 (.slice (some ⟨g, 0, none⟩) zs.length c) zs.length (zs.map intV)

theorem RowsSo.keep {w w' : World} {lo : Nat} {xss : List (List Int)} {vs : List Value} {k : Nat} (h : RowsSo w lo xss vs k) (hb : Below w.heap.size w w') : RowsSo w' lo xss vs k := by
  intro i zs hi hz
  obtain ⟨g, c, hv, ho⟩ := h i zs hi hz
  exact ⟨g, c, hv, ownsRow_keep ho hb⟩
theorem RowsSo.store {w : World} {lo b : Nat} {xss : List (List Int)} {vs : List Value} {k o : Nat} {u : Value} (h : RowsSo w lo xss vs k) (hb : b < lo) : RowsSo (w.setCell ⟨b, o, none⟩ u) lo xss vs k := by
  intro i zs hi hz
  obtain ⟨g, c, hv, ho⟩ := h i zs hi hz
  exact ⟨g, c, hv, ownsRow_setCell_below ho hb u⟩
theorem RowsSo.push {w : World} {lo : Nat} {xss : List (List Int)} {vs : List Value} {zs : List Int} {g c : Nat} (h : RowsSo w lo xss vs vs.length) (hz : xss[vs.length]? = some zs)
    (ho : w.ownsRow lo 2 1 (.slice (some ⟨g, 0, none⟩) zs.length c) zs.length (zs.map intV)) : RowsSo w lo xss (vs ++ [.slice (some ⟨g, 0, none⟩) zs.length c]) (vs.length + 1) := by
  intro i ys hi hy
  by_cases e : i = vs.length
  · subst e
    rw [hz] at hy
    cases hy
    exact ⟨g, c, by simp, ho⟩
  · obtain ⟨g', c', hv, ho'⟩ := h i ys (by omega) hy
    exact ⟨g', c', by rw [List.getElem?_append_left (by omega)]; exact hv, ho'⟩

/-- A grid of the call's own: the outer row and all inner ones. -/
def GridOwn (w : World) (lo hi : Nat) (a : Option Addr) (c : Nat) (xss : List (List Int)) : Prop :=
  ∃ (g : Nat) (vs : List Value), a = some ⟨g, 0, none⟩ ∧ g < hi ∧ vs.length = xss.length ∧ w.ownsRow lo 22 1 (.slice a xss.length c) xss.length vs ∧
    ∀ (i : Nat) (zs : List Int), xss[i]? = some zs → ∃ gi ci, gi < hi ∧ vs[i]? = some (.slice (some ⟨gi, 0, none⟩) zs.length ci) ∧ w.ownsRow lo 2 1 (.slice (some ⟨gi, 0, none⟩) zs.length ci) zs.length (zs.map intV)

theorem GridOwn.reads {w : World} {lo hi : Nat} {a : Option Addr} {c : Nat} {xss : List (List Int)} (h : GridOwn w lo hi a c xss) : RowsAt w a xss := by
  obtain ⟨g, vs, rfl, _, hl, ho, hr⟩ := h
  intro _
  refine ⟨g, 0, rfl, fun i zs hi' => ?_⟩
  obtain ⟨gi, ci, _, hv, hoi⟩ := hr i zs hi'
  have hlt : i < xss.length := (List.getElem?_eq_some_iff.1 hi').1
  refine ⟨_, ci, ?_, intsAt_of_ownsRow hoi⟩
  rw [Nat.zero_add, ho.cellAt i (by omega), hv]

def NewGrid (xss : List (List Int)) (w : World) (e : Ending) (w' : World) : Prop :=
  ∃ a c, e = .returned (.slice a xss.length c) ∧ GridOwn w' w.heap.size w'.heap.size a c xss ∧ Below w.heap.size w w'

theorem Try.info22 : (Try.prog.info? 22).map (fun i => (i.zero, i.size, i.bytes)) = some (some (.slice none 0 0), 1, 24) := by kernel_rfl

def filled (vs : List Value) : Nat → Value := fun i => vs[i]?.getD (.slice none 0 0)
theorem filled_set {w : World} {b n : Nat} {t : TypeId} {vs : List Value} (h : w.rowIs b t n (filled vs)) (u : Value) :
    (w.setCell ⟨b, vs.length, none⟩ u).rowIs b t n (filled (vs ++ [u])) := by
  refine (h.set vs.length u).congr ?_
  intro i _
  unfold filled
  by_cases e : i = vs.length
  · subst e; simp
  · simp only [e, if_false]
    by_cases h1 : i < vs.length
    · rw [List.getElem?_append_left h1]
    · rw [List.getElem?_eq_none (by omega), List.getElem?_eq_none (by simp; omega)]

set_option maxHeartbeats 400000 in
theorem toInt64SS_any (a : Option Addr) (c : Nat) (xss : List (List Int)) (w : World) (ha : RowsAt w a xss) (hs : Small xss) :
    Calls Try.prog 48 #[.slice a xss.length c] w (NewGrid xss w) := by
  have hl := hs.1
  have hmk := run_make_row' (P := Try.prog) 26 22 (.slice none 0 0) 24 Try.underlying26 Try.info22 rfl .i64 .i64 xss.length (by omega) (by omega)
  have h0 := World.rowIs_made w (.slice none 0 0) xss.length 22
  go_enter Try.func48, Try.ntmps48
  go_wp2
  go_loopw [4] (fun i wr => ∃ vs : List Value, vs.length ≤ xss.length ∧ i = .int .i64 vs.length ∧ wr.rowIs w.heap.size 22 xss.length (filled vs) ∧ RowsSo wr (w.heap.size + 1) xss vs vs.length ∧ Below w.heap.size w wr) (fun i _ => xss.length - (intOf i).toNat)
  case atStart => exact ⟨[], Nat.zero_le _, rfl, h0.congr (fun i _ => by simp [filled]), (fun _ _ h => absurd h (by simp)), (Below.refl _ _).alloc (Nat.le_refl _) _⟩
  case round =>
    clear h0
    obtain ⟨vs, hk, rfl, hr, hR, hB⟩ := hrel
    by_cases hlt : vs.length < xss.length
    · obtain ⟨b, off, ai, ci, zs, rfl, hcell, hz, hg⟩ := (ha.keep hB).one hlt
      have hzs : zs.length ≤ 1048576 := hs.2 zs (mem_of_get hg.out)
      have hsz : w.heap.size < wr.heap.size := hr.lt
      clear ha hs
      go_wp2_with fail
      refine (toInt64S_any _ _ zs _ hz hzs).mono ?_
      rintro e w1 ⟨g, c1, rfl, ho, hB1⟩
      have hr1 := hr.of_block (hB1.block _ hsz)
      have hce := hr1.cell hlt
      have hfr := hr1.frozen vs.length
      have hn := filled_set hr1 (.slice (some ⟨g, 0, none⟩) zs.length c1)
      have hR1 := ((hR.keep hB1).push hg.out (ownsRow_base ho (by omega))).store (b := w.heap.size) (o := vs.length) (u := .slice (some ⟨g, 0, none⟩) zs.length c1) (by omega)
      have hB' := (Below.trans hB (hB1.mono (by omega))).setCell (p := ⟨w.heap.size, vs.length, none⟩) (Nat.le_refl _) (.slice (some ⟨g, 0, none⟩) zs.length c1)
      clear hr hr1 hR hB hB1 ho
      go_wp2
      go_roundw
      case rel => exact ⟨vs ++ [.slice (some ⟨g, 0, none⟩) zs.length c1], by simp; omega, by simp, hn, by simpa using hR1, hB'⟩
      case measure => simp [intOf]; omega
    · have e : vs.length = xss.length := by omega
      have hfin : NewGrid xss w (.returned (.slice (some ⟨w.heap.size, 0, none⟩) xss.length xss.length)) wr := by
        refine ⟨_, _, rfl, ⟨w.heap.size, vs, rfl, hr.lt, e, rowIs_owns hr (Nat.le_refl _) (by unfold maxLen; omega) e (fun i hi => by simp [filled, show i < vs.length by omega]), fun i zs hi => ?_⟩, hB⟩
        obtain ⟨g, ci, hv, ho⟩ := hR i zs (by rw [e]; exact (List.getElem?_eq_some_iff.1 hi).1) hi
        exact ⟨g, ci, (ho.lt g rfl).2, hv, ownsRow_base ho (by omega)⟩
      clear hr hR ha hs
      go_wp2
      go_ret
      exact hfin

set_option maxHeartbeats 400000 in
theorem eqInt64SS_same (a b : Option Addr) (c d : Nat) (xss : List (List Int)) (w : World) (ha : RowsAt w a xss) (hb : RowsAt w b xss) (hs : Small xss) :
    Calls Try.prog 13 #[.slice a xss.length c, .slice b xss.length d] w fun e w' => e = .returned (.bool true) ∧ Quiet w w' := by
  have hl := hs.1
  go_enter Try.func13, Try.ntmps13
  go_wp2_with fail
  go_loopw [5] (fun i wr => ∃ k : Nat, k ≤ xss.length ∧ i = .int .i64 k ∧ Quiet w wr) (fun i _ => xss.length - (intOf i).toNat)
  case atStart => exact ⟨0, Nat.zero_le _, rfl, Quiet.refl _⟩
  case round =>
    obtain ⟨k, hk, rfl, hq⟩ := hrel
    by_cases hlt : k < xss.length
    · obtain ⟨b1, o1, a1, c1, zs, rfl, hc1, hz1, hg1⟩ := (ha.keep hq.below).one hlt
      obtain ⟨b2, o2, a2, c2, zs', rfl, hc2, hz2, hg2⟩ := (hb.keep hq.below).one hlt
      have e : zs' = zs := by have h1 := hg1.out; have h2 := hg2.out; rw [h1] at h2; exact (Option.some.inj h2).symm
      subst e
      have hzs : zs'.length ≤ 1048576 := hs.2 _ (mem_of_get hg1.out)
      clear ha hb hs
      go_wp2_with fail
      go_quiet ((go_at_call 21; exact Calls.quiet_of (eqInt64S_quiet _ _ _ _ zs' _ hz1 hz2 hzs)))
      go_wp2_with fail
      go_roundw
      case rel => exact ⟨k + 1, by omega, by go_num, hq.drewN _⟩
      case measure => simp [intOf]; omega
    · go_wp2_with fail
      go_ret
      exact ⟨rfl, hq⟩

/-! ### games: a struct of one field -/
theorem GridOwn.keep {w w' : World} {lo hi : Nat} {a : Option Addr} {c : Nat} {xss : List (List Int)} (h : GridOwn w lo hi a c xss) (hb : Below w.heap.size w w') : GridOwn w' lo hi a c xss := by
  obtain ⟨g, vs, ha, hg, hl, ho, hr⟩ := h
  refine ⟨g, vs, ha, hg, hl, ownsRow_keep ho hb, fun i zs hi => ?_⟩
  obtain ⟨gi, ci, h1, h2, h3⟩ := hr i zs hi
  exact ⟨gi, ci, h1, h2, ownsRow_keep h3 hb⟩
theorem GridOwn.store {w : World} {lo hi b o : Nat} {u : Value} {a : Option Addr} {c : Nat} {xss : List (List Int)} (h : GridOwn w lo hi a c xss) (hb : b < lo) : GridOwn (w.setCell ⟨b, o, none⟩ u) lo hi a c xss := by
  obtain ⟨g, vs, ha, hg, hl, ho, hr⟩ := h
  refine ⟨g, vs, ha, hg, hl, ownsRow_setCell_below ho hb u, fun i zs hi => ?_⟩
  obtain ⟨gi, ci, h1, h2, h3⟩ := hr i zs hi
  exact ⟨gi, ci, h1, h2, ownsRow_setCell_below h3 hb u⟩
theorem GridOwn.mono {w : World} {lo hi lo' hi' : Nat} {a : Option Addr} {c : Nat} {xss : List (List Int)} (h : GridOwn w lo hi a c xss) (h1 : lo' ≤ lo) (h2 : hi ≤ hi') : GridOwn w lo' hi' a c xss := by
  obtain ⟨g, vs, ha, hg, hl, ho, hr⟩ := h
  refine ⟨g, vs, ha, by omega, hl, ownsRow_base ho h1, fun i zs hi => ?_⟩
  obtain ⟨gi, ci, k1, k2, k3⟩ := hr i zs hi
  exact ⟨gi, ci, by omega, k2, ownsRow_base k3 h1⟩

def NewGame (xss : List (List Int)) (w : World) (e : Ending) (w' : World) : Prop :=
  ∃ a c, e = .returned (.agg #[.slice a xss.length c]) ∧ GridOwn w' w.heap.size w'.heap.size a c xss ∧ Below w.heap.size w w'
end Go.Proofs.Ytkekanllfpdeaab
