/-
  Slices of slices of slices of int64, and sprouts positions: what reads as a list of lists of lists; the laws' helpers on them.
-/
import Derived.Test.YtlllkmobhjlmoabMarks
namespace Go.Proofs.Ytlllkmobhjlmoab
open Go.RowKit

/-- The slice of slices of slices at 'a' reads as 'X'. -/
def CubeAt (w : World) (a : Option Addr) (X : List (List (List Int))) : Prop :=
  X ≠ [] → ∃ b off, a = some ⟨b, off, none⟩ ∧ ∀ i xss, X[i]? = some xss → ∃ ai ci, w.cell? ⟨b, off + i, none⟩ = some (.slice ai xss.length ci) ∧ RowsAt w ai xss

theorem CubeAt.nil (w : World) (a : Option Addr) : CubeAt w a [] := fun h => absurd rfl h
theorem CubeAt.keep {w w' : World} {a : Option Addr} {X : List (List (List Int))} (h : CubeAt w a X) (hb : Below w.heap.size w w') : CubeAt w' a X := by
  intro hne
  obtain ⟨b, off, rfl, hc⟩ := h hne
  refine ⟨b, off, rfl, fun i zs hi => ?_⟩
  obtain ⟨ai, ci, hcell, hz⟩ := hc i zs hi
  exact ⟨ai, ci, by rw [hb.cell (p := ⟨b, off + i, none⟩) (World.block_lt_of_cell? w _ hcell)]; exact hcell, hz.keep hb⟩
/-- One region, under names of its own. -/
theorem CubeAt.one {w : World} {a : Option Addr} {X : List (List (List Int))} (h : CubeAt w a X) {k : Nat} (hk : k < X.length) :
    ∃ b off ai ci xss, a = some ⟨b, off, none⟩ ∧ w.cell? ⟨b, off + k, none⟩ = some (.slice ai xss.length ci) ∧ RowsAt w ai xss ∧ Hid (X[k]? = some xss) := by
  obtain ⟨b, off, ha, hc⟩ := h (by intro e; subst e; simp at hk)
  obtain ⟨ai, ci, hcell, hz⟩ := hc k X[k] (List.getElem?_eq_getElem hk)
  exact ⟨b, off, ai, ci, _, ha, hcell, hz, List.getElem?_eq_getElem hk⟩

/-! ### sizes -/
def tot : List (List Int) → Nat
  | [] => 0
  | zs :: r => zs.length + tot r
def tot3 : List (List (List Int)) → Nat
  | [] => 0
  | xss :: r => tot xss + tot3 r
theorem szRows_tot : ∀ (xss : List (List Int)) (l : Int), 0 ≤ szRows xss l → szRows xss l = l - tot xss
  | [], l, _ => by simp [szRows, tot]
  | zs :: r, l, h => by
    unfold szRows at h ⊢
    split at h
    · omega
    · rename_i hx
      rw [if_neg hx]
      have := szRows_tot r _ h
      simp only [tot]
      omega
theorem szAll_tot {xss : List (List Int)} {l : Int} (h : 0 ≤ szAll xss l) : szAll xss l = l - xss.length - tot xss := by
  unfold szAll at h ⊢
  split at h
  · omega
  · rename_i hx
    rw [if_neg hx]
    exact szRows_tot xss _ h
theorem szAll_range (xss : List (List Int)) (l : Int) : -1 ≤ szAll xss l ∧ szAll xss l ≤ max l (-1) := by
  unfold szAll
  split
  · omega
  · have := szRows_le xss (l - (xss.length : Int)) (by omega)
    omega
def szCubes : List (List (List Int)) → Int → Int
  | [], l => l
  | xss :: r, l => if szAll xss l < 0 then -1 else szCubes r (szAll xss l)
def szCube (X : List (List (List Int))) (l : Int) : Int := if l - (X.length : Int) < 0 then -1 else szCubes X (l - (X.length : Int))
theorem szCubes_range : ∀ (X : List (List (List Int))) (l : Int), -1 ≤ l → -1 ≤ szCubes X l ∧ szCubes X l ≤ max l (-1)
  | [], l, h => by unfold szCubes; omega
  | xss :: r, l, h => by
    have h2 := szAll_range xss l
    unfold szCubes
    split
    · omega
    · have := szCubes_range r (szAll xss l) (by omega)
      omega
theorem szCube_range {X : List (List (List Int))} {l : Int} : -1 ≤ szCube X l ∧ (szCube X l < 0 → szCube X l = -1) := by
  unfold szCube
  split
  · omega
  · have := szCubes_range X (l - (X.length : Int)) (by omega)
    omega

/-- What the laws' bound says of a position. -/
def Small3 (X : List (List (List Int))) : Prop := X.length ≤ 1048576 ∧ tot3 X ≤ 1048576 ∧ ∀ xss ∈ X, Small xss
theorem szAll_small' {xss : List (List Int)} {l : Int} (hl : l ≤ 1048576) (h : 0 ≤ szAll xss l) : Small xss := by
  unfold szAll at h
  split at h
  · omega
  · exact ⟨by omega, szRows_small xss _ (by omega) h⟩
theorem szCubes_small : ∀ (X : List (List (List Int))) (l : Int), l ≤ 1048576 → 0 ≤ szCubes X l → (tot3 X : Int) ≤ l ∧ ∀ xss ∈ X, Small xss
  | [], l, hl, h => by
    simp only [szCubes] at h
    exact ⟨by simpa [tot3] using h, by simp⟩
  | xss :: r, l, hl, h => by
    have h2 := szAll_range xss l
    unfold szCubes at h
    split at h
    · omega
    · rename_i hx
      have hs := szAll_small' hl (by omega : 0 ≤ szAll xss l)
      have ht := szAll_tot (by omega : 0 ≤ szAll xss l)
      obtain ⟨h3, h4⟩ := szCubes_small r (szAll xss l) (by omega) h
      refine ⟨by simp only [tot3]; omega, fun ys hy => ?_⟩
      rcases List.mem_cons.1 hy with e | e
      · subst e; exact hs
      · exact h4 ys e
theorem szCube_small {X : List (List (List Int))} (h : 0 ≤ szCube X 1048576) : Small3 X := by
  unfold szCube at h
  split at h
  · omega
  · have := szCubes_small X _ (by omega) h
    exact ⟨by omega, by omega, this.2⟩

/-- No row is longer than a slice can be. -/
def Fits3 (X : List (List (List Int))) : Prop := ∀ xss ∈ X, xss.length ≤ 9223372036854775807 ∧ Fits xss

set_option maxHeartbeats 400000 in
theorem szInt64SSS_any (a : Option Addr) (c : Nat) (X : List (List (List Int))) (l : Int) (w : World) (ha : CubeAt w a X) (hl : 0 ≤ l) (hl2 : l ≤ 1048576) (hn : X.length ≤ 9223372036854775807) (hf : Fits3 X) :
    Calls Try.prog 19 #[.slice a X.length c, .int .i64 l] w fun e w' => e = .returned (.int .i64 (szCube X l)) ∧ Below w.heap.size w w' := by
  by_cases h : l - (X.length : Int) < 0
  · have hs : szCube X l = -1 := by unfold szCube; rw [if_pos h]
    rw [hs]
    clear hs
    go_enter Try.func19, Try.ntmps19
    go_wp2
    go_ret
    exact ⟨rfl, Below.refl _ _⟩
  · have hs : szCube X l = szCubes X (l - (X.length : Int)) := by unfold szCube; rw [if_neg h]
    rw [hs]
    clear hs
    go_enter Try.func19, Try.ntmps19
    go_wp2_with fail
    go_loopw [1, 5] (fun s i wr => ∃ (k : Nat) (m : Int), s = .int .i64 m ∧ k ≤ X.length ∧ i = .int .i64 k ∧ 0 ≤ m ∧ m ≤ 1048576 ∧ Hid (szCubes (X.drop k) m = szCubes X (l - (X.length : Int))) ∧ Below w.heap.size w wr) (fun _ i _ => X.length - (intOf i).toNat)
    case atStart => exact ⟨0, _, rfl, Nat.zero_le _, rfl, by omega, by omega, by rw [List.drop_zero]; rfl, Below.refl _ _⟩
    case round =>
      obtain ⟨k, m, rfl, hk, rfl, hm0, hm1, hS, hB⟩ := hrel
      by_cases hlt : k < X.length
      · obtain ⟨b, off, ai, ci, xss, rfl, hcell, hz, hg⟩ := (ha.keep hB).one hlt
        obtain ⟨hfz, hfx⟩ := hf xss (mem_of_get hg.out)
        obtain ⟨m2, hm2⟩ : ∃ m2, m2 = szAll xss m := ⟨_, rfl⟩
        have hr := szAll_range xss m
        rw [← hm2] at hr
        have hS2 : Hid (szCubes X (l - (X.length : Int)) = if m2 < 0 then -1 else szCubes (X.drop (k + 1)) m2) := by
          refine hide ?_
          have := hS.out
          rw [drop_of_get hg.out, szCubes, ← hm2] at this
          exact this.symm
        have HM := hide hm2
        clear ha hf hm2
        by_cases hx : m2 < 0
        · obtain rfl : m2 = -1 := by omega
          go_wp2_with fail
          refine (szInt64SS_any _ _ xss _ _ hz hm0 hm1 hfz hfx).mono ?_
          rintro e w1 ⟨he, hB1⟩
          rw [← HM.out] at he
          subst he
          go_wp2_with fail
          go_ret
          refine ⟨ret_int ?_, Below.trans' hB hB1⟩
          rw [hS2.out, if_pos hx]
        · go_wp2_with fail
          refine (szInt64SS_any _ _ xss _ _ hz hm0 hm1 hfz hfx).mono ?_
          rintro e w1 ⟨he, hB1⟩
          rw [← HM.out] at he
          subst he
          go_wp2_with fail
          go_roundw
          case rel => exact ⟨k + 1, _, rfl, by omega, by go_num, by omega, by omega, by have := hS2.out; rw [if_neg (by omega)] at this; exact this.symm, Below.trans' hB hB1⟩
          case measure => simp [intOf]; omega
      · obtain rfl : k = X.length := by omega
        go_wp2
        go_ret
        refine ⟨ret_int ?_, hB⟩
        have := hS.out
        rw [List.drop_length] at this
        exact this

set_option maxHeartbeats 400000 in
theorem szSprouts_any (s : Int) (a : Option Addr) (c : Nat) (X : List (List (List Int))) (w : World) (ha : CubeAt w a X) (hn : X.length ≤ 9223372036854775807) (hf : Fits3 X) :
    Calls Try.prog 6 #[.agg #[.int .i64 s, .slice a X.length c], .int .i64 1048576] w fun e w' => e = .returned (.int .i64 (szCube X 1048576)) ∧ Below w.heap.size w w' := by
  have hlo := szCube_range (X := X) (l := 1048576)
  obtain ⟨m, hs⟩ : ∃ m, m = szCube X 1048576 := ⟨_, rfl⟩
  rw [← hs] at hlo ⊢
  have HS := hide hs
  clear hs
  go_enter Try.func6, Try.ntmps6
  go_wp2_with fail
  have hB : Below w.heap.size w (w.alloc (.cells #[.int .i64 s, .slice a X.length c] 24)) := (Below.refl _ _).alloc (Nat.le_refl _) _
  refine (szInt64SSS_any _ _ X _ _ (ha.keep hB) (by omega) (by omega) hn hf).mono ?_
  rintro e w1 ⟨he, hB1⟩
  rw [← HS.out] at he
  subst he
  by_cases h : m < 0
  · obtain rfl : m = -1 := by omega
    go_wp2_with fail
    go_ret
    exact ⟨rfl, Below.trans' hB hB1⟩
  · go_wp2_with fail
    go_ret
    exact ⟨rfl, Below.trans' hB hB1⟩

/-! ### copies -/
/-- A cube of the call's own: the outer row and the grids. -/
def CubeOwn (w : World) (lo hi : Nat) (a : Option Addr) (c : Nat) (X : List (List (List Int))) : Prop :=
  ∃ (g : Nat) (vs : List Value), a = some ⟨g, 0, none⟩ ∧ g < hi ∧ vs.length = X.length ∧ w.ownsRow lo 54 1 (.slice a X.length c) X.length vs ∧
    ∀ (i : Nat) (xss : List (List Int)), X[i]? = some xss → ∃ ai ci, vs[i]? = some (.slice ai xss.length ci) ∧ GridOwn w lo hi ai ci xss

theorem CubeOwn.reads {w : World} {lo hi : Nat} {a : Option Addr} {c : Nat} {X : List (List (List Int))} (h : CubeOwn w lo hi a c X) : CubeAt w a X := by
  obtain ⟨g, vs, rfl, _, hl, ho, hr⟩ := h
  intro _
  refine ⟨g, 0, rfl, fun i zs hi' => ?_⟩
  obtain ⟨ai, ci, hv, hoi⟩ := hr i zs hi'
  have hlt : i < X.length := (List.getElem?_eq_some_iff.1 hi').1
  refine ⟨_, ci, ?_, hoi.reads⟩
  rw [Nat.zero_add, ho.cellAt i (by omega), hv]
theorem CubeOwn.keep {w w' : World} {lo hi : Nat} {a : Option Addr} {c : Nat} {X : List (List (List Int))} (h : CubeOwn w lo hi a c X) (hb : Below w.heap.size w w') : CubeOwn w' lo hi a c X := by
  obtain ⟨g, vs, ha, hg, hl, ho, hr⟩ := h
  refine ⟨g, vs, ha, hg, hl, ownsRow_keep ho hb, fun i zs hi => ?_⟩
  obtain ⟨ai, ci, h1, h2⟩ := hr i zs hi
  exact ⟨ai, ci, h1, h2.keep hb⟩
theorem CubeOwn.store {w : World} {lo hi b o : Nat} {u : Value} {a : Option Addr} {c : Nat} {X : List (List (List Int))} (h : CubeOwn w lo hi a c X) (hb : b < lo) : CubeOwn (w.setCell ⟨b, o, none⟩ u) lo hi a c X := by
  obtain ⟨g, vs, ha, hg, hl, ho, hr⟩ := h
  refine ⟨g, vs, ha, hg, hl, ownsRow_setCell_below ho hb u, fun i zs hi => ?_⟩
  obtain ⟨ai, ci, h1, h2⟩ := hr i zs hi
  exact ⟨ai, ci, h1, h2.store hb⟩
theorem CubeOwn.mono {w : World} {lo hi lo' hi' : Nat} {a : Option Addr} {c : Nat} {X : List (List (List Int))} (h : CubeOwn w lo hi a c X) (h1 : lo' ≤ lo) (h2 : hi ≤ hi') : CubeOwn w lo' hi' a c X := by
  obtain ⟨g, vs, ha, hg, hl, ho, hr⟩ := h
  refine ⟨g, vs, ha, by omega, hl, ownsRow_base ho h1, fun i zs hi => ?_⟩
  obtain ⟨ai, ci, k1, k2⟩ := hr i zs hi
  exact ⟨ai, ci, k1, k2.mono h1 h2⟩

/-- Of the grids the first k are the call's own, grid i the value 'vs' at i. -/
def GridsSo (w : World) (lo : Nat) (X : List (List (List Int))) (vs : List Value) (k : Nat) : Prop :=
  ∀ i xss, i < k → X[i]? = some xss → ∃ a c, vs[i]? = some (.slice a xss.length c) ∧ GridOwn w lo w.heap.size a c xss
theorem GridsSo.keep {w w' : World} {lo : Nat} {X : List (List (List Int))} {vs : List Value} {k : Nat} (h : GridsSo w lo X vs k) (hb : Below w.heap.size w w') : GridsSo w' lo X vs k := by
  intro i zs hi hz
  obtain ⟨a, c, hv, ho⟩ := h i zs hi hz
  exact ⟨a, c, hv, (ho.keep hb).mono (Nat.le_refl _) hb.size⟩
theorem GridsSo.store {w : World} {lo b : Nat} {X : List (List (List Int))} {vs : List Value} {k o : Nat} {u : Value} (h : GridsSo w lo X vs k) (hb : b < lo) : GridsSo (w.setCell ⟨b, o, none⟩ u) lo X vs k := by
  intro i zs hi hz
  obtain ⟨a, c, hv, ho⟩ := h i zs hi hz
  exact ⟨a, c, hv, (ho.store hb).mono (Nat.le_refl _) (by simp [World.setCell])⟩
theorem GridsSo.push {w : World} {lo : Nat} {X : List (List (List Int))} {vs : List Value} {xss : List (List Int)} {a : Option Addr} {c : Nat} (h : GridsSo w lo X vs vs.length) (hz : X[vs.length]? = some xss)
    (ho : GridOwn w lo w.heap.size a c xss) : GridsSo w lo X (vs ++ [.slice a xss.length c]) (vs.length + 1) := by
  intro i ys hi hy
  by_cases e : i = vs.length
  · subst e
    rw [hz] at hy
    cases hy
    exact ⟨a, c, by simp, ho⟩
  · obtain ⟨a', c', hv, ho'⟩ := h i ys (by omega) hy
    exact ⟨a', c', by rw [List.getElem?_append_left (by omega)]; exact hv, ho'⟩

def NewCube (X : List (List (List Int))) (w : World) (e : Ending) (w' : World) : Prop :=
  ∃ a c, e = .returned (.slice a X.length c) ∧ CubeOwn w' w.heap.size w'.heap.size a c X ∧ Below w.heap.size w w'

theorem Try.info54 : (Try.prog.info? 54).map (fun i => (i.zero, i.size, i.bytes)) = some (some (.slice none 0 0), 1, 24) := by kernel_rfl

set_option maxHeartbeats 400000 in
theorem toInt64SSS_any (a : Option Addr) (c : Nat) (X : List (List (List Int))) (w : World) (ha : CubeAt w a X) (hs : Small3 X) :
    Calls Try.prog 21 #[.slice a X.length c] w (NewCube X w) := by
  have hl := hs.1
  have hmk := run_make_row' (P := Try.prog) 22 54 (.slice none 0 0) 24 Try.underlying22 Try.info54 rfl .i64 .i64 X.length (by omega) (by omega)
  have h0 := World.rowIs_made w (.slice none 0 0) X.length 54
  have HS := hide hs
  clear hs
  go_enter Try.func21, Try.ntmps21
  go_wp2
  go_loopw [4] (fun i wr => ∃ vs : List Value, vs.length ≤ X.length ∧ i = .int .i64 vs.length ∧ wr.rowIs w.heap.size 54 X.length (filled vs) ∧ GridsSo wr (w.heap.size + 1) X vs vs.length ∧ Below w.heap.size w wr) (fun i _ => X.length - (intOf i).toNat)
  case atStart => exact ⟨[], Nat.zero_le _, rfl, h0.congr (fun i _ => by simp [filled]), (fun _ _ h => absurd h (by simp)), (Below.refl _ _).alloc (Nat.le_refl _) _⟩
  case round =>
    clear h0
    obtain ⟨vs, hk, rfl, hr, hR, hB⟩ := hrel
    by_cases hlt : vs.length < X.length
    · obtain ⟨b, off, ai, ci, xss, rfl, hcell, hz, hg⟩ := (ha.keep hB).one hlt
      have hzs : Small xss := HS.out.2.2 xss (mem_of_get hg.out)
      have hsz : w.heap.size < wr.heap.size := hr.lt
      clear ha
      go_wp2_with fail
      refine (toInt64SS_any _ _ xss _ hz hzs).mono ?_
      rintro e w1 ⟨a1, c1, rfl, ho, hB1⟩
      have hr1 := hr.of_block (hB1.block _ hsz)
      have hce := hr1.cell hlt
      have hfr := hr1.frozen vs.length
      have hn := filled_set hr1 (.slice a1 xss.length c1)
      have hR1 := ((hR.keep hB1).push hg.out (ho.mono (by omega) (Nat.le_refl _))).store (b := w.heap.size) (o := vs.length) (u := .slice a1 xss.length c1) (by omega)
      have hB' := (Below.trans hB (hB1.mono (by omega))).setCell (p := ⟨w.heap.size, vs.length, none⟩) (Nat.le_refl _) (.slice a1 xss.length c1)
      clear hr hr1 hR hB hB1 ho hzs
      go_wp2
      go_roundw
      case rel => exact ⟨vs ++ [.slice a1 xss.length c1], by simp; omega, by simp, hn, by simpa using hR1, hB'⟩
      case measure => simp [intOf]; omega
    · have e : vs.length = X.length := by omega
      have hfin : NewCube X w (.returned (.slice (some ⟨w.heap.size, 0, none⟩) X.length X.length)) wr := by
        refine ⟨_, _, rfl, ⟨w.heap.size, vs, rfl, hr.lt, e, rowIs_owns hr (Nat.le_refl _) (by unfold maxLen; omega) e (fun i hi => by simp [filled, show i < vs.length by omega]), fun i zs hi => ?_⟩, hB⟩
        obtain ⟨a', c', hv, ho⟩ := hR i zs (by rw [e]; exact (List.getElem?_eq_some_iff.1 hi).1) hi
        exact ⟨a', c', hv, ho.mono (by omega) (Nat.le_refl _)⟩
      clear hr hR ha
      go_wp2
      go_ret
      exact hfin

set_option maxHeartbeats 400000 in
theorem eqInt64SSS_same (a b : Option Addr) (c d : Nat) (X : List (List (List Int))) (w : World) (ha : CubeAt w a X) (hb : CubeAt w b X) (hs : Small3 X) :
    Calls Try.prog 24 #[.slice a X.length c, .slice b X.length d] w fun e w' => e = .returned (.bool true) ∧ Quiet w w' := by
  have hl := hs.1
  have HS := hide hs
  clear hs
  go_enter Try.func24, Try.ntmps24
  go_wp2_with fail
  go_loopw [5] (fun i wr => ∃ k : Nat, k ≤ X.length ∧ i = .int .i64 k ∧ Quiet w wr) (fun i _ => X.length - (intOf i).toNat)
  case atStart => exact ⟨0, Nat.zero_le _, rfl, Quiet.refl _⟩
  case round =>
    obtain ⟨k, hk, rfl, hq⟩ := hrel
    by_cases hlt : k < X.length
    · obtain ⟨b1, o1, a1, c1, zs, rfl, hc1, hz1, hg1⟩ := (ha.keep hq.below).one hlt
      obtain ⟨b2, o2, a2, c2, zs', rfl, hc2, hz2, hg2⟩ := (hb.keep hq.below).one hlt
      have e : zs' = zs := by have h1 := hg1.out; have h2 := hg2.out; rw [h1] at h2; exact (Option.some.inj h2).symm
      subst e
      have hzs := HS.out.2.2 _ (mem_of_get hg1.out)
      clear ha hb
      go_wp2_with fail
      go_quiet ((go_at_call 35; exact Calls.quiet_of (eqInt64SS_same _ _ _ _ zs' _ hz1 hz2 hzs)))
      go_wp2_with fail
      go_roundw
      case rel => exact ⟨k + 1, by omega, by go_num, hq.drewN _⟩
      case measure => simp [intOf]; omega
    · go_wp2_with fail
      go_ret
      exact ⟨rfl, hq⟩

/-! ### positions: a struct of two fields -/
set_option maxHeartbeats 400000 in
theorem eqSprouts_same (s : Int) (a b : Option Addr) (c d : Nat) (X : List (List (List Int))) (w : World) (ha : CubeAt w a X) (hb : CubeAt w b X) (hs : Small3 X) :
    Calls Try.prog 11 #[.agg #[.int .i64 s, .slice a X.length c], .agg #[.int .i64 s, .slice b X.length d]] w fun e w' => e = .returned (.bool true) ∧ Below w.heap.size w w' := by
  have hB : Below w.heap.size w ((w.alloc (.cells #[.int .i64 s, .slice a X.length c] 29)).alloc (.cells #[.int .i64 s, .slice b X.length d] 29)) := ((Below.refl _ _).alloc (Nat.le_refl _) _).alloc (by simp) _
  go_enter Try.func11, Try.ntmps11
  go_wp2_with fail
  refine (eqInt64SSS_same _ _ _ _ X _ (ha.keep hB) (hb.keep hB) hs).mono ?_
  rintro e w1 ⟨rfl, hq⟩
  go_wp2_with fail
  go_ret
  exact ⟨rfl, hB.trans hq.below⟩
end Go.Proofs.Ytlllkmobhjlmoab
