/-
  The table of what is known by states: l07Place, l07Table; what a table holds.
-/
import Derived.Test.YtkekanllfpdeaaaDoorNb
import Derived.Test.YtkekanllfpdeaaaDoorPm
import Derived.Test.YtkekanllfpdeaaaDoorBut
import Derived.Test.YtkekanllfpdeaaaDoorOw
namespace Go.Proofs.YtkekanllfpdeaaaDoor
open Go.RowKit
set_option linter.unusedVariables false

/-- The place of the first k points' colours. -/
def plc3 (R B : Int) : Nat → Int
  | 0 => 0
  | k + 1 => plc3 R B k * 3 + dg R k + 2 * dg B k
def pow3 : Nat → Int
  | 0 => 1
  | k + 1 => pow3 k * 3
theorem pow3_pos : ∀ k, 1 ≤ pow3 k
  | 0 => by simp [pow3]
  | k + 1 => by have := pow3_pos k; simp only [pow3]; omega
theorem pow3_mono {a b : Nat} (h : a ≤ b) : pow3 a ≤ pow3 b := by
  induction b with
  | zero => rw [show a = 0 by omega]; exact Int.le_refl _
  | succ b ih =>
    by_cases e : a = b + 1
    · rw [e]; exact Int.le_refl _
    · have := ih (by omega)
      have h2 := pow3_pos b
      simp only [pow3]
      omega
theorem pow3_9 {n : Nat} (h : n ≤ 9) : pow3 n ≤ 19683 := pow3_mono (b := 9) h
/-- No node is both: as the digits say it. -/
def Apart (R B : Int) : Prop := ∀ i : Nat, dg R i + 2 * dg B i ≤ 2
theorem St.apart {n F S : Int} (h : St n F S) : Apart F S := by
  intro i
  have h2 := andI_zero h.f.1 h.s.1 (k := (i : Int)) (by omega) h.ap
  have d1 := dg_01 F i
  have d2 := dg_01 S i
  by_cases e : dg F i = 1 ∧ dg S i = 1
  · exact absurd ⟨by simp [drawn, e.1], by simp [drawn, e.2]⟩ h2
  · omega
theorem plc3_range {R B : Int} (h : Apart R B) : ∀ k, 0 ≤ plc3 R B k ∧ plc3 R B k < pow3 k
  | 0 => by simp [plc3, pow3]
  | k + 1 => by
    have ih := plc3_range h k
    have h1 := h k
    have h2 := dg_01 R k
    have h3 := dg_01 B k
    simp only [plc3, pow3]
    omega
theorem plc3_inj {R B R' B' : Int} (h : Apart R B) (h' : Apart R' B') : ∀ k, plc3 R B k = plc3 R' B' k → ∀ i : Nat, i < k → dg R i = dg R' i ∧ dg B i = dg B' i
  | 0, _, i, hi => by omega
  | k + 1, he, i, hi => by
    have h1 := h k
    have h2 := dg_01 R k
    have h3 := dg_01 B k
    have h1' := h' k
    have h2' := dg_01 R' k
    have h3' := dg_01 B' k
    simp only [plc3] at he
    have e : plc3 R B k = plc3 R' B' k ∧ dg R k = dg R' k ∧ dg B k = dg B' k := by omega
    by_cases e2 : i = k
    · subst e2; exact e.2
    · exact plc3_inj h h' k e.1 i (by omega)
theorem eq_of_dg {n : Nat} {x y : Int} (h0 : 0 ≤ x) (h1 : x < 2 ^ n) (k0 : 0 ≤ y) (k1 : y < 2 ^ n) (h : ∀ i : Nat, i < n → dg x i = dg y i) : x = y := by
  obtain ⟨a, rfl⟩ := Int.eq_ofNat_of_zero_le h0
  obtain ⟨b, rfl⟩ := Int.eq_ofNat_of_zero_le k0
  have ha : a < 2 ^ n := by exact_mod_cast h1
  have hb : b < 2 ^ n := by exact_mod_cast k1
  congr 1
  apply Nat.eq_of_testBit_eq
  intro i
  by_cases hi : i < n
  · have := h i hi
    rw [dg_nat, dg_nat] at this
    cases h2 : a.testBit i <;> cases h3 : b.testBit i <;> simp [h2, h3] at this ⊢
  · rw [Nat.testBit_lt_two_pow (Nat.lt_of_lt_of_le ha (Nat.pow_le_pow_right (by omega) (by omega))), Nat.testBit_lt_two_pow (Nat.lt_of_lt_of_le hb (Nat.pow_le_pow_right (by omega) (by omega)))]
theorem plc_range {n F S : Int} (h : St n F S) : 0 ≤ plc3 F S n.toNat ∧ plc3 F S n.toNat < pow3 n.toNat := plc3_range h.apart n.toNat
theorem plc_inj {n F S F' S' : Int} (h : St n F S) (h' : St n F' S') (e : plc3 F S n.toNat = plc3 F' S' n.toNat) : F = F' ∧ S = S' := by
  have k := plc3_inj h.apart h'.apart _ e
  exact ⟨eq_of_dg h.f.1 h.f.2 h'.f.1 h'.f.2 (fun i hi => (k i hi).1), eq_of_dg h.s.1 h.s.2 h'.s.1 h'.s.2 (fun i hi => (k i hi).2)⟩

theorem infoI8 : (Tryd.prog.info? 154).map (fun i => (i.zero, i.size, i.bytes)) = some (some (.int .i8 0), 1, 1) := by kernel_rfl
def i8V (z : Int) : Value := .int .i8 z

set_option maxRecDepth 100000 in
set_option maxHeartbeats 1000000 in
theorem place_any (n : Int) (a : Option Addr) (K c : Nat) (F S : Int) (hst : St n F S) (W : World) :
    Calls Tryd.prog 119 #[.agg #[.int .i64 n, .slice a K c], .int .i64 F, .int .i64 S] W (RetB (.int .i64 (plc3 F S n.toNat)) W) := by
  obtain ⟨k4, k5, k6, k7⟩ := hst.lt
  have hn := hst.nn
  obtain ⟨N, hN⟩ : ∃ N : Nat, n = N := ⟨n.toNat, by omega⟩
  subst hN
  have hB0 := hide (below_alloc W (.cells #[.int .i64 N, .slice a K c] 28))
  obtain ⟨X0, X1⟩ := hexIn_new W N a K c 28
  obtain ⟨P, hP⟩ : ∃ P, P = plc3 F S := ⟨_, rfl⟩
  have HPR : Hid (∀ k, k ≤ N → 0 ≤ P k ∧ P k < 19683) := hide (fun k hk => by
    rw [hP]
    have h1 := plc3_range hst.apart k
    have h2 := pow3_9 (n := k) (by omega)
    omega)
  have HPS : Hid (∀ k, P (k + 1) = P k * 3 + dg F k + 2 * dg S k) := hide (fun k => by rw [hP]; rfl)
  have HP0 : Hid (P 0 = 0) := hide (by rw [hP]; rfl)
  have HPN : Hid (plc3 F S (N : Int).toNat = P N) := hide (by rw [hP, Int.toNat_natCast])
  rw [HPN.out]
  clear hP hst
  go_enter Tryd.func119, Tryd.ntmps119
  go_wp2
  go_loop [7, 8] (fun o i => ∃ k : Nat, k ≤ N ∧ i = .int .i64 k ∧ o = .int .i64 (P k)) (fun _ i => N - (intOf i).toNat)
  case atStart => exact ⟨0, Nat.zero_le _, rfl, by rw [HP0.out]⟩
  case round =>
    obtain ⟨k, hk, rfl, rfl⟩ := hrel
    obtain ⟨q0, q1⟩ := HPR.out k hk
    by_cases hlt : k < N
    · have hst := hide (HPS.out k)
      have hrd := dg_walkL (E := F) (k := (k : Int)) k4 (by omega)
      have hbd := dg_walkL (E := S) (k := (k : Int)) k6 (by omega)
      rw [Int.toNat_natCast] at hrd hbd
      have hku := u64_small (show (0 : Int) ≤ (k : Int) by omega) (by omega)
      have r01 := dg_01 F k
      have b01 := dg_01 S k
      obtain ⟨o, ho⟩ : ∃ o, o = P k := ⟨_, rfl⟩
      obtain ⟨x, hx⟩ : ∃ x, x = dg F k := ⟨_, rfl⟩
      obtain ⟨y, hy⟩ : ∃ y, y = dg S k := ⟨_, rfl⟩
      rw [← ho] at q0 q1 ⊢
      rw [← hx] at hrd r01
      rw [← hy] at hbd b01
      have hx1 : 0 ≤ x ∧ x ≤ 1 := by omega
      have hy1 : 0 ≤ y ∧ y ≤ 1 := by omega
      obtain ⟨x0, x1⟩ := hx1
      obtain ⟨y0, y1⟩ := hy1
      have HE : Hid (P (k + 1) = o * 3 + x + 2 * y) := hide (by rw [hst.out, ← ho, ← hx, ← hy])
      clear hst ho hx hy r01 b01
      go_wp2
      go_round
      case rel => exact ⟨k + 1, by omega, by go_num, by rw [HE.out]⟩
      case measure => simp [intOf]; omega
    · obtain rfl : k = N := by omega
      go_wp2
      go_ret
      exact ⟨rfl, hB0.out⟩

/-! ### what a table holds -/
def Good (val : Int → Int → Int) (n : Int) (ts : List Int) : Prop := ∀ F S, St n F S → ∀ t, ts[(plc3 F S n.toNat).toNat]? = some t → t = 0 ∨ t = val F S
/-- The table in block b holds such values; the lines lie elsewhere. -/
structure KnT (val : Int → Int → Int) (n : Int) (a : Option Addr) (cs : List Int) (b : Nat) (w : World) : Prop where
  tab : ∃ ts : List Int, w.heap[b]? = some (.cells (ts.map i8V).toArray 154 (0, 0)) ∧ (ts.length : Int) = pow3 n.toNat ∧ Good val n ts
  ints : IntsAt w a cs
  far : cs ≠ [] → ∀ g off, a = some ⟨g, off, none⟩ → g ≠ b
variable {val : Int → Int → Int} {n : Int} {a : Option Addr} {cs : List Int}
theorem KnT.lt {w : World} {b : Nat} (h : KnT val n a cs b w) : b < w.heap.size := by
  obtain ⟨ts, h1, _⟩ := h.tab
  exact (Array.getElem?_eq_some_iff.1 h1).1
theorem KnT.turn {w w' : World} {b : Nat} (h : KnT val n a cs b w) (e : w'.heap[b]? = w.heap[b]?) (hi : IntsAt w' a cs) : KnT val n a cs b w' := by
  obtain ⟨ts, h1, h2⟩ := h.tab
  exact ⟨⟨ts, e.trans h1, h2⟩, hi, h.far⟩
theorem KnT.keep {w w' : World} {b : Nat} (h : KnT val n a cs b w) (hb : Below w.heap.size w w') : KnT val n a cs b w' := h.turn (hb.block b h.lt) (h.ints.keep hb)
theorem KnT.cell {w : World} {b : Nat} (h : KnT val n a cs b w) {F S : Int} (ho : St n F S) :
    ∃ (p : Nat) (t : Int), plc3 F S n.toNat = (p : Int) ∧ (p : Int) < pow3 n.toNat ∧ w.cell? ⟨b, p, none⟩ = some (.int .i8 t) ∧ w.frozen? ⟨b, p, none⟩ = false ∧ (t = 0 ∨ t = val F S) := by
  obtain ⟨ts, h1, h2, h3⟩ := h.tab
  obtain ⟨p0, p1⟩ := plc_range ho
  obtain ⟨p, hp⟩ := Int.eq_ofNat_of_zero_le p0
  have hpl : p < ts.length := by omega
  have hg : ts[p]? = some ts[p] := List.getElem?_eq_getElem hpl
  refine ⟨p, ts[p], hp, by omega, ?_, frozen_of_row _ _ _ _ _ h1, h3 F S ho _ ?_⟩
  · refine (cell_of_row _ _ p _ _ (0, 0) h1).trans ?_
    simp [hpl, i8V]
  · rw [show (plc3 F S n.toNat).toNat = p by omega]
    exact hg
theorem ints_set {w : World} {a : Option Addr} {cs : List Int} {b p : Nat} (h : IntsAt w a cs) (hf : cs ≠ [] → ∀ g off, a = some ⟨g, off, none⟩ → g ≠ b) (u : Value) : IntsAt (w.setCell ⟨b, p, none⟩ u) a cs := by
  by_cases e : cs = []
  · subst e; exact CellsAt.nil _ _
  · exact But.ints ((But.refl b w).set p u) h (hf e)
theorem KnT.set {w : World} {b p : Nat} (h : KnT val n a cs b w) {F S : Int} (ho : St n F S) (hp : plc3 F S n.toNat = (p : Int)) : KnT val n a cs b (w.setCell ⟨b, p, none⟩ (.int .i8 (val F S))) := by
  obtain ⟨ts, h1, h2, h3⟩ := h.tab
  refine ⟨⟨ts.set p (val F S), ?_, by simpa using h2, fun F' S' ho' t ht => ?_⟩, ints_set h.ints h.far _, h.far⟩
  · rw [heap_setCell_same _ _ _ _ _ _ h1]
    simp [List.map_set, i8V]
  · rw [List.getElem?_set] at ht
    split at ht
    · rename_i e
      split at ht
      · have e2 : plc3 F S n.toNat = plc3 F' S' n.toNat := by
          have := (plc_range ho').1
          omega
        obtain ⟨rfl, rfl⟩ := plc_inj ho ho' e2
        exact .inr (Option.some.inj ht).symm
      · cases ht
    · exact h3 F' S' ho' t ht
/-- Two stores in a row. -/
theorem setCell_twice (w : World) (b p : Nat) (u v : Value) {cs : Array Value} {t : TypeId} (h : w.heap[b]? = some (.cells cs t (0, 0))) : ((w.setCell ⟨b, p, none⟩ u).setCell ⟨b, p, none⟩ v).heap[b]? = (w.setCell ⟨b, p, none⟩ v).heap[b]? := by
  rw [heap_setCell_same _ _ _ _ _ _ (heap_setCell_same _ _ _ _ _ _ h), heap_setCell_same _ _ _ _ _ _ h]
  simp
/-- A store into the table. -/
theorem KnT.stored {w : World} {b p : Nat} (h : KnT val n a cs b w) {F S : Int} (ho : St n F S) (hp : plc3 F S n.toNat = (p : Int)) (u : Value) :
    (w.setCell ⟨b, p, none⟩ u).cell? ⟨b, p, none⟩ = some u ∧ (w.setCell ⟨b, p, none⟩ u).frozen? ⟨b, p, none⟩ = false ∧ KnT val n a cs b ((w.setCell ⟨b, p, none⟩ u).setCell ⟨b, p, none⟩ (.int .i8 (val F S))) := by
  have hk := h.set ho hp
  obtain ⟨ts, h1, h2, h3⟩ := h.tab
  have hb := heap_setCell_same _ b p _ _ u h1
  have hpl : p < ts.length := by
    have := (plc_range ho).2
    omega
  refine ⟨(cell_of_row _ _ p _ _ (0, 0) hb).trans ?_, frozen_of_row _ _ _ _ _ hb, hk.turn (setCell_twice _ _ _ _ _ h1) (ints_set (ints_set h.ints h.far _) h.far _)⟩
  simp [hpl]
theorem KnT.made {w : World} {b M : Nat} (h : w.heap[b]? = some (.cells ((List.replicate M (0 : Int)).map i8V).toArray 154 (0, 0))) (hM : (M : Int) = pow3 n.toNat) (hi : IntsAt w a cs) (hf : cs ≠ [] → ∀ g off, a = some ⟨g, off, none⟩ → g ≠ b) : KnT val n a cs b w :=
  ⟨⟨List.replicate M 0, h, by simpa using hM, fun F S _ t ht => .inl (by
    rw [List.getElem?_replicate] at ht
    split at ht
    · exact (Option.some.inj ht).symm
    · cases ht)⟩, hi, hf⟩

set_option maxRecDepth 100000 in
set_option maxHeartbeats 1000000 in
theorem table_any (n : Int) (a : Option Addr) (K c : Nat) (hn : 1 ≤ n ∧ n ≤ 9) (W : World) :
    Calls Tryd.prog 65 #[.agg #[.int .i64 n, .slice a K c]] W fun e W' => ∃ (b M : Nat), e = .returned (.slice (some ⟨b, 0, none⟩) M M) ∧ (M : Int) = pow3 n.toNat ∧ W.heap.size ≤ b ∧ (∀ (val : Int → Int → Int) (a : Option Addr) (cs : List Int), IntsAt W a cs → KnT val n a cs b W') ∧ Below W.heap.size W W' := by
  obtain ⟨N, hN⟩ : ∃ N : Nat, n = N := ⟨n.toNat, by omega⟩
  subst hN
  have k1 : N ≤ 9 := by omega
  have hB0 := hide (below_alloc W (.cells #[.int .i64 N, .slice a K c] 28))
  obtain ⟨X0, X1⟩ := hexIn_new W N a K c 28
  obtain ⟨P, hP⟩ : ∃ P : Nat → Int, P = pow3 := ⟨_, rfl⟩
  have HPR : Hid (∀ k, k ≤ N → 0 ≤ P k ∧ P k ≤ 19683) := hide (fun k hk => by
    rw [hP]
    have h1 := pow3_pos k
    have h2 := pow3_9 (n := k) (by omega)
    omega)
  have HPS : Hid (∀ k, P (k + 1) = P k * 3) := hide (fun k => by rw [hP]; rfl)
  have HP0 : Hid (P 0 = 1) := hide (by rw [hP]; rfl)
  have HPN : Hid (pow3 (N : Int).toNat = P N) := hide (by rw [hP, Int.toNat_natCast])
  rw [HPN.out]
  clear hP hn
  go_enter Tryd.func65, Tryd.ntmps65
  go_wp2
  go_loop [3, 4] (fun o i => ∃ k : Nat, k ≤ N ∧ i = .int .i64 k ∧ o = .int .i64 (P k)) (fun _ i => N - (intOf i).toNat)
  case atStart => exact ⟨0, Nat.zero_le _, rfl, by rw [HP0.out]⟩
  case round =>
    obtain ⟨k, hk, rfl, rfl⟩ := hrel
    obtain ⟨q0, q1⟩ := HPR.out k hk
    by_cases hlt : k < N
    · have hst := hide (HPS.out k)
      obtain ⟨o, ho⟩ : ∃ o, o = P k := ⟨_, rfl⟩
      rw [← ho] at q0 q1 ⊢
      have HE : Hid (P (k + 1) = o * 3) := hide (by rw [hst.out, ← ho])
      clear hst ho
      go_wp2
      go_round
      case rel => exact ⟨k + 1, by omega, by go_num, by rw [HE.out]⟩
      case measure => simp [intOf]; omega
    · obtain rfl : k = N := by omega
      obtain ⟨M, hM⟩ := Int.eq_ofNat_of_zero_le q0
      rw [hM] at q0 q1 HPN ⊢
      clear HPR HPS HP0
      obtain ⟨W0, hW0⟩ : ∃ W0, W0 = W.alloc (.cells #[.int .i64 k, .slice a K c] 28) := ⟨_, rfl⟩
      have hs0 : Hid (W.heap.size ≤ W0.heap.size) := by rw [hW0]; exact hide (by simp)
      rw [← hW0] at X0 X1 hB0 ⊢
      clear hW0
      go_wp2_with (at_make; refine wpList_make_fresh _ rfl _ _ 81 rfl 154 (.int .i8 0) 1 Tryd.underlying81 infoI8 rfl .i64 .i64 M rfl rfl (by omega) (by omega) ?_; intro w2 hr2 hB2)
      have hfin : Hid (w2.heap[W0.heap.size]? = some (.cells ((List.replicate M (0 : Int)).map i8V).toArray 154 (0, 0))) := by
        obtain ⟨cur, hc, hs, hi⟩ := hr2
        have e2 : cur = ((List.replicate M (0 : Int)).map i8V).toArray := by
          apply Array.ext_getElem?
          intro i
          by_cases hik : i < M
          · rw [hi i hik]
            simp [hik, i8V]
          · rw [Array.getElem?_eq_none (by omega), Array.getElem?_eq_none (by simp; omega)]
        rw [← e2]
        exact hide hc
      have HB2 := hide (Below.trans' hB0.out hB2)
      clear hr2 hB2
      go_wp2
      go_ret
      refine ⟨W0.heap.size, M, rfl, rfl, hs0.out, fun val a cs hi => KnT.made hfin.out HPN.out.symm (hi.keep HB2.out) (fun hne g off e => ?_), HB2.out⟩
      obtain ⟨b, o, hb, hlt2⟩ := CellsAt.lt hi (by simpa using hne)
      rw [hb] at e
      simp only [Option.some.injEq, Addr.mk.injEq] at e
      have := hs0.out
      omega
end Go.Proofs.YtkekanllfpdeaaaDoor
