/-
  Col and snort: the table of what is known by colourings: l05Place, l05Table; what a table holds.
-/
import Derived.Test.YtdimmlpnfghndaaFq
import Derived.Test.YtdimmlpnfghndaaFa
import Derived.Test.YtdimmlpnfghndaaPm
namespace Go.Proofs.Ytdimmlpnfghndaa
open Go.RowKit Go.Maps
set_option linter.unusedVariables false

theorem infoI8 : (Try.prog.info? 102).map (fun i => (i.zero, i.size, i.bytes)) = some (some (.int .i8 0), 1, 1) := by kernel_rfl
def i8V (z : Int) : Value := .int .i8 z

set_option maxRecDepth 100000 in
set_option maxHeartbeats 1000000 in
theorem place_any (n L R B pl : Int) (hok : okF n L R B = true) (hp : 0 ≤ pl ∧ pl ≤ 1) (W : World) :
    Calls Try.prog 77 #[.agg #[.int .i64 n, .int .i64 L, .int .i64 R, .int .i64 B], .int .i64 pl] W (RetB (.int .i64 (place n R B pl)) W) := by
  obtain ⟨k0, k1, _, _, k4, k5, k6, k7⟩ := okF_nums hok
  obtain ⟨N, hN⟩ : ∃ N : Nat, n = N := ⟨n.toNat, by omega⟩
  subst hN
  have hB0 := hide (below_alloc W (.cells #[.int .i64 N, .int .i64 L, .int .i64 R, .int .i64 B] 25))
  obtain ⟨X0, X1, X2, X3⟩ := fieldIn_new W N L R B 25
  obtain ⟨P, hP⟩ : ∃ P, P = plc3 R B := ⟨_, rfl⟩
  have HPR : Hid (∀ k, k ≤ N → 0 ≤ P k ∧ P k < 6561) := hide (fun k hk => by
    rw [hP]
    have h1 := plc3_range (okF_apart hok) k
    have h2 := pow3_8 (n := k) (by omega)
    omega)
  have HPS : Hid (∀ k, P (k + 1) = P k * 3 + dg R k + 2 * dg B k) := hide (fun k => by rw [hP]; rfl)
  have HP0 : Hid (P 0 = 0) := hide (by rw [hP]; rfl)
  have HPN : Hid (place N R B pl = P N * 2 + pl) := hide (by rw [hP]; unfold place; rw [Int.toNat_natCast])
  obtain ⟨p0, p1⟩ := hp
  rw [HPN.out]
  clear hP hok
  go_enter Try.func77, Try.ntmps77
  go_wp2
  go_loop [5, 6] (fun o i => ∃ k : Nat, k ≤ N ∧ i = .int .i64 k ∧ o = .int .i64 (P k)) (fun _ i => N - (intOf i).toNat)
  case atStart => exact ⟨0, Nat.zero_le _, rfl, by rw [HP0.out]⟩
  case round =>
    obtain ⟨k, hk, rfl, rfl⟩ := hrel
    obtain ⟨q0, q1⟩ := HPR.out k hk
    by_cases hlt : k < N
    · have hst := hide (HPS.out k)
      have hrd := dg_walkL (E := R) (k := (k : Int)) k4 (by omega)
      have hbd := dg_walkL (E := B) (k := (k : Int)) k6 (by omega)
      rw [Int.toNat_natCast] at hrd hbd
      have hku := u64_small (show (0 : Int) ≤ (k : Int) by omega) (by omega)
      have r01 := dg_01 R k
      have b01 := dg_01 B k
      obtain ⟨o, ho⟩ : ∃ o, o = P k := ⟨_, rfl⟩
      obtain ⟨x, hx⟩ : ∃ x, x = dg R k := ⟨_, rfl⟩
      obtain ⟨y, hy⟩ : ∃ y, y = dg B k := ⟨_, rfl⟩
      rw [← ho] at q0 q1 ⊢
      rw [← hx] at hrd r01
      rw [← hy] at hbd b01
      have hx1 : 0 ≤ x ∧ x ≤ 1 := by omega
      have hy1 : 0 ≤ y ∧ y ≤ 1 := by omega
      obtain ⟨x0, x1⟩ := hx1
      obtain ⟨y0, y1⟩ := hy1
      have HE : Hid (P (k + 1) = o * 3 + x + 2 * y) := hide (by rw [hst.out, ← ho, ← hx, ← hy])
      clear hst ho hx hy r01 b01
      go_wp2
      go_round
      case rel => exact ⟨k + 1, by omega, by go_num, by rw [HE.out]⟩
      case measure => simp [intOf]; omega
    · obtain rfl : k = N := by omega
      go_wp2
      go_ret
      exact ⟨rfl, hB0.out⟩

/-! ### what a table holds -/
def Good (val : Int → Int → Int → Int) (N L : Int) (ts : List Int) : Prop := ∀ R B pl, okT N L R B pl → ∀ t, ts[(place N R B pl).toNat]? = some t → t = 0 ∨ t = val R B pl
def KnT (val : Int → Int → Int → Int) (N L : Int) (b : Nat) (w : World) : Prop := ∃ ts : List Int, w.heap[b]? = some (.cells (ts.map i8V).toArray 102 (0, 0)) ∧ (ts.length : Int) = 2 * pow3 N.toNat ∧ Good val N L ts
variable {val : Int → Int → Int → Int} {N L : Int}
theorem KnT.keep {w w' : World} {b : Nat} (h : KnT val N L b w) (hb : Below w.heap.size w w') : KnT val N L b w' := by
  obtain ⟨ts, h1, h2, h3⟩ := h
  exact ⟨ts, box_keep h1 hb, h2, h3⟩
theorem KnT.lt {w : World} {b : Nat} (h : KnT val N L b w) : b < w.heap.size := by
  obtain ⟨ts, h1, _⟩ := h
  exact (Array.getElem?_eq_some_iff.1 h1).1
theorem KnT.cell {w : World} {b : Nat} (h : KnT val N L b w) {R B pl : Int} (ho : okT N L R B pl) :
    ∃ (p : Nat) (t : Int), place N R B pl = (p : Int) ∧ (p : Int) < 2 * pow3 N.toNat ∧ w.cell? ⟨b, p, none⟩ = some (.int .i8 t) ∧ w.frozen? ⟨b, p, none⟩ = false ∧ (t = 0 ∨ t = val R B pl) := by
  obtain ⟨ts, h1, h2, h3⟩ := h
  obtain ⟨p0, p1⟩ := place_range (L := L) ho.1 ho.2
  obtain ⟨p, hp⟩ := Int.eq_ofNat_of_zero_le p0
  have hpl : p < ts.length := by omega
  have hg : ts[p]? = some ts[p] := List.getElem?_eq_getElem hpl
  refine ⟨p, ts[p], hp, by omega, ?_, frozen_of_row _ _ _ _ _ h1, h3 R B pl ho _ ?_⟩
  · refine (cell_of_row _ _ p _ _ (0, 0) h1).trans ?_
    simp [hpl, i8V]
  · rw [show (place N R B pl).toNat = p by omega]
    exact hg
theorem KnT.set {w : World} {b p : Nat} (h : KnT val N L b w) {R B pl : Int} (ho : okT N L R B pl) (hp : place N R B pl = (p : Int)) : KnT val N L b (w.setCell ⟨b, p, none⟩ (.int .i8 (val R B pl))) := by
  obtain ⟨ts, h1, h2, h3⟩ := h
  refine ⟨ts.set p (val R B pl), ?_, by simpa using h2, fun R' B' pl' ho' t ht => ?_⟩
  · rw [heap_setCell_same _ _ _ _ _ _ h1]
    simp [List.map_set, i8V]
  · rw [List.getElem?_set] at ht
    split at ht
    · rename_i e
      split at ht
      · have e2 : place N R B pl = place N R' B' pl' := by
          have := (place_range (L := L) ho'.1 ho'.2).1
          omega
        obtain ⟨rfl, rfl, rfl⟩ := place_inj ho.1 ho.2 ho'.1 ho'.2 e2
        exact .inr (Option.some.inj ht).symm
      · cases ht
    · exact h3 R' B' pl' ho' t ht
/-- Two stores in a row. -/
theorem setCell_twice (w : World) (b p : Nat) (u v : Value) {cs : Array Value} {t : TypeId} (h : w.heap[b]? = some (.cells cs t (0, 0))) : ((w.setCell ⟨b, p, none⟩ u).setCell ⟨b, p, none⟩ v).heap[b]? = (w.setCell ⟨b, p, none⟩ v).heap[b]? := by
  rw [heap_setCell_same _ _ _ _ _ _ (heap_setCell_same _ _ _ _ _ _ h), heap_setCell_same _ _ _ _ _ _ h]
  simp
theorem KnT.made {w : World} {b M : Nat} (h : w.heap[b]? = some (.cells ((List.replicate M (0 : Int)).map i8V).toArray 102 (0, 0))) (hM : (M : Int) = 2 * pow3 N.toNat) : KnT val N L b w :=
  ⟨List.replicate M 0, h, by simpa using hM, fun R B pl _ t ht => .inl (by
    rw [List.getElem?_replicate] at ht
    split at ht
    · exact (Option.some.inj ht).symm
    · cases ht)⟩

set_option maxRecDepth 100000 in
set_option maxHeartbeats 1000000 in
theorem table_any (n L R B : Int) (hn : 0 ≤ n ∧ n ≤ 8) (W : World) :
    Calls Try.prog 59 #[.agg #[.int .i64 n, .int .i64 L, .int .i64 R, .int .i64 B]] W fun e W' => ∃ (b M : Nat), e = .returned (.slice (some ⟨b, 0, none⟩) M M) ∧ (M : Int) = 2 * pow3 n.toNat ∧ W.heap.size ≤ b ∧ (∀ val : Int → Int → Int → Int, KnT val n L b W') ∧ Below W.heap.size W W' := by
  obtain ⟨N, hN⟩ : ∃ N : Nat, n = N := ⟨n.toNat, by omega⟩
  subst hN
  have k1 : N ≤ 8 := by omega
  have hB0 := hide (below_alloc W (.cells #[.int .i64 N, .int .i64 L, .int .i64 R, .int .i64 B] 25))
  obtain ⟨X0, X1, X2, X3⟩ := fieldIn_new W N L R B 25
  obtain ⟨P, hP⟩ : ∃ P : Nat → Int, P = fun k => 2 * pow3 k := ⟨_, rfl⟩
  have HPR : Hid (∀ k, k ≤ N → 0 ≤ P k ∧ P k ≤ 13122) := hide (fun k hk => by
    rw [hP]
    have h1 := pow3_pos k
    have h2 := pow3_8 (n := k) (by omega)
    dsimp only
    omega)
  have HPS : Hid (∀ k, P (k + 1) = P k * 3) := hide (fun k => by rw [hP]; simp only [pow3]; omega)
  have HP0 : Hid (P 0 = 2) := hide (by rw [hP]; rfl)
  have HPN : Hid (2 * pow3 (N : Int).toNat = P N) := hide (by rw [hP, Int.toNat_natCast])
  rw [HPN.out]
  clear hP hn
  go_enter Try.func59, Try.ntmps59
  go_wp2
  go_loop [3, 4] (fun o i => ∃ k : Nat, k ≤ N ∧ i = .int .i64 k ∧ o = .int .i64 (P k)) (fun _ i => N - (intOf i).toNat)
  case atStart => exact ⟨0, Nat.zero_le _, rfl, by rw [HP0.out]⟩
  case round =>
    obtain ⟨k, hk, rfl, rfl⟩ := hrel
    obtain ⟨q0, q1⟩ := HPR.out k hk
    by_cases hlt : k < N
    · have hst := hide (HPS.out k)
      obtain ⟨o, ho⟩ : ∃ o, o = P k := ⟨_, rfl⟩
      rw [← ho] at q0 q1 ⊢
      have HE : Hid (P (k + 1) = o * 3) := hide (by rw [hst.out, ← ho])
      clear hst ho
      go_wp2
      go_round
      case rel => exact ⟨k + 1, by omega, by go_num, by rw [HE.out]⟩
      case measure => simp [intOf]; omega
    · obtain rfl : k = N := by omega
      obtain ⟨M, hM⟩ := Int.eq_ofNat_of_zero_le q0
      rw [hM] at q0 q1 HPN ⊢
      clear HPR HPS HP0
      obtain ⟨W0, hW0⟩ : ∃ W0, W0 = W.alloc (.cells #[.int .i64 k, .int .i64 L, .int .i64 R, .int .i64 B] 25) := ⟨_, rfl⟩
      have hs0 : Hid (W.heap.size ≤ W0.heap.size) := by rw [hW0]; exact hide (by simp)
      rw [← hW0] at X0 X1 X2 X3 hB0 ⊢
      clear hW0
      go_wp2_with (at_make; refine wpList_make_fresh _ rfl _ _ 71 rfl 102 (.int .i8 0) 1 Try.underlying71 infoI8 rfl .i64 .i64 M rfl rfl (by omega) (by omega) ?_; intro w2 hr2 hB2)
      have hfin : Hid (w2.heap[W0.heap.size]? = some (.cells ((List.replicate M (0 : Int)).map i8V).toArray 102 (0, 0))) := by
        obtain ⟨cur, hc, hs, hi⟩ := hr2
        have e2 : cur = ((List.replicate M (0 : Int)).map i8V).toArray := by
          apply Array.ext_getElem?
          intro i
          by_cases hik : i < M
          · rw [hi i hik]
            simp [hik, i8V]
          · rw [Array.getElem?_eq_none (by omega), Array.getElem?_eq_none (by simp; omega)]
        rw [← e2]
        exact hide hc
      have HB2 := hide (Below.trans' hB0.out hB2)
      clear hr2 hB2
      go_wp2
      go_ret
      exact ⟨W0.heap.size, M, rfl, rfl, hs0.out, fun val => KnT.made hfin.out HPN.out.symm, HB2.out⟩
end Go.Proofs.Ytdimmlpnfghndaa
