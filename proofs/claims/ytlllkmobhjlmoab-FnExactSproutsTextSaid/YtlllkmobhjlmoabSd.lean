/-
  Sprouts positions: DegreesOf, plain and the program's text.
-/
import Derived.Test.YtlllkmobhjlmoabSw
import Derived.Test.YtlllkmobhjlmoabSs
namespace Go.Proofs.Ytlllkmobhjlmoab
open Go.RowKit Go.Shelf
attribute [local go_sem] Oper.semAt_some
set_option linter.unusedVariables false

/-- What the program counts: the spots on boundaries of more than one. -/
def dSp (D : List Int) : List Int → List Int
  | [] => D
  | z :: r => dSp (D.set z.toNat (wrap64 (D.getD z.toNat 0 + 1))) r
def dBd (D : List Int) : List (List Int) → List Int
  | [] => D
  | b :: r => dBd (if b.length = 1 then D else dSp D b) r
theorem dBd_append : ∀ (xs ys : List (List Int)) (D : List Int), dBd D (xs ++ ys) = dBd (dBd D xs) ys
  | [], ys, D => rfl
  | b :: r, ys, D => by rw [List.cons_append, dBd, dBd_append r ys, dBd]

structure InvD (S K : Nat) (st : Cts) (D : List Int) : Prop where
  lp : st.P.length = S
  la : st.A.length = S
  ld : D.length = S
  all : ∀ i, i < S → 0 ≤ D.getD i 0 ∧ D.getD i 0 + (if st.A.getD i false = true then 1 else 0) ≤ st.P.getD i 0 ∧ st.P.getD i 0 ≤ K ∧ (st.A.getD i false = false → D.getD i 0 = st.P.getD i 0)
theorem InvD.mono {S K K' : Nat} {st : Cts} {D : List Int} (h : InvD S K st D) (hk : K ≤ K') : InvD S K' st D :=
  ⟨h.lp, h.la, h.ld, fun i hi => by obtain ⟨a, b, c, d⟩ := h.all i hi; exact ⟨a, b, by omega, d⟩⟩
theorem InvD.put1 {S K : Nat} {st : Cts} {D : List Int} {z : Int} (h : InvD S K st D) (h0 : 0 ≤ z) (h1 : z < S) (hk : K + 1 < 9223372036854775808) : InvD S (K + 1) (st.put z true) D := by
  have hz : z.toNat < S := by omega
  refine ⟨by simp [Cts.put, h.lp], by simp [Cts.put, h.la], h.ld, fun i hi => ?_⟩
  obtain ⟨a, b, c, d⟩ := h.all i hi
  obtain ⟨a', b', c', d'⟩ := h.all _ hz
  unfold Cts.put
  dsimp only
  rw [getD_set _ _ _ _ _ (by rw [h.la]; exact hz), getD_set _ _ _ _ _ (by rw [h.lp]; exact hz)]
  by_cases e : i = z.toNat
  · rw [if_pos e, if_pos e, Bool.or_true, if_pos rfl]
    have hp : 0 ≤ st.P.getD z.toNat 0 := by split at b' <;> omega
    have hw : wrap64 (st.P.getD z.toNat 0 + 1) = st.P.getD z.toNat 0 + 1 := by unfold wrap64; omega
    rw [hw, e]
    refine ⟨a', ?_, by omega, fun x => by cases x⟩
    split at b' <;> omega
  · rw [if_neg e, if_neg e]
    exact ⟨a, b, by omega, d⟩
theorem InvD.put0 {S K : Nat} {st : Cts} {D : List Int} {z : Int} (h : InvD S K st D) (h0 : 0 ≤ z) (h1 : z < S) (hk : K + 1 < 9223372036854775808) : InvD S (K + 1) (st.put z false) (D.set z.toNat (wrap64 (D.getD z.toNat 0 + 1))) := by
  have hz : z.toNat < S := by omega
  refine ⟨by simp [Cts.put, h.lp], by simp [Cts.put, h.la], by simp [h.ld], fun i hi => ?_⟩
  obtain ⟨a, b, c, d⟩ := h.all i hi
  obtain ⟨a', b', c', d'⟩ := h.all _ hz
  unfold Cts.put
  dsimp only
  rw [getD_set D _ _ _ _ (by rw [h.ld]; exact hz), getD_set st.A _ _ _ _ (by rw [h.la]; exact hz), getD_set st.P _ _ _ _ (by rw [h.lp]; exact hz)]
  by_cases e : i = z.toNat
  · rw [if_pos e, if_pos e, if_pos e, Bool.or_false]
    have hp : D.getD z.toNat 0 ≤ st.P.getD z.toNat 0 := by split at b' <;> omega
    have hw : wrap64 (st.P.getD z.toNat 0 + 1) = st.P.getD z.toNat 0 + 1 := by unfold wrap64; omega
    have hv : wrap64 (D.getD z.toNat 0 + 1) = D.getD z.toNat 0 + 1 := by unfold wrap64; omega
    rw [hw, hv]
    refine ⟨by omega, ?_, by omega, fun x => by rw [d' x]⟩
    split at b' <;> split <;> first | omega | (exfalso; contradiction)
  · rw [if_neg e, if_neg e, if_neg e]
    exact ⟨a, b, by omega, d⟩
theorem spots_inv1 {S : Nat} {st' : Cts} {D : List Int} : ∀ (zs : List Int) (K : Nat) (st : Cts), spotsC S true st zs = some st' → InvD S K st D → K + zs.length < 9223372036854775808 → InvD S (K + zs.length) st' D
  | [], K, st, h, hi, _ => by
    simp only [spotsC, Option.some.injEq] at h
    subst h
    exact hi
  | z :: r, K, st, h, hi, hk => by
    by_cases e : z < 0 ∨ (S : Int) ≤ z
    · rw [spots_no e] at h; cases h
    · rw [spots_go (by omega) (by omega)] at h
      simp only [List.length_cons] at hk
      have := spots_inv1 r (K + 1) _ h (hi.put1 (by omega) (by omega) (by omega)) (by omega)
      exact this.mono (by simp only [List.length_cons]; omega)
theorem spots_inv0 {S : Nat} {st' : Cts} : ∀ (zs : List Int) (K : Nat) (st : Cts) (D : List Int), spotsC S false st zs = some st' → InvD S K st D → K + zs.length < 9223372036854775808 → InvD S (K + zs.length) st' (dSp D zs)
  | [], K, st, D, h, hi, _ => by
    simp only [spotsC, Option.some.injEq] at h
    subst h
    exact hi
  | z :: r, K, st, D, h, hi, hk => by
    by_cases e : z < 0 ∨ (S : Int) ≤ z
    · rw [spots_no e] at h; cases h
    · rw [spots_go (by omega) (by omega)] at h
      simp only [List.length_cons] at hk
      have := spots_inv0 r (K + 1) _ _ h (hi.put0 (by omega) (by omega) (by omega)) (by omega)
      exact this.mono (by simp only [List.length_cons]; omega)
theorem bnd_inv {S : Nat} {st' : Cts} : ∀ (L : List (List Int)) (K : Nat) (st : Cts) (D : List Int), bndC S st L = some st' → InvD S K st D → K + (L.map List.length).sum < 9223372036854775808 → InvD S (K + (L.map List.length).sum) st' (dBd D L)
  | [], K, st, D, h, hi, _ => by
    simp only [bndC, Option.some.injEq] at h
    subst h
    exact hi
  | b :: r, K, st, D, h, hi, hk => by
    by_cases e : b.length < 1
    · rw [bnd_no e] at h; cases h
    · rw [bnd_go e] at h
      simp only [List.map_cons, List.sum_cons] at hk
      cases hs : spotsC S (decide (b.length = 1)) st b with
      | none => rw [hs] at h; cases h
      | some st1 =>
        rw [hs] at h
        simp only [Option.bind_some] at h
        have h1 : InvD S (K + b.length) st1 (if b.length = 1 then D else dSp D b) := by
          by_cases e1 : b.length = 1
          · rw [if_pos e1]
            rw [decide_eq_true e1] at hs
            exact spots_inv1 b K st hs hi (by omega)
          · rw [if_neg e1]
            rw [decide_eq_false e1] at hs
            exact spots_inv0 b K st D hs hi (by omega)
        have := bnd_inv r _ _ _ h h1 (by omega)
        exact this.mono (by simp only [List.map_cons, List.sum_cons]; omega)
theorem sum_len_le {B : Nat} : ∀ (L : List (List Int)), (∀ l ∈ L, l.length ≤ B) → (L.map List.length).sum ≤ L.length * B
  | [], _ => by simp
  | l :: r, h => by
    have h1 := h l List.mem_cons_self
    have h2 := sum_len_le r (fun x hx => h x (List.mem_cons_of_mem _ hx))
    simp only [List.map_cons, List.sum_cons, List.length_cons, Nat.add_mul, Nat.one_mul]
    omega
theorem flat_len_le {B : Nat} : ∀ (X : List (List (List Int))), (∀ l ∈ X, l.length ≤ B) → X.flatten.length ≤ X.length * B
  | [], _ => by simp
  | l :: r, h => by
    have h1 := h l List.mem_cons_self
    have h2 := flat_len_le r (fun x hx => h x (List.mem_cons_of_mem _ hx))
    simp only [List.flatten_cons, List.length_append, List.length_cons, Nat.add_mul, Nat.one_mul]
    omega
theorem sum_small {X : List (List (List Int))} (hs : Small3 X) : (X.flatten.map List.length).sum < 9223372036854775808 := by
  have h1 : X.flatten.length ≤ X.length * 1048576 := flat_len_le X (fun l hl => (hs.2.2 l hl).1)
  have h2 : (X.flatten.map List.length).sum ≤ X.flatten.length * 1048576 := sum_len_le _ (fun zs hz => by
    obtain ⟨l, hl, hz⟩ := List.mem_flatten.1 hz
    exact (hs.2.2 l hl).2 zs hz)
  have h3 := hs.1
  omega
theorem okFrom_all {st : Cts} {S : Nat} (h : okFrom st S 0 = true) {i : Nat} (hi : i < S) : badC st i = false := by
  unfold okFrom at h
  have := (List.all_eq_true.1 h) i (List.mem_range'_1.2 ⟨by omega, by omega⟩)
  simpa using this
theorem sprC_some {S : Nat} {X : List (List (List Int))} {st : Cts} (h : sprC S X = some st) : 1 ≤ S ∧ S ≤ 20 ∧ 1 ≤ X.length ∧ bndC S (Cts.zero S) X.flatten = some st ∧ okFrom st S 0 = true := by
  unfold sprC at h
  split at h
  · rename_i hc
    rw [Int.toNat_natCast, regC_flat] at h
    cases hb : bndC S (Cts.zero S) X.flatten with
    | none => rw [hb] at h; cases h
    | some st1 =>
      rw [hb] at h
      simp only [Option.bind_some] at h
      split at h
      · rename_i ho
        simp only [Option.some.injEq] at h
        subst h
        exact ⟨by omega, by omega, hc.2.2, rfl, ho⟩
      · cases h
  · cases h
theorem dBd_deg {S : Nat} {X : List (List (List Int))} {st : Cts} (hs : Small3 X) (h : sprC S X = some st) {i : Nat} (hi : i < S) : (dBd (List.replicate S 0) X.flatten).getD i 0 = degC st S i ∧ 0 ≤ degC st S i ∧ degC st S i ≤ 3 := by
  obtain ⟨h1, h2, h3, hb, ho⟩ := sprC_some h
  have hz : InvD S 0 (Cts.zero S) (List.replicate S 0) := ⟨by simp [Cts.zero], by simp [Cts.zero], by simp, fun i hi => by simp [Cts.zero, hi]⟩
  have hv := bnd_inv _ 0 _ _ hb hz (by have := sum_small hs; omega)
  obtain ⟨a, b, c, d⟩ := hv.all i hi
  have hok := okFrom_all ho hi
  simp only [badC, Bool.or_eq_false_iff, decide_eq_false_iff_not, Bool.and_eq_false_imp] at hok
  obtain ⟨⟨o1, o2⟩, o3⟩ := hok
  unfold degC
  cases hA : st.A.getD i false
  · rw [if_neg (by simp)]
    rw [hA] at d
    have := d rfl
    exact ⟨this, by omega, by omega⟩
  · rw [if_pos ⟨hi, rfl⟩]
    rw [hA, if_pos rfl] at b
    have := o3 hA
    exact ⟨by omega, by omega, by omega⟩
theorem spr_good {S : Nat} {X : List (List (List Int))} {st : Cts} {zs : List Int} (h : sprC S X = some st) (hm : zs ∈ X.flatten) : 1 ≤ zs.length ∧ ∀ z ∈ zs, 0 ≤ z ∧ z < S := by
  refine ⟨?_, fun z hz => ?_⟩
  · by_cases e : zs.length < 1
    · rw [spr_bad hm (.inl e)] at h; cases h
    · omega
  · by_cases e : z < 0 ∨ (S : Int) ≤ z
    · rw [spr_bad hm (.inr ⟨z, hz, e⟩)] at h; cases h
    · omega
theorem dSp_len : ∀ (zs D : List Int), (dSp D zs).length = D.length
  | [], D => rfl
  | z :: r, D => by rw [dSp, dSp_len r]; simp
theorem dBd_len : ∀ (L : List (List Int)) (D : List Int), (dBd D L).length = D.length
  | [], D => rfl
  | b :: r, D => by
    rw [dBd, dBd_len r]
    split
    · rfl
    · rw [dSp_len]

def dgV (D : List Int) (i : Nat) : Value := .int .i64 (D.getD i 0)
/-- What a round must find: the row in block N, its slice's box behind it. -/
structure MidD (B N S : Nat) (D : List Int) (W V : World) : Prop where
  size : N + 3 ≤ V.heap.size
  bp : V.heap[N + 1]? = some (.cells #[.slice (some ⟨N, 0, none⟩) S S] 26 (0, 0))
  row : V.rowIs N 2 S (dgV D)
  ld : D.length = S
  old : Below B W V
  lo : B ≤ N
theorem MidD.below {B N S : Nat} {D : List Int} {W V V' : World} (h : MidD B N S D W V) (hb : Below (N + 3) V V') : MidD B N S D W V' :=
  ⟨Nat.le_trans h.size hb.size, (hb.block _ (by omega)).trans h.bp, rowIs_block h.row (hb.block _ (by omega)), h.ld, h.old.trans (hb.mono (by have := h.lo; omega)), h.lo⟩
theorem MidD.set {B N S : Nat} {D : List Int} {W V : World} (h : MidD B N S D W V) {z : Nat} (hz : z < S) (v : Int) : MidD B N S (D.set z v) W (V.setCell ⟨N, z, none⟩ (.int .i64 v)) := by
  refine ⟨by simpa [World.setCell] using h.size, (Below.heap_setCell _ _ _ _ (by first | (simp; done) | (simp; omega))).trans h.bp, (h.row.set z (.int .i64 v)).congr (fun i _ => ?_), by simp [h.ld], h.old.setCell (p := ⟨N, z, none⟩) h.lo _, h.lo⟩
  unfold dgV
  rw [getD_set _ _ _ _ _ (by rw [h.ld]; exact hz)]
  split <;> rfl

set_option maxRecDepth 100000 in
set_option maxHeartbeats 4000000 in
theorem implDegrees_any (s : Int) (a : Option Addr) (c : Nat) (X : List (List (List Int))) (W : World) (ha : CubeAt W a X) (hs : Small3 X) :
    Calls Try.prog 9 #[.agg #[.int .i64 s, .slice a X.length c]] W (DegR (sprC s X) s.toNat W) := by
  obtain ⟨W0, hW0⟩ : ∃ W0, W0 = W.alloc (.cells #[.int .i64 s, .slice a X.length c] 29) := ⟨_, rfl⟩
  have hB0 : Hid (Below W.heap.size W W0) := by rw [hW0]; exact hide (below_alloc _ _)
  have hA0 := hide (ha.keep hB0.out)
  have hr0 : W0.heap[W.heap.size]? = some (.cells #[.int .i64 s, .slice a X.length c] 29 (0, 0)) := by rw [hW0]; exact alloc_at W _ rfl
  have c0 : W0.cell? ⟨W.heap.size, 0, none⟩ = some (.int .i64 s) := (cell_of_row _ _ 0 _ _ (0, 0) hr0).trans rfl
  have c1 : W0.cell? ⟨W.heap.size, 1, none⟩ = some (.slice a X.length c) := (cell_of_row _ _ 1 _ _ (0, 0) hr0).trans rfl
  have hw0 : W.heap.size < W0.heap.size := block_lt hr0
  obtain ⟨n, hn⟩ : ∃ n, n = X.length := ⟨_, rfl⟩
  have HN := hide hn
  have HIS := hide (implIsSprouts_any s a c X W0 hA0.out hs)
  rw [← hn] at hW0 c1 HIS ⊢
  cases hr : sprC s X with
  | none =>
    rw [isSprB_none hr] at HIS
    clear hr hr0 hn ha hs
    go_enter Try.func9, Try.ntmps9
    go_wp2_with fail
    rw [← hW0]
    clear hW0
    (try go_wp2_with fail)
    refine HIS.out.mono ?_
    rintro e w1 ⟨rfl, hb1⟩
    have hB1 := hide (Below.trans' hB0.out hb1)
    clear hb1 c0 c1
    go_wp2_with fail
    go_ret2
    exact DegR.no hB1.out
  | some st =>
    rw [isSprB_some hr] at HIS
    have HSC := hide hr
    obtain ⟨S, hS⟩ : ∃ S : Nat, s = S := ⟨s.toNat, by
      unfold sprC at hr
      split at hr
      · omega
      · cases hr⟩
    subst hS
    have hSN : Hid ((S : Int).toNat = S) := hide (by simp)
    rw [hSN.out]
    obtain ⟨hS1, hS20, hX1, _, _⟩ := sprC_some hr
    have hmk1 := run_make_row' (P := Try.prog) 26 2 (.int .i64 0) 8 Try.underlying26 Try.info2 rfl .i64 .i64 S (by omega) (by omega)
    have HA := hide ha
    have HS := hide hs
    have hn1 : n ≤ 1048576 := by rw [hn]; exact hs.1
    clear hr hr0 hX1 hn ha hs
    refine (callsIn_wide (n := 6)).1 ?_
    refine callsIn_of_wp_marks Try.func9 rfl trivial ?_ rfl
    simp only [Try.ntmps9, List.size_toArray, List.length_cons, List.length_nil, Nat.reduceAdd, Nat.reduceSub, Array.replicate_succ, Array.replicate_zero, List.push_toArray, List.append_toArray, List.nil_append, List.cons_append]
    gi_wp2_with fail
    rw [← hW0]
    clear hW0
    refine ⟨trivial, ?_⟩
    gi_at_call 22
    refine (callsIn_wide.2 HIS.out).mono ?_
    rintro e w1 ⟨rfl, hb1⟩
    have hB1 := hide (Below.trans' hB0.out hb1)
    have d0 := cell_keep hb1 c0
    have d1 := cell_keep hb1 c1
    have hs1 : W0.heap.size ≤ w1.heap.size := hb1.size
    have hlt1 : W.heap.size < w1.heap.size := by omega
    clear c0 c1 hb1
    gi_wp2_with (refine ⟨trivial, ?_⟩; gi_at_call 23; refine (callsIn_wide.2 (boundariesOf_any _ _ _ _)).mono ?_; rintro e w2 ⟨rfl, rfl⟩)
    obtain ⟨N, hN⟩ : ∃ N, N = w1.heap.size := ⟨_, rfl⟩
    rw [← hN]
    obtain ⟨W2, hW2⟩ : ∃ W2, W2 = (((w1.alloc (.cells (madeCells #[.int .i64 0] S) 2)).alloc (.cells #[.slice (some ⟨N, 0, none⟩) S S] 26)).alloc (.cells #[.slice a n c] 22)) := ⟨_, rfl⟩
    rw [← hW2]
    have hs2 : W2.heap.size = N + 3 := by rw [hW2, hN]; simp
    have hNW : W.heap.size ≤ N := by omega
    have hB2 : Hid (Below W.heap.size W W2) := hide (by
      rw [hW2]
      exact Below.trans' hB1.out (((below_alloc _ _).alloc (by simp) _).alloc (by simp; omega) _))
    have hM0 : MidD W.heap.size N S (List.replicate S 0) W W2 := by
      refine ⟨by omega, ?_, ?_, by simp, hB2.out, hNW⟩
      · rw [hW2]
        exact alloc_up _ _ (alloc_at _ _ (by rw [hN]; simp))
      · rw [hW2, hN]
        exact (((World.rowIs_made w1 (.int .i64 0) S 2).alloc _).alloc _).congr (fun i hi => by simp [dgV, hi])
    have hr3 : W2.heap[N + 1 + 1]? = some (.cells #[.slice a X.length c] 22 (0, 0)) := by
      rw [← HN.out, hW2]
      exact alloc_at _ _ (by rw [hN]; simp)
    clear hW2 hmk1 d0 d1 hlt1 hs1 hN hB1
    refine wpIn_rangeFunc_ownF (F := Fence.wide) rfl (by omega) (gf := 34) (lb := #[.pointer (some ⟨N + 1 + 1, 0, none⟩)]) rfl trivial (enters_of Try.func34 (by kernel_rfl) rfl)
      (bounds_stops 5 (by omega) (N + 1 + 1) N a c X HS.out W2 hr3 (by omega) W hNW hB2.out HA.out) KeepB.trans (keepB_b (by omega) (by omega)) (Below.refl _ _) (fun _ => rfl)
      (fun pre V => ∃ D, MidD W.heap.size N S D W V ∧ dBd (List.replicate S 0) (pre.map zsOf) = D)
      (fun cc pre V => False)
      (ownFrom_of_below (fun s V h => by rw [hs2]; obtain ⟨_, h, _⟩ := h; exact h.size) (fun s V V' h hb => by obtain ⟨D, h1, h2⟩ := h; exact ⟨D, h1.below (by rw [← hs2]; exact hb), h2⟩))
      (fun cc => ownFrom_of_below (fun s V h => h.elim) (fun s V V' h hb => h.elim))
      ⟨_, hM0, rfl⟩
      (fun x => { tmps := #[.agg #[.int .i64 S, .slice a n c], .pointer (some ⟨W.heap.size, 0, none⟩), .slice none 0 0, .int .i64 0, .pointer (some ⟨N + 1, 0, none⟩), bdV W a x.1.1 x.1.2, undef, undef, .agg #[.int .i64 S, .slice a n c], .bool true, .bool false, .pointer (some ⟨W.heap.size, 0, none⟩), .int .i64 S, .slice (some ⟨N, 0, none⟩) S S, .pointer (some ⟨W.heap.size, 1, none⟩), .slice a n c, .func (.func 34) #[] #[.pointer (some ⟨N + 1 + 1, 0, none⟩)], bdV W a x.1.1 x.1.2, undef, undef, undef, undef, undef, undef, undef, undef, undef, undef, undef, undef, undef, undef, undef, undef, undef], defers := [] }) ?assign ?body ?done ?stop
    case assign =>
      intro l x V K hK
      gi_wp2
      exact hK
    case body =>
      rintro l pre ⟨⟨i, j⟩, xss, zs, h1, h2⟩ V ⟨D, hM0, hpre⟩ hlt
      dsimp only
      have HM := hide hM0
      obtain ⟨a2, c2, hbd, hi2⟩ := bdV_is HA.out h1 h2
      rw [hbd]
      obtain ⟨lz, hlz⟩ : ∃ lz, lz = zs.length := ⟨_, rfl⟩
      have HLZ := hide hlz
      rw [← hlz]
      have HI := hide hi2
      have hzl : lz ≤ 1048576 := by rw [hlz]; exact (HS.out.2.2 xss (mem_of_get h1)).2 zs (mem_of_get h2)
      have HG := hide (spr_good HSC.out (bi_mem h1 h2))
      have HPRE := hide hpre
      have hmap : Hid (dBd (List.replicate S 0) ((pre ++ [(⟨(i, j), xss, zs, h1, h2⟩ : Bi X)]).map zsOf) = if lz = 1 then D else dSp D zs) := hide (by
        rw [List.map_append, dBd_append, hpre]
        simp only [List.map_cons, List.map_nil]
        rw [zsOf_is h1 h2, dBd, ← hlz]
        rfl)
      clear hM0 hbd hi2 hlz hpre
      by_cases hz1 : lz = 1
      · have e1 : ((lz : Int) == 1) = true := by simp; omega
        have HMAP : Hid (dBd (List.replicate S 0) ((pre ++ [(⟨(i, j), xss, zs, h1, h2⟩ : Bi X)]).map zsOf) = D) := hide (by rw [hmap.out, if_pos hz1])
        clear hz1 hmap
        gi_wp2_with (with_reducible refine leadAny _ ?_)
        exact ⟨KeepsOthers.refl _, KeepB.refl _ _ _, D, HM.out, HMAP.out⟩
      · have e1 : ((lz : Int) == 1) = false := by simp; omega
        obtain ⟨r3, hr3'⟩ : ∃ r3, r3 = dSp D zs := ⟨_, rfl⟩
        have HMAP : Hid (dBd (List.replicate S 0) ((pre ++ [(⟨(i, j), xss, zs, h1, h2⟩ : Bi X)]).map zsOf) = r3) := hide (by rw [hmap.out, if_neg hz1, hr3'])
        have hE0 : Hid (dSp D (zs.drop 0) = r3) := hide (by rw [List.drop_zero, hr3'])
        clear hz1 hmap hr3'
        gi_wp2_with (with_reducible refine leadAny _ ?_)
        gi_loopw [23] (fun iv wr => ∃ (q : Nat) (D3 : List Int), q ≤ lz ∧ iv = .int .i64 q ∧ Hid (MidD W.heap.size N S D3 W wr) ∧ Hid (dSp D3 (zs.drop q) = r3) ∧ Hid (KeepsOthers V wr) ∧ Hid (KeepB N (N + 1 + 1) V wr))
          (fun iv _ => lz - (intOf iv).toNat)
        case atStart => exact ⟨0, D, by omega, rfl, HM, hE0, hide (KeepsOthers.refl _), hide (KeepB.refl _ _ _)⟩
        case round =>
          clear hE0
          obtain ⟨q, D3, hq, rfl, HM3, hE, hKO, hKB⟩ := hrel
          by_cases hql : q < lz
          · have hqz : q < zs.length := by rw [← HLZ.out]; exact hql
            obtain ⟨b3, o3, z, e0, hcell, hg3⟩ := HI.out.one hqz
            subst e0
            have c4 := cell_keep HM3.out.old hcell
            obtain ⟨hz0, hzS⟩ := HG.out.2 z (mem_of_get hg3.out)
            obtain ⟨Z, rfl⟩ : ∃ Z : Nat, z = Z := ⟨z.toNat, by omega⟩
            have hZS : Z < S := by omega
            have c3 : wr.cell? ⟨N + 1, 0, none⟩ = some (.slice (some ⟨N, 0, none⟩) S S) := (cell_of_row _ _ 0 _ _ (0, 0) HM3.out.bp).trans rfl
            obtain ⟨f1, f2⟩ := (⟨HM3.out.row.cell hZS, HM3.out.row.frozen Z⟩ : wr.cell? ⟨N, Z, none⟩ = some (dgV D3 Z) ∧ wr.frozen? ⟨N, Z, none⟩ = false)
            unfold dgV at f1
            obtain ⟨v, hv⟩ : ∃ v, v = D3.getD Z 0 := ⟨_, rfl⟩
            rw [← hv] at f1
            have HE : Hid (dSp (D3.set Z (wrap64 (v + 1))) (zs.drop (q + 1)) = r3) := hide (by rw [← hE.out, drop_of_get hg3.out, dSp, Int.toNat_natCast, hv])
            have HM6 := hide (HM3.out.set hZS (wrap64 (v + 1)))
            have hKO6 : Hid (KeepsOthers V (wr.setCell ⟨N, Z, none⟩ (.int .i64 (wrap64 (v + 1))))) := hide (hKO.out.trans (KeepsOthers.setCell _ _ _))
            have hKB6 : Hid (KeepB N (N + 1 + 1) V (wr.setCell ⟨N, Z, none⟩ (.int .i64 (wrap64 (v + 1))))) := hide (hKB.out.trans ⟨(Below.refl _ _).setCell (by first | (simp; done) | (simp; omega) | (show _ ≤ _; omega)) _, Below.heap_setCell _ _ _ _ (by first | (simp; done) | (simp; omega) | omega)⟩)
            clear hv hz0 hzS hcell hE
            gi_wp2_with (with_reducible refine leadAny _ ?_)
            go_roundw
            case rel => exact ⟨q + 1, _, by omega, by go_num, HM6, HE, hKO6, hKB6⟩
            case measure => simp [intOf]; omega
          · obtain rfl : q = lz := by omega
            have hfin : Hid (dBd (List.replicate S 0) ((pre ++ [(⟨(i, j), xss, zs, h1, h2⟩ : Bi X)]).map zsOf) = D3) := hide (by
              rw [HMAP.out, ← hE.out, HLZ.out, List.drop_length]
              rfl)
            gi_wp2_with (with_reducible refine leadAny _ ?_)
            exact ⟨hKO.out, hKB.out, D3, HM3.out, hfin.out⟩
    case done =>
      rintro Dd ys V hD rfl ⟨D, hM0, hfold⟩ hK
      have HM := hide hM0
      have c3 : V.cell? ⟨N + 1, 0, none⟩ = some (.slice (some ⟨N, 0, none⟩) S S) := (cell_of_row _ _ 0 _ _ (0, 0) hM0.bp).trans rfl
      have hne : N + 1 ≠ Dd := by omega
      have HFIN : Hid (Below W.heap.size W (V.putObj Dd (.deferred none))) := hide (hM0.old.trans (belowK_b (w := W2) (by omega) _ Dd _ _ hD hK rfl rfl))
      have HROW : Hid ((V.putObj Dd (.deferred none)).rowIs N 2 S (fun i => .int .i64 (degC st S i))) := hide (by
        refine (rowIs_block hM0.row (World.putObj_heap_other (by omega))).congr (fun i hi => ?_)
        unfold dgV
        rw [← hfold, bAll_zs, (dBd_deg HS.out HSC.out hi).1])
      clear hM0 hfold hr3
      gi_wp2
      refine ⟨by simp, .inl ⟨_, _, rfl, run_takeDeferred hK, ?_⟩⟩
      refine ⟨.tuple #[.slice (some ⟨N, 0, none⟩) S S, .int .i64 0], by simp [results, Try.results9, go_sem], ?_⟩
      exact DegR.yes HFIN.out hNW HROW.out
    case stop =>
      rintro Dd cc pre V hD _ h hK
      exact h.elim
end Go.Proofs.Ytlllkmobhjlmoab
