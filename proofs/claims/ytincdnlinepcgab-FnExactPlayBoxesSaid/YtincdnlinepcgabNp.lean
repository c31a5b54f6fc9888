/-
  Dots and boxes: the table of net scores by digits. Plain functions; l03Place, l03Table.
-/
import Derived.Test.YtincdnlinepcgabNg
namespace Go.Proofs.Ytincdnlinepcgab
open Go.RowKit
set_option linter.unusedVariables false

/-- Those of the pairs whose first is drawn: their seconds. -/
def foldE (E : Int) (l : List (Int × Int)) (acc : Int) : Int := l.foldl (fun a p => if drawn E p.1 then withE a p.2 else a) acc
theorem foldE_nonneg (E : Int) : ∀ (l : List (Int × Int)) (acc : Int), 0 ≤ acc → 0 ≤ foldE E l acc
  | [], acc, h => h
  | p :: l, acc, h => by
    show 0 ≤ foldE E l (if drawn E p.1 then withE acc p.2 else acc)
    refine foldE_nonneg E l _ ?_
    split
    · exact withE_nonneg _ _
    · exact h
theorem foldE_snoc (E : Int) (l : List (Int × Int)) (p : Int × Int) (acc : Int) : foldE E (l ++ [p]) acc = if drawn E p.1 then withE (foldE E l acc) p.2 else foldE E l acc := by
  unfold foldE
  rw [List.foldl_append]
  rfl
theorem foldE_lt (E : Int) (n : Nat) : ∀ (l : List (Int × Int)) (acc : Int), 0 ≤ acc → acc < 2 ^ n → (∀ p ∈ l, p.2.toNat < n) → foldE E l acc < 2 ^ n
  | [], acc, _, h, _ => h
  | p :: l, acc, h0, h, hp => by
    show foldE E l (if drawn E p.1 then withE acc p.2 else acc) < 2 ^ n
    refine foldE_lt E n l _ ?_ ?_ (fun q hq => hp q (List.mem_cons_of_mem _ hq))
    · split
      · exact withE_nonneg _ _
      · exact h0
    · split
      · exact withE_lt h0 h (hp p List.mem_cons_self)
      · exact h
theorem foldE_dg (E : Int) : ∀ (l : List (Int × Int)) (acc j : Int), 0 ≤ acc → 0 ≤ j → (∀ p ∈ l, 0 ≤ p.2) → (dg (foldE E l acc) j = 1 ↔ dg acc j = 1 ∨ ∃ p ∈ l, drawn E p.1 = true ∧ p.2 = j)
  | [], acc, j, _, _, _ => by simp [foldE]
  | p :: l, acc, j, h0, hj, hp => by
    have hp0 := hp p List.mem_cons_self
    have ih := foldE_dg E l (if drawn E p.1 then withE acc p.2 else acc) j (by split; exact withE_nonneg _ _; exact h0) hj (fun q hq => hp q (List.mem_cons_of_mem _ hq))
    show dg (foldE E l (if drawn E p.1 then withE acc p.2 else acc)) j = 1 ↔ _
    rw [ih]
    by_cases hd : drawn E p.1 = true
    · rw [if_pos hd, dg_withE h0 hp0 hj]
      by_cases e : j = p.2
      · subst e
        simp [hd]
      · have e' : ¬ p.2 = j := fun x => e x.symm
        simp [e, e']
    · rw [if_neg hd]
      simp [hd]
theorem eq_of_dg {a b : Int} (ha : 0 ≤ a) (hb : 0 ≤ b) (h : ∀ j : Int, 0 ≤ j → (dg a j = 1 ↔ dg b j = 1)) : a = b := by
  obtain ⟨m, rfl⟩ := Int.eq_ofNat_of_zero_le ha
  obtain ⟨n, rfl⟩ := Int.eq_ofNat_of_zero_le hb
  have : m = n := by
    apply Nat.eq_of_testBit_eq
    intro i
    have hi := h (i : Int) (by omega)
    rw [dg_nat, dg_nat] at hi
    cases h1 : m.testBit i <;> cases h2 : n.testBit i <;> simp [h1, h2] at hi ⊢
  rw [this]

/-- The place of a position in the table: the digits of the edges that were free. -/
def prP (free : List Int) (k : Nat) : List (Int × Int) := (List.range k).map fun i : Nat => (free.getD i 0, (i : Int))
theorem prP_snoc (free : List Int) (k : Nat) : prP free (k + 1) = prP free k ++ [(free.getD k 0, (k : Int))] := by simp [prP, List.range_succ]
def plTo (free : List Int) (E : Int) (k : Nat) : Int := foldE E (prP free k) 0
theorem plTo_succ {free : List Int} {E z : Int} {k : Nat} (h : free[k]? = some z) : plTo free E (k + 1) = if drawn E z then withE (plTo free E k) (k : Int) else plTo free E k := by
  unfold plTo
  rw [prP_snoc, foldE_snoc]
  simp [List.getD, h]
theorem plTo_range (free : List Int) (E : Int) {k : Nat} {n : Nat} (h : k ≤ n) : 0 ≤ plTo free E k ∧ plTo free E k < 2 ^ n := by
  refine ⟨foldE_nonneg _ _ _ (Int.le_refl _), foldE_lt E n _ 0 (Int.le_refl _) (Int.pow_pos (by decide)) fun p hp => ?_⟩
  obtain ⟨i, hi, rfl⟩ := List.mem_map.1 hp
  have := List.mem_range.1 hi
  show (i : Int).toNat < n
  omega
def place (free : List Int) (E : Int) : Int := plTo free E free.length
theorem place_dg (free : List Int) (E : Int) {i : Nat} {z : Int} (h : free[i]? = some z) : dg (place free E) (i : Int) = 1 ↔ drawn E z = true := by
  have hi := (List.getElem?_eq_some_iff.1 h).1
  have h0 : ¬ (dg 0 (i : Int) = 1) := by rw [show (0 : Int) = ((0 : Nat) : Int) by rfl, dg_nat]; simp
  unfold place plTo
  rw [foldE_dg E _ 0 _ (Int.le_refl _) (by omega) (fun p hp => by obtain ⟨j, _, rfl⟩ := List.mem_map.1 hp; show 0 ≤ (j : Int); omega)]
  constructor
  · rintro (h1 | ⟨p, hp, hd, he⟩)
    · exact absurd h1 h0
    · obtain ⟨j, _, rfl⟩ := List.mem_map.1 hp
      simp only at he hd
      have : j = i := by omega
      subst this
      simpa [List.getD, h] using hd
  · intro hd
    exact .inr ⟨_, List.mem_map.2 ⟨i, List.mem_range.2 hi, rfl⟩, by simpa [List.getD, h] using hd, rfl⟩

/-- E has all that E0 has. -/
def Ext (E0 E : Int) : Prop := ∀ j : Int, 0 ≤ j → drawn E0 j = true → drawn E j = true
theorem Ext.refl (E : Int) : Ext E E := fun _ _ h => h
theorem Ext.with {E0 E e : Int} (h : Ext E0 E) (h0 : 0 ≤ E) (he : 0 ≤ e) : Ext E0 (withE E e) := fun j hj hd => by
  rw [drawn_withE h0 he hj, h j hj hd]
  simp
theorem dg_far {E j : Int} {n : Nat} (h0 : 0 ≤ E) (h : E < 2 ^ n) (hj : (n : Int) ≤ j) : dg E j = 0 := by
  obtain ⟨m, rfl⟩ := Int.eq_ofNat_of_zero_le h0
  obtain ⟨k, rfl⟩ := Int.eq_ofNat_of_zero_le (show 0 ≤ j by omega)
  rw [dg_nat]
  have hm : m < 2 ^ n := by exact_mod_cast h
  rw [Nat.testBit_lt_two_pow (Nat.lt_of_lt_of_le hm (Nat.pow_le_pow_right (by omega) (by omega)))]
  simp
theorem place_inj {w h E0 E1 E2 : Int} (b0 : okBox w h E0 = true) (b1 : okBox w h E1 = true) (b2 : okBox w h E2 = true) (x1 : Ext E0 E1) (x2 : Ext E0 E2) (he : place (freeE w h E0) E1 = place (freeE w h E0) E2) : E1 = E2 := by
  obtain ⟨_, _, _, _, p1, q1⟩ := okBox_parts b1
  obtain ⟨_, _, _, _, p2, q2⟩ := okBox_parts b2
  obtain ⟨m, hm, _⟩ := edges_nat b0
  refine eq_of_dg p1 p2 fun j hj => ?_
  by_cases hjm : (m : Int) ≤ j
  · rw [dg_far p1 q1 (by omega), dg_far p2 q2 (by omega)]
  · cases hd : drawn E0 j
    · have hmem : j ∈ freeE w h E0 := by
        obtain ⟨k, rfl⟩ := Int.eq_ofNat_of_zero_le hj
        unfold freeE pre
        refine List.mem_map.2 ⟨k, List.mem_filter.2 ⟨List.mem_range.2 (by omega), by simp [hd]⟩, rfl⟩
      obtain ⟨i, hi⟩ := List.mem_iff_getElem?.1 hmem
      have h1 := place_dg (freeE w h E0) E1 hi
      have h2 := place_dg (freeE w h E0) E2 hi
      rw [he] at h1
      have := h1.symm.trans h2
      simpa [drawn] using this
    · have h1 := dg_of_drawn (x1 j hj hd)
      have h2 := dg_of_drawn (x2 j hj hd)
      rw [h1, h2]

/-- What the table holds. -/
def Good (w h E0 : Int) (Lt : List Int) : Prop := ∀ E : Int, okBox w h E = true → Ext E0 E → ∀ t, Lt[(place (freeE w h E0) E).toNat]? = some t → t = -100 ∨ t = net w h E
theorem Good.start (w h E0 : Int) (n : Nat) : Good w h E0 (List.replicate n (-100)) := fun E _ _ t ht => by
  rw [List.getElem?_replicate] at ht
  split at ht
  · exact .inl (Option.some.inj ht).symm
  · cases ht
theorem Good.set {w h E0 E : Int} {Lt : List Int} (hG : Good w h E0 Lt) (b0 : okBox w h E0 = true) (hb : okBox w h E = true) (hx : Ext E0 E) : Good w h E0 (Lt.set (place (freeE w h E0) E).toNat (net w h E)) := fun E' hb' hx' t ht => by
  rw [List.getElem?_set] at ht
  split at ht
  · rename_i heq
    split at ht
    · have h1 := (plTo_range (freeE w h E0) E (Nat.le_refl (freeE w h E0).length)).1
      have h2 := (plTo_range (freeE w h E0) E' (Nat.le_refl (freeE w h E0).length)).1
      have : E = E' := place_inj b0 hb hb' hx hx' (by unfold place at *; omega)
      subst this
      exact .inr (Option.some.inj ht).symm
    · cases ht
  · exact hG E' hb' hx' t ht

/-- The table in its block. -/
def Tab (w h E0 : Int) (W : World) (bK : Nat) : Prop := ∃ Lt : List Int, W.heap[bK]? = some (.cells (Lt.map intV).toArray 2 (0, 0)) ∧ Lt.length = 2 ^ (freeE w h E0).length ∧ Good w h E0 Lt
theorem Tab.keep {w h E0 : Int} {W W' : World} {bK : Nat} (ht : Tab w h E0 W bK) (hb : Below W.heap.size W W') : Tab w h E0 W' bK := by
  obtain ⟨Lt, h1, h2, h3⟩ := ht
  exact ⟨Lt, box_keep h1 hb, h2, h3⟩
theorem Tab.lt {w h E0 : Int} {W : World} {bK : Nat} (ht : Tab w h E0 W bK) : bK < W.heap.size := by
  obtain ⟨Lt, h1, _⟩ := ht
  exact block_lt h1
theorem pow_walk {k : Nat} (hk : k < 25) : wrap64 ((2 : Int) ^ k) = 2 ^ k := shl_walk64 (k := (k : Int)) (by omega)
theorem or_pow_walk {O : Int} {k : Nat} (h0 : 0 ≤ O) (h1 : O < 16777216) (hk : k < 24) : bits BinOp.or IntKind.i64 O (2 ^ k) = withE O (k : Int) := or_walk (k := (k : Int)) h0 h1 (by omega)
theorem or_zero_walk {O : Int} (h0 : 0 ≤ O) (h1 : O < 16777216) : bits BinOp.or IntKind.i64 O 0 = O := by
  obtain ⟨m, rfl⟩ := Int.eq_ofNat_of_zero_le h0
  have := (bits_nat .i64 63 (by decide) wraps_i64 m 0 (by omega) (by omega)).2
  simpa using this

set_option maxRecDepth 100000 in
set_option maxHeartbeats 2000000 in
theorem place_any (w h E : Int) (a : Option Addr) (c : Nat) (free : List Int) (W : World) (h0 : 0 ≤ E) (h1 : E < 16777216) (ha : IntsAt W a free) (hl : free.length ≤ 12) (hz : ∀ z ∈ free, 0 ≤ z ∧ z < 24) :
    Calls Try.prog 54 #[.agg #[.int .i64 w, .int .i64 h, .int .i64 E], .slice a free.length c] W (RetB (.int .i64 (place free E)) W) := by
  obtain ⟨n, hn⟩ : ∃ n, n = free.length := ⟨_, rfl⟩
  obtain ⟨P, hP⟩ : ∃ P, P = plTo free E := ⟨_, rfl⟩
  have hPr : Hid (∀ k, k ≤ n → 0 ≤ P k ∧ P k < 16777216) := hide (fun k hk => by
    rw [hP]
    have := plTo_range free E (k := k) (n := 24) (by omega)
    have h24 : ((2 : Int) ^ 24) = 16777216 := by decide
    omega)
  have hPs : Hid (∀ (k : Nat) (z : Int), free[k]? = some z → P (k + 1) = if drawn E z then withE (P k) (k : Int) else P k) := hide (fun k z hk => by rw [hP]; exact plTo_succ hk)
  have hPn : Hid (P n = place free E) := hide (by rw [hP, hn]; rfl)
  have hP0 : Hid (P 0 = 0) := hide (by rw [hP]; rfl)
  rw [← hn] at hl ⊢
  have HN := hide hn
  have HZ := hide hz
  have hX0 := hide (boxIn_new W w h E 26)
  have hB0 := hide (below_alloc W (.cells #[.int .i64 w, .int .i64 h, .int .i64 E] 26))
  have hA0 := hide (ha.keep hB0.out)
  clear hn hP hz ha
  go_enter Try.func54, Try.ntmps54
  go_wp2_with fail
  obtain ⟨W0, hW0⟩ : ∃ W0, W0 = W.alloc (.cells #[.int .i64 w, .int .i64 h, .int .i64 E] 26) := ⟨_, rfl⟩
  rw [← hW0] at hX0 hA0 hB0 ⊢
  clear hW0
  go_loopw [5, 6] (fun o i wr => ∃ k : Nat, k ≤ n ∧ i = .int .i64 k ∧ o = .int .i64 (P k) ∧ Below W0.heap.size W0 wr) (fun _ i _ => n - (intOf i).toNat)
  case atStart => exact ⟨0, Nat.zero_le _, rfl, by rw [hP0.out], Below.refl _ _⟩
  case round =>
    obtain ⟨k, hk, rfl, rfl, hB⟩ := hrel
    by_cases hlt : k < n
    · obtain ⟨b, off, z, rfl, hcz, hzk⟩ := (hA0.out.keep hB).one (k := k) (by rw [← HN.out]; exact hlt)
      obtain ⟨z0, z1⟩ := HZ.out z (List.mem_of_getElem? hzk.out)
      obtain ⟨p0, p1⟩ := hPr.out k hk
      have hst := hPs.out k z hzk.out
      obtain ⟨O, hO⟩ : ∃ O, O = P k := ⟨_, rfl⟩
      rw [← hO] at p0 p1 hst ⊢
      have hu := u64_small z0 (by omega)
      have hku : IntKind.u64.wrap (k : Int) = (k : Int) := u64_small (by omega) (by omega)
      have hpw := pow_walk (k := k) (by omega)
      have hor := or_pow_walk (k := k) p0 p1 (by omega)
      have hoz := or_zero_walk p0 p1
      have hwz : wrap64 0 = 0 := wrap64_small (Int.le_refl _) (by omega)
      have hdw := dg_walk (k := z) h0 h1
      have hk0 : (0 : Int) ≤ (k : Int) := by omega
      have hkn' : (k : Int) < (n : Int) := by omega
      obtain ⟨c0, c1, c2⟩ := (hX0.out.keep hB).past
      have cz : ∀ p : Past wr, p.to.cell? ⟨b, off + k, none⟩ = some (.int .i64 z) := fun p => p.cell hcz
      have HB := hide hB
      clear hO hzk hcz hB
      cases hdr : drawn E z
      all_goals
        first
          | (have hd1 := dg_of_drawn hdr; rw [hd1] at hdw; rw [hdr, if_pos rfl] at hst; clear hd1)
          | (have hd1 := dg_of_free hdr; rw [hd1] at hdw; rw [hdr] at hst; simp only [Bool.false_eq_true, if_false] at hst; clear hd1)
        have HST := hide hst
        clear hst hdr
        go_wp2_with fail
        refine wp_region_past (by kernel_rfl) (by kernel_rfl) ?_
        repeat (first | go_big_quiet_step (fail) | quiet_step (fail))
        refine wpQuiet_nil ?_
        rintro _ ⟨pq, rfl⟩
        go_wp2_with fail
        go_roundw
        case rel => exact ⟨k + 1, by omega, by go_num, by rw [HST.out], Below.trans' HB.out pq.old⟩
        case measure => simp [intOf]; omega
    · obtain rfl : k = n := by omega
      go_wp2_with fail
      go_ret
      exact ⟨ret_int hPn.out, Below.trans' hB0.out hB⟩

def tabRow (n k : Nat) : Nat → Value := fun i => if i < k then .int .i64 (-100) else .int .i64 0

set_option maxRecDepth 100000 in
set_option maxHeartbeats 2000000 in
theorem table_any (a : Option Addr) (c n : Nat) (W : World) (hn : n ≤ 12) :
    Calls Try.prog 30 #[.slice a n c] W fun e W' => e = .returned (.slice (some ⟨W.heap.size, 0, none⟩) (2 ^ n) (2 ^ n)) ∧ W'.heap[W.heap.size]? = some (.cells ((List.replicate (2 ^ n) (-100 : Int)).map intV).toArray 2 (0, 0)) ∧ Below W.heap.size W W' := by
  obtain ⟨M, hM⟩ : ∃ M : Nat, M = 2 ^ n := ⟨_, rfl⟩
  have hMb : M ≤ 4096 := by
    rw [hM]
    have : (2 : Nat) ^ n ≤ 2 ^ 12 := Nat.pow_le_pow_right (by omega) hn
    simpa using this
  have hsh : wrap64 ((2 : Int) ^ n) = (M : Int) := by rw [pow_walk (by omega), hM]; simp
  have hku : IntKind.u64.wrap (n : Int) = (n : Int) := u64_small (by omega) (by omega)
  have hmk := run_make_row' (P := Try.prog) 29 2 (.int .i64 0) 8 Try.underlying29 Try.info2 rfl .i64 .i64 M (by omega) (by omega)
  have h0 := hide (World.rowIs_made W (.int .i64 0) M 2)
  have hB0 := hide (below_alloc W (.cells (madeCells #[.int .i64 0] M) 2))
  rw [← hM]
  clear hM
  go_enter Try.func30, Try.ntmps30
  go_wp2_with fail
  go_loopw [12] (fun i wr => ∃ k : Nat, k ≤ M ∧ i = .int .i64 k ∧ wr.rowIs W.heap.size 2 M (tabRow M k) ∧ Below W.heap.size W wr) (fun i _ => M - (intOf i).toNat)
  case atStart => exact ⟨0, Nat.zero_le _, rfl, h0.out.congr (fun i _ => by simp [tabRow]), hB0.out⟩
  case round =>
    clear h0 hB0 hmk hsh
    obtain ⟨k, hk, rfl, hr, hB⟩ := hrel
    by_cases hlt : k < M
    · have hce := hr.cell hlt
      have hfr := hr.frozen k
      have hn2 : Hid ((wr.setCell ⟨W.heap.size, k, none⟩ (.int .i64 (-100))).rowIs W.heap.size 2 M (tabRow M (k + 1))) := hide ((hr.set k (.int .i64 (-100))).congr (fun i _ => by
        unfold tabRow
        by_cases e : i = k
        · subst e; simp
        · simp only [e, if_false]
          by_cases h1 : i < k
          · rw [if_pos h1, if_pos (by omega)]
          · rw [if_neg h1, if_neg (by omega)]))
      have hB' := hide (hB.setCell (p := ⟨W.heap.size, k, none⟩) (Nat.le_refl _) (.int .i64 (-100)))
      clear hr hB
      go_wp2_with fail
      go_roundw
      case rel => exact ⟨k + 1, by omega, by go_num, hn2.out, hB'.out⟩
      case measure => simp [intOf]; omega
    · obtain rfl : k = M := by omega
      have hfin : Hid (wr.heap[W.heap.size]? = some (.cells ((List.replicate k (-100 : Int)).map intV).toArray 2 (0, 0))) := by
        obtain ⟨cur, hc, hs, hi⟩ := hr
        have e2 : cur = ((List.replicate k (-100 : Int)).map intV).toArray := by
          apply Array.ext_getElem?
          intro i
          by_cases hik : i < k
          · rw [hi i hik]
            simp [tabRow, hik, intV]
          · rw [Array.getElem?_eq_none (by omega), Array.getElem?_eq_none (by simp; omega)]
        rw [← e2]
        exact hide hc
      clear hr
      go_wp2_with fail
      go_ret
      exact ⟨rfl, hfin.out, hB⟩
end Go.Proofs.Ytincdnlinepcgab
