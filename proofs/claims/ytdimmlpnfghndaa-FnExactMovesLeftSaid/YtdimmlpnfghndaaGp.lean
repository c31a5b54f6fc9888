/-
  Col and snort: the least and the greatest number of moves, the model's text, beside its table.
-/
import Derived.Test.YtdimmlpnfghndaaGn
import Derived.Lib.MinMax
import Derived.IntWalk
namespace Go.Proofs.Ytdimmlpnfghndaa
open Go.RowKit Go.Maps
set_option linter.unusedVariables false

def lo (N L game R B pl : Int) : Int := left upMin N L R B game pl
def hi (N L game R B pl : Int) : Int := left upMax N L R B game pl
def valL (N L game : Int) (R B pl : Int) : Int := hi N L game R B pl * 9 + lo N L game R B pl + 1
theorem upMin_snoc (l : List Int) (a : Int) : upMin (l ++ [a]) = if l = [] then a + 1 else if a + 1 < upMin l then a + 1 else upMin l := by
  cases l with
  | nil => rfl
  | cons x r =>
    rw [if_neg (by simp)]
    have e1 : upMin (x :: r) = r.foldl (fun m x => if x < m then x else m) x + 1 := rfl
    have e2 : upMin (x :: r ++ [a]) = (r ++ [a]).foldl (fun m x => if x < m then x else m) x + 1 := rfl
    rw [e1, e2, List.foldl_append]
    obtain ⟨m, hm⟩ : ∃ m, m = r.foldl (fun m x => if x < m then x else m) x := ⟨_, rfl⟩
    rw [← hm]
    simp only [List.foldl_cons, List.foldl_nil]
    by_cases h : a < m
    · rw [if_pos h, if_pos (by omega)]
    · rw [if_neg h, if_neg (by omega)]
theorem max_if (m a : Int) : max m a = if m < a then a else m := by
  by_cases h : m < a
  · rw [if_pos h]; omega
  · rw [if_neg h]; omega
theorem upMax_snoc (l : List Int) (a : Int) (h0 : 0 ≤ a) : upMax (l ++ [a]) = max (upMax l) (a + 1) := by
  rw [max_if]
  cases l with
  | nil =>
    have e1 : upMax ([] : List Int) = 0 := rfl
    have e2 : upMax ([] ++ [a]) = a + 1 := rfl
    rw [e1, e2, if_pos (by omega)]
  | cons x r =>
    have e1 : upMax (x :: r) = r.foldl (fun m x => if m < x then x else m) x + 1 := rfl
    have e2 : upMax (x :: r ++ [a]) = (r ++ [a]).foldl (fun m x => if m < x then x else m) x + 1 := rfl
    rw [e1, e2, List.foldl_append]
    obtain ⟨m, hm⟩ : ∃ m, m = r.foldl (fun m x => if m < x then x else m) x := ⟨_, rfl⟩
    rw [← hm]
    simp only [List.foldl_cons, List.foldl_nil]
    by_cases h : m < a
    · rw [if_pos h, if_pos (by omega)]
    · rw [if_neg h, if_neg (by omega)]
theorem up_range {up : List Int → Int} (hu : UpOk up) {l : List Int} (h : ∀ x ∈ l, 0 ≤ x ∧ x ≤ 8) : 0 ≤ up l ∧ up l ≤ 9 := by
  by_cases e : l = []
  · rw [e, hu.1]; omega
  · have := hu.2 l 8 e h
    omega
theorem rem9 {h l : Int} (h0 : 0 ≤ h) (l0 : 0 ≤ l) (l8 : l ≤ 8) : (h * 9 + l).tmod 9 = l ∧ (h * 9 + l).tdiv 9 = h := by
  rw [Int.tmod_eq_emod_of_nonneg (by omega), Int.tdiv_eq_ediv_of_nonneg (by omega)]
  omega
theorem i8_small {x : Int} (h0 : 0 ≤ x) (h1 : x ≤ 127) : IntKind.i8.wrap x = x := Go.IntWalk.i8_in x (by omega)
theorem snoc_take {f : Int → Int} {zs : List Int} {j : Nat} {z : Int} (h : zs[j]? = some z) : (zs.map f).take (j + 1) = (zs.map f).take j ++ [f z] := by
  rw [List.take_add_one, List.getElem?_map, h]
  rfl

/-- Two numbers. -/
def two (a b : Int) : Value := .tuple #[.int .i64 a, .int .i64 b]

set_option maxRecDepth 100000 in
set_option maxHeartbeats 4000000 in
theorem specLeft_walk (N L game : Int) (bK M : Nat) (hM : (M : Int) = 2 * pow3 N.toNat) (R B pl : Int) (hok : okT N L R B pl) (W : World) (hT : KnT (valL N L game) N L bK W)
    (hD : ∀ (i : Int) (V : World), i ∈ pts N L R B game pl → KnT (valL N L game) N L bK V → Calls Try.prog 67 #[.agg #[.int .i64 N, .int .i64 L, .int .i64 (mvR R pl i), .int .i64 (mvB B pl i)], .int .i64 game, .int .i64 (1 - pl), .slice (some ⟨bK, 0, none⟩) M M] V (RetK bK (KnT (valL N L game) N L bK) (two (lo N L game (mvR R pl i) (mvB B pl i) (1 - pl)) (hi N L game (mvR R pl i) (mvB B pl i) (1 - pl))) V)) :
    Calls Try.prog 67 #[.agg #[.int .i64 N, .int .i64 L, .int .i64 R, .int .i64 B], .int .i64 game, .int .i64 pl, .slice (some ⟨bK, 0, none⟩) M M] W (RetK bK (KnT (valL N L game) N L bK) (two (lo N L game R B pl) (hi N L game R B pl)) W) := by
  have hM8 : M ≤ 13122 := by
    have := pow3_8 (n := N.toNat) (by have := okF_nums hok.1; omega)
    omega
  obtain ⟨W0, hW0⟩ : ∃ W0, W0 = W.alloc (.cells #[.int .i64 N, .int .i64 L, .int .i64 R, .int .i64 B] 25) := ⟨_, rfl⟩
  have hB0 : Hid (Below W.heap.size W W0) := by rw [hW0]; exact hide (below_alloc _ _)
  have hX0 : Hid (FieldIn W0 W.heap.size N L R B) := by rw [hW0]; exact hide (fieldIn_new _ _ _ _ _ _)
  have hbK : bK < W.heap.size := hT.lt
  have HT0 := hide (hT.keep hB0.out)
  have HOT := hide hok
  have HD := hide hD
  have HM := hide hM
  have hN8 := (okF_nums hok.1).2.1
  obtain ⟨vl, hvl⟩ : ∃ v, v = lo N L game R B pl := ⟨_, rfl⟩
  obtain ⟨vh, hvh⟩ : ∃ v, v = hi N L game R B pl := ⟨_, rfl⟩
  have hl8 : 0 ≤ vl ∧ vl ≤ 8 := by rw [hvl]; exact left_8 upMin_ok hok.1
  have hh8 : 0 ≤ vh ∧ vh ≤ 8 := by rw [hvh]; exact left_8 upMax_ok hok.1
  have HVV : Hid (valL N L game R B pl = vh * 9 + vl + 1) := hide (by rw [hvl, hvh]; rfl)
  rw [← hvl, ← hvh]
  have HVL := hide hvl
  have HVH := hide hvh
  have HTWO : Hid (two vl vh = .tuple #[.int .i64 vl, .int .i64 vh]) := hide rfl
  rw [HTWO.out]
  obtain ⟨pl0, pl1⟩ := hok.2
  obtain ⟨l0, l8⟩ := hl8
  obtain ⟨h0, h8⟩ := hh8
  have HPL : Hid (∀ V : World, Calls Try.prog 77 #[.agg #[.int .i64 N, .int .i64 L, .int .i64 R, .int .i64 B], .int .i64 pl] V (RetB (.int .i64 (place N R B pl)) V)) := hide (fun V => place_any N L R B pl HOT.out.1 HOT.out.2 V)
  have HPT : Hid (∀ V : World, Calls Try.prog 52 #[.agg #[.int .i64 N, .int .i64 L, .int .i64 R, .int .i64 B], .int .i64 game, .int .i64 pl] V (NewL (pts N L R B game pl) V)) := hide (fun V => specPoints_any N L R B game pl HOT.out.1 V)
  obtain ⟨X0, X1, X2, X3⟩ := hX0.out
  clear hT hok hD hM hvl hvh
  go_enter Try.func67, Try.ntmps67
  go_wp2_with fail
  rw [← hW0]
  clear hW0
  (try go_wp2_with fail)
  refine (HPL.out _).mono ?_
  rintro e w1 ⟨rfl, hb1⟩
  have HT1 := hide (HT0.out.keep hb1)
  have hX1 := hide (hX0.out.keep hb1)
  have hB1 := hide (Below.trans' hB0.out hb1)
  have hs1 := hX1.out.lt
  clear hb1 X0 X1 X2 X3
  obtain ⟨X0, X1, X2, X3⟩ := hX1.out
  obtain ⟨p, t, hp, hpM, hc, hf, ht⟩ := HT1.out.cell HOT.out
  rw [hp]
  have HP := hide hp
  have HTV := hide ht
  have hpM' : p < M := by have := HM.out; omega
  clear hp hpM ht
  by_cases ht0 : 0 < t
  · have htv : t = vh * 9 + vl + 1 := by
      rcases HTV.out with h | h
      · omega
      · rw [h, HVV.out]
    have HFIN : Hid (RetK bK (KnT (valL N L game) N L bK) (.tuple #[.int .i64 vl, .int .i64 vh]) W (.returned (.tuple #[.int .i64 vl, .int .i64 vh])) w1) := hide ⟨rfl, But.of_below hB1.out, HT1.out⟩
    obtain ⟨r1, r2⟩ := rem9 h0 l0 l8
    have ht1 : t - 1 = vh * 9 + vl := by omega
    have ht82 : t ≤ 127 := by omega
    have hi8 := i8_small (x := t) (by omega) ht82
    rw [← ht1] at r1 r2
    clear HTV htv ht1
    go_wp2_with fail
    go_ret2
    exact HFIN.out
  · obtain rfl : t = 0 := by
      rcases HTV.out with h | h
      · exact h
      · rw [HVV.out] at h
        omega
    clear HTV ht0
    go_wp2_with fail
    refine (HPT.out _).mono ?_
    rintro e w2 ⟨al, cl, rfl, ho2, hb2⟩
    obtain ⟨zs, hzs⟩ : ∃ zs, zs = pts N L R B game pl := ⟨_, rfl⟩
    rw [← hzs] at ho2 ⊢
    have HZS := hide hzs
    have HI2 := hide (intsAt_of_ownsRow ho2)
    have HFAR := hide (own_far ho2 (show bK < w1.heap.size by omega))
    have hzl : zs.length ≤ 8 := by rw [hzs]; exact pts_le hN8
    have HT2 := hide (HT1.out.keep hb2)
    have hX2 := hide (hX1.out.keep hb2)
    have hB2 := hide (Below.trans' hB1.out hb2)
    obtain ⟨n, hn⟩ : ∃ n, n = zs.length := ⟨_, rfl⟩
    have HN := hide hn
    rw [← hn] at hzl ⊢
    obtain ⟨ql, hql⟩ : ∃ q : Int → Int, q = fun i => lo N L game (mvR R pl i) (mvB B pl i) (1 - pl) := ⟨_, rfl⟩
    obtain ⟨qh, hqh⟩ : ∃ q : Int → Int, q = fun i => hi N L game (mvR R pl i) (mvB B pl i) (1 - pl) := ⟨_, rfl⟩
    have HQR : Hid (∀ z ∈ zs, (0 ≤ ql z ∧ ql z ≤ 8) ∧ (0 ≤ qh z ∧ qh z ≤ 8)) := hide (fun z hz => by
      rw [hzs] at hz
      obtain ⟨h1, _, _⟩ := move_of_pts HOT.out.1 hz
      rw [hql, hqh]
      exact ⟨left_8 upMin_ok h1, left_8 upMax_ok h1⟩)
    have HWL : Hid (vl = upMin (zs.map ql)) := hide (by rw [HVL.out, hql, hzs]; exact left_step upMin HOT.out.1)
    have HWH : Hid (vh = upMax (zs.map qh)) := hide (by rw [HVH.out, hqh, hzs]; exact left_step upMax HOT.out.1)
    have HQL := hide hql
    have HQH := hide hqh
    obtain ⟨ml, hml⟩ : ∃ m : Nat → Int, m = fun j => upMin ((zs.map ql).take j) := ⟨_, rfl⟩
    obtain ⟨mh, hmh⟩ : ∃ m : Nat → Int, m = fun j => upMax ((zs.map qh).take j) := ⟨_, rfl⟩
    have HMR : Hid (∀ j, (0 ≤ ml j ∧ ml j ≤ 9) ∧ (0 ≤ mh j ∧ mh j ≤ 9)) := hide (fun j => by
      rw [hml, hmh]
      refine ⟨up_range upMin_ok (fun x hx => ?_), up_range upMax_ok (fun x hx => ?_)⟩
      · obtain ⟨z, hz, rfl⟩ := List.mem_map.1 (List.mem_of_mem_take hx)
        exact (HQR.out z hz).1
      · obtain ⟨z, hz, rfl⟩ := List.mem_map.1 (List.mem_of_mem_take hx)
        exact (HQR.out z hz).2)
    have HML : Hid (∀ (j : Nat) (z : Int), zs[j]? = some z → ml (j + 1) = if j = 0 then ql z + 1 else if ql z + 1 < ml j then ql z + 1 else ml j) := hide (fun j z hz => by
      rw [hml]
      show upMin ((zs.map ql).take (j + 1)) = _
      rw [snoc_take hz, upMin_snoc]
      have hjl : j < zs.length := (List.getElem?_eq_some_iff.1 hz).1
      by_cases e : j = 0
      · rw [if_pos e, if_pos (by rw [e]; rfl)]
      · rw [if_neg e, if_neg (by intro h; exact (List.take_eq_nil_iff.1 h).elim (fun h => e h) (fun h => by rw [List.map_eq_nil_iff] at h; rw [h] at hjl; simp at hjl))])
    have HMH : Hid (∀ (j : Nat) (z : Int), zs[j]? = some z → mh (j + 1) = max (mh j) (qh z + 1)) := hide (fun j z hz => by
      rw [hmh]
      show upMax ((zs.map qh).take (j + 1)) = _
      rw [snoc_take hz, upMax_snoc _ _ (HQR.out z (mem_of_get hz)).2.1])
    have HM0 : Hid (ml 0 = 0 ∧ mh 0 = 0) := hide (by rw [hml, hmh]; exact ⟨rfl, rfl⟩)
    have HMN : Hid (ml n = vl ∧ mh n = vh) := hide (by
      rw [hml, hmh, HWL.out, HWH.out]
      dsimp only
      rw [List.take_of_length_le (by rw [List.length_map, ← hn]; exact Nat.le_refl _), List.take_of_length_le (by rw [List.length_map, ← hn]; exact Nat.le_refl _)]
      exact ⟨rfl, rfl⟩)
    clear ho2 hb2 hzs hn hql hqh hml hmh X0 X1 X2 X3 hc hf
    go_wp2_with fail
    go_loopw [13, 14, 15] (fun a b i wr => ∃ (j : Nat), j ≤ n ∧ i = .int .i64 j ∧ a = .int .i64 (ml j) ∧ b = .int .i64 (mh j) ∧ But bK w2 wr ∧ KnT (valL N L game) N L bK wr) (fun _ _ i _ => n - (intOf i).toNat)
    case atStart => exact ⟨0, Nat.zero_le _, rfl, by rw [HM0.out.1], by rw [HM0.out.2], But.refl _ _, HT2.out⟩
    case round =>
      obtain ⟨j, hj, rfl, rfl, rfl, hBr, hTr⟩ := hrel
      obtain ⟨⟨a0, a9⟩, ⟨c0, c9⟩⟩ := HMR.out j
      have HBR := hide hBr
      have HTR := hide hTr
      by_cases hlt : j < n
      · obtain ⟨b, off, z, rfl, cz, hz⟩ := (hBr.ints HI2.out HFAR.out).one (k := j) (by rw [← HN.out]; exact hlt)
        have hzm := mem_of_get hz.out
        have hmem : z ∈ pts N L R B game pl := by rw [← HZS.out]; exact hzm
        obtain ⟨z0, z1, z2, z3⟩ := pts_mem hmem
        obtain ⟨⟨x0, x8⟩, ⟨y0, y8⟩⟩ := HQR.out z hzm
        have hnl := HML.out j z hz.out
        have hnh := HMH.out j z hz.out
        obtain ⟨x, hx⟩ : ∃ x, x = ql z := ⟨_, rfl⟩
        obtain ⟨y, hy⟩ : ∃ y, y = qh z := ⟨_, rfl⟩
        obtain ⟨m, hm⟩ : ∃ m, m = ml j := ⟨_, rfl⟩
        obtain ⟨g, hg⟩ : ∃ m, m = mh j := ⟨_, rfl⟩
        rw [← hx] at x0 x8 hnl
        rw [← hy] at y0 y8 hnh
        rw [← hm] at a0 a9 hnl ⊢
        rw [← hg] at c0 c9 hnh ⊢
        have HNL := hide hnl
        have HNH := hide hnh
        obtain ⟨_, _, _, _, r0, r1, b0, b1⟩ := okF_nums HOT.out.1
        obtain ⟨r, hr⟩ : ∃ r, r = mvR R pl z := ⟨_, rfl⟩
        obtain ⟨bb, hbb⟩ : ∃ bb, bb = mvB B pl z := ⟨_, rfl⟩
        have HMV : Hid (∀ V : World, Calls Try.prog 55 #[.agg #[.int .i64 N, .int .i64 L, .int .i64 R, .int .i64 B], .int .i64 pl, .int .i64 z] V (RetB (.agg #[.int .i64 N, .int .i64 L, .int .i64 r, .int .i64 bb]) V)) := hide (fun V => by rw [hr, hbb]; exact specMove_any N L R B pl z r0 r1 b0 b1 z0 (by omega) V)
        have HWI : Hid (∀ V : World, KnT (valL N L game) N L bK V → Calls Try.prog 67 #[.agg #[.int .i64 N, .int .i64 L, .int .i64 r, .int .i64 bb], .int .i64 game, .int .i64 (1 - pl), .slice (some ⟨bK, 0, none⟩) M M] V (RetK bK (KnT (valL N L game) N L bK) (.tuple #[.int .i64 x, .int .i64 y]) V)) := hide (fun V hk => by rw [hr, hbb, hx, hy, HQL.out, HQH.out]; exact HD.out z V hmem hk)
        obtain ⟨X0, X1, X2, X3⟩ := hX2.out
        have nX : W.heap.size ≠ bK := by omega
        have q0 : ∀ p : PB bK (KnT (valL N L game) N L bK) wr, p.to.cell? ⟨W.heap.size, 0, none⟩ = some (.int .i64 N) := fun p => p.cell (hBr.cell X0 nX) nX
        have q1 : ∀ p : PB bK (KnT (valL N L game) N L bK) wr, p.to.cell? ⟨W.heap.size, 1, none⟩ = some (.int .i64 L) := fun p => p.cell (hBr.cell X1 nX) nX
        have q2 : ∀ p : PB bK (KnT (valL N L game) N L bK) wr, p.to.cell? ⟨W.heap.size, 2, none⟩ = some (.int .i64 R) := fun p => p.cell (hBr.cell X2 nX) nX
        have q3 : ∀ p : PB bK (KnT (valL N L game) N L bK) wr, p.to.cell? ⟨W.heap.size, 3, none⟩ = some (.int .i64 B) := fun p => p.cell (hBr.cell X3 nX) nX
        have cz' : ∀ p : PB bK (KnT (valL N L game) N L bK) wr, p.to.cell? ⟨b, off + j, none⟩ = some (.int .i64 z) := fun p => p.cell cz (HFAR.out b off rfl)
        have hj0 : (0 : Int) ≤ (j : Int) := by omega
        have hjn : (j : Int) < (n : Int) := by omega
        clear hBr hTr hmem hx hy hm hg hr hbb X0 X1 X2 X3 cz r0 r1 b0 b1 hzm hnl hnh
        go_wp2_with fail
        refine wp_region_pb (bK) (KnT (valL N L game) N L bK) (fun _ _ h k => KnT.keep h k) (by kernel_rfl) (by kernel_rfl) ?_
        repeat (first | fail | go_big_quiet_step ((first | (go_at_call 55; with_reducible exact retB_pb (fun _ _ h k => KnT.keep h k) (HMV.out _)) | (go_at_call 67; with_reducible exact retK_pb (HWI.out _ (PB.inv _ HTR.out))))) | quiet_step ((first | (go_at_call 55; with_reducible exact retB_pb (fun _ _ h k => KnT.keep h k) (HMV.out _)) | (go_at_call 67; with_reducible exact retK_pb (HWI.out _ (PB.inv _ HTR.out))))))
        refine wpQuiet_nil ?_
        rintro _ ⟨pq, rfl⟩
        have HB3 := hide (HBR.out.trans pq.old)
        have HT3 := hide (pq.inv HTR.out)
        clear q0 q1 q2 q3 cz'
        by_cases hjz : j = 0
        · have hnl := HNL.out
          rw [if_pos hjz] at hnl
          have HL := hide hnl
          have hjd : ((j : Int) == 0) = true := by simp [hjz]
          clear hnl hjz
          go_wp2_with fail
          go_roundw
          case rel => exact ⟨j + 1, by omega, by go_num, by rw [HL.out], by rw [HNH.out], HB3.out, HT3.out⟩
          case measure => simp [intOf]; omega
        · have hjd : ((j : Int) == 0) = false := by simp [hjz]
          by_cases hxm : x + 1 < m
          all_goals
            have hnl := HNL.out
            rw [if_neg hjz] at hnl
            (first | rw [if_pos hxm] at hnl | rw [if_neg hxm] at hnl)
            have HL := hide hnl
            clear hnl hjz
            go_wp2_with fail
            go_roundw
            case rel => exact ⟨j + 1, by omega, by go_num, by rw [HL.out], by rw [HNH.out], HB3.out, HT3.out⟩
            case measure => simp [intOf]; omega
      · obtain rfl : j = n := by omega
        obtain ⟨e1, e2⟩ := HMN.out
        rw [e1, e2]
        obtain ⟨p', t', hp', hpM2, hc', hfz, _⟩ := hTr.cell HOT.out
        obtain rfl : p' = p := by have h1 := HP.out; rw [hp'] at h1; omega
        have HS1 := hTr.set HOT.out hp'
        rw [HVV.out] at HS1
        have hi8 := i8_small (x := vh * 9 + vl + 1) (by omega) (by omega)
        have HFIN : Hid (RetK bK (KnT (valL N L game) N L bK) (.tuple #[.int .i64 vl, .int .i64 vh]) W (.returned (.tuple #[.int .i64 vl, .int .i64 vh])) (wr.setCell ⟨bK, p', none⟩ (.int .i8 (vh * 9 + vl + 1)))) := hide ⟨rfl, ((But.of_below (n := bK) hB2.out).trans hBr).set p' _, HS1⟩
        clear e1 e2 hp' hpM2 hBr hTr HS1 a0 a9 c0 c9
        go_wp2_with fail
        go_ret2
        exact HFIN.out

/-- The numbers of moves, from any turn on. -/
theorem specLeft_any (N L game : Int) (bK M : Nat) (hM : (M : Int) = 2 * pow3 N.toNat) : ∀ (k : Nat) (R B pl : Int) (W : World), okT N L R B pl → freeN N R B = k → KnT (valL N L game) N L bK W → Calls Try.prog 67 #[.agg #[.int .i64 N, .int .i64 L, .int .i64 R, .int .i64 B], .int .i64 game, .int .i64 pl, .slice (some ⟨bK, 0, none⟩) M M] W (RetK bK (KnT (valL N L game) N L bK) (two (lo N L game R B pl) (hi N L game R B pl)) W) := by
  intro k
  induction k with
  | zero =>
    intro R B pl W hok hk hT
    refine specLeft_walk N L game bK M hM R B pl hok W hT (fun i V hi _ => ?_)
    rw [pts_zero hk] at hi
    cases hi
  | succ k ih =>
    intro R B pl W hok hk hT
    refine specLeft_walk N L game bK M hM R B pl hok W hT (fun i V hi hv => ?_)
    obtain ⟨h1, _, h3⟩ := move_of_pts hok.1 hi
    have h2 := hok.2
    exact ih _ _ _ V ⟨h1, by omega, by omega⟩ (by omega) hv
end Go.Proofs.Ytdimmlpnfghndaa
