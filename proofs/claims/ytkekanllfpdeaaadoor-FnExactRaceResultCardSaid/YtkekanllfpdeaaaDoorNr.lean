/-
  The race: plain; l07Race, l07Behind: the model's text, beside its table.
-/
import Derived.Test.YtkekanllfpdeaaaDoorNu
namespace Go.Proofs.YtkekanllfpdeaaaDoor
open Go.RowKit
set_option linter.unusedVariables false

/-! ### plain -/
def gR (n : Int) (cs : List Int) (F S p : Int) : Int := sgn F S (lvR n cs (mF F S p) (mS F S p))
/-- The greatest of the first j. -/
def BJ (n : Int) (cs : List Int) (F S : Int) : Nat → Int
  | 0 => -1
  | j + 1 => if isFree F S j = true then (if BJ n cs F S j < gR n cs F S j then gR n cs F S j else BJ n cs F S j) else BJ n cs F S j
theorem sgn_range {F S x : Int} (h : -1 ≤ x ∧ x ≤ 1) : -1 ≤ sgn F S x ∧ sgn F S x ≤ 1 := by
  unfold sgn
  split <;> omega
theorem gR_range (n : Int) (cs : List Int) (F S p : Int) : -1 ≤ gR n cs F S p ∧ gR n cs F S p ≤ 1 := sgn_range (lvR_range n cs _ _)
theorem BJ_range (n : Int) (cs : List Int) (F S : Int) : ∀ j, -1 ≤ BJ n cs F S j ∧ BJ n cs F S j ≤ 1
  | 0 => by simp [BJ]
  | j + 1 => by
    have := BJ_range n cs F S j
    have := gR_range n cs F S j
    simp only [BJ]
    split
    · split <;> omega
    · omega
theorem BJ_spec (n : Int) (cs : List Int) (F S : Int) : ∀ j, (∀ p ∈ pre (isFree F S) j, gR n cs F S p ≤ BJ n cs F S j) ∧ (BJ n cs F S j = -1 ∨ ∃ p ∈ pre (isFree F S) j, gR n cs F S p = BJ n cs F S j)
  | 0 => ⟨fun p hp => (by rw [pre_zero] at hp; cases hp), Or.inl rfl⟩
  | j + 1 => by
    obtain ⟨h1, h2⟩ := BJ_spec n cs F S j
    simp only [BJ]
    cases hfr : isFree F S j
    · rw [pre_no hfr, if_neg (by simp)]
      exact ⟨h1, h2⟩
    · rw [pre_yes hfr, if_pos rfl]
      by_cases e : BJ n cs F S j < gR n cs F S j
      · rw [if_pos e]
        refine ⟨fun p hp => ?_, Or.inr ⟨j, by simp, rfl⟩⟩
        rcases List.mem_append.1 hp with hp | hp
        · have := h1 p hp; omega
        · rw [List.mem_singleton.1 hp]; exact Int.le_refl _
      · rw [if_neg e]
        refine ⟨fun p hp => ?_, ?_⟩
        · rcases List.mem_append.1 hp with hp | hp
          · exact h1 p hp
          · rw [List.mem_singleton.1 hp]; omega
        · rcases h2 with h2 | ⟨p, hp, he⟩
          · exact Or.inl h2
          · exact Or.inr ⟨p, List.mem_append.2 (Or.inl hp), he⟩
theorem race_step {n : Int} {cs : List Int} {F S : Int} (hst : St n F S) (hf : fil cs F = false) (hg : fil cs S = false) : sgn F S (lvR n cs F S) = if FrJ F S n.toNat = true then BJ n cs F S n.toNat else 0 := by
  by_cases hz : freeN n F S = 0
  · have he : endR n cs F S = some 0 := by
      unfold endR
      rw [hf, hg, if_neg (by simp), if_neg (by simp), if_pos ((free_of_zero hst).1 hz)]
    have hv : lvR n cs F S = 0 := val_end he
    have hfr : FrJ F S n.toNat = false := by
      unfold FrJ
      have : (pre (isFree F S) n.toNat).length = 0 := hz
      rw [this]; rfl
    rw [hv, hfr, if_neg (by simp)]
    unfold sgn
    split <;> rfl
  · have he : endR n cs F S = none := by
      unfold endR
      rw [hf, hg, if_neg (by simp), if_neg (by simp), if_neg (fun e => hz ((free_of_zero hst).2 e))]
    have hv : lvR n cs F S = pick (t1 F S) (kids (endR n cs) n F S) := val_step hst he
    have hfr : FrJ F S n.toNat = true := by
      unfold FrJ
      have : 0 < (pre (isFree F S) n.toNat).length := Nat.pos_of_ne_zero hz
      simpa using this
    have hne := kids_ne (E := endR n cs) hz
    rw [hfr, if_pos rfl]
    obtain ⟨b1, b2⟩ := BJ_spec n cs F S n.toNat
    have b3 := BJ_range n cs F S n.toNat
    have hm := pick_mem (b := t1 F S) hne
    rw [← hv] at hm
    obtain ⟨p, hp, hpe⟩ := List.mem_map.1 hm
    have hX : gR n cs F S p = sgn F S (lvR n cs F S) := by unfold gR; rw [← hpe]; rfl
    have hup : ∀ q ∈ frees n F S, gR n cs F S q ≤ sgn F S (lvR n cs F S) := fun q hq => by
      have hy : lvR n cs (mF F S q) (mS F S q) ∈ kids (endR n cs) n F S := List.mem_map.2 ⟨q, hq, rfl⟩
      unfold gR sgn
      rw [hv]
      unfold pick
      cases t1 F S
      · simp only [Bool.false_eq_true, if_false]
        have := mnL_le hy
        omega
      · simp only [if_true]
        exact mxL_ge hy
    have h1 := b1 p hp
    have h3 := gR_range n cs F S p
    rcases b2 with b2 | ⟨q, hq, hqe⟩
    · omega
    · have := hup q hq
      omega
theorem gR_filF {n : Int} {cs : List Int} {F S p : Int} (ht : t1 F S = true) (h : fil cs (mF F S p) = true) : gR n cs F S p = 1 := by
  have he : endR n cs (mF F S p) (mS F S p) = some 1 := by unfold endR; rw [if_pos h]
  have hv : lvR n cs (mF F S p) (mS F S p) = 1 := val_end he
  unfold gR sgn
  rw [hv, if_pos ht]
theorem gR_filS {n : Int} {cs : List Int} {F S p : Int} (ht : t1 F S = false) (hf : fil cs (mF F S p) = false) (h : fil cs (mS F S p) = true) : gR n cs F S p = 1 := by
  have he : endR n cs (mF F S p) (mS F S p) = some (-1) := by unfold endR; rw [hf, if_neg (by simp), if_pos h]
  have hv : lvR n cs (mF F S p) (mS F S p) = -1 := val_end he
  unfold gR sgn
  rw [hv, ht, if_neg (by simp)]
  rfl
/-- The result behind, turned. -/
theorem gR_neg {n : Int} {cs : List Int} {F S p : Int} (hst : St n F S) (hp : p ∈ frees n F S) : gR n cs F S p = -(sgn (mF F S p) (mS F S p) (lvR n cs (mF F S p) (mS F S p))) := by
  have h := (hst.move hp).2.2
  unfold gR sgn
  rw [h]
  cases t1 F S <;> simp

/-! ### the walks -/
def valRc (n : Int) (cs : List Int) (F S : Int) : Int := sgn F S (lvR n cs F S) + 2
def DeepU (n : Int) (a : Option Addr) (c : Nat) (cs : List Int) (bK M : Nat) (F S : Int) : Prop :=
  ∀ (p : Int) (V : World), p ∈ frees n F S → fil cs (mF F S p) = false → fil cs (mS F S p) = false → KnT (valRc n cs) n a cs bK V → Calls Tryd.prog 70 #[.agg #[.int .i64 n, .slice a cs.length c], .int .i64 (mF F S p), .int .i64 (mS F S p), .slice (some ⟨bK, 0, none⟩) M M] V (RetK bK (KnT (valRc n cs) n a cs bK) (.int .i64 (sgn (mF F S p) (mS F S p) (lvR n cs (mF F S p) (mS F S p)))) V)

set_option maxRecDepth 100000 in
set_option maxHeartbeats 4000000 in
theorem behind_any (n : Int) (a : Option Addr) (c : Nat) (cs : List Int) (hok : okB n cs = true) (bK M : Nat) (F S : Int) (hst : St n F S) (hf : fil cs F = false) (hg : fil cs S = false) (p : Int) (hp : p ∈ frees n F S) (W : World) (hT : KnT (valRc n cs) n a cs bK W) (hD : DeepU n a c cs bK M F S) :
    Calls Tryd.prog 125 #[.agg #[.int .i64 n, .slice a cs.length c], .int .i64 F, .int .i64 S, .int .i64 p, .slice (some ⟨bK, 0, none⟩) M M] W (RetK bK (KnT (valRc n cs) n a cs bK) (.int .i64 (gR n cs F S p)) W) := by
  have hn := hst.nn
  obtain ⟨f0, f1, s0, s1⟩ := hst.lt
  have hl : cs.length ≤ 1048576 := by have := (okB_parts hok).2.1; omega
  obtain ⟨p0, p1, _⟩ := frees_mem hp
  obtain ⟨j, hj⟩ : ∃ j : Nat, p = j := ⟨p.toNat, by omega⟩
  subst hj
  obtain ⟨W0, hW0⟩ : ∃ W0, W0 = W.alloc (.cells #[.int .i64 n, .slice a cs.length c] 28) := ⟨_, rfl⟩
  have hB0 : Hid (Below W.heap.size W W0) := by rw [hW0]; exact hide (below_alloc _ _)
  have hX0 : Hid (HexIn W0 W.heap.size n a cs.length c) := by rw [hW0]; exact hide (hexIn_new _ _ _ _ _ _)
  have HT0 := hide (hT.keep hB0.out)
  have hST2 := (hst.move hp).1.lt
  have hgr := gR_range n cs F S j
  obtain ⟨x, hx⟩ : ∃ x, x = gR n cs F S j := ⟨_, rfl⟩
  rw [← hx] at hgr ⊢
  have hneg : x = -(sgn (mF F S j) (mS F S j) (lvR n cs (mF F S j) (mS F S j))) := by rw [hx]; exact gR_neg hst hp
  obtain ⟨y, hy⟩ : ∃ y, y = sgn (mF F S j) (mS F S j) (lvR n cs (mF F S j) (mS F S j)) := ⟨_, rfl⟩
  rw [← hy] at hneg
  have HXY := hide hneg
  have hyr : -1 ≤ y ∧ y ≤ 1 := by omega
  obtain ⟨yr0, yr1⟩ := hyr
  obtain ⟨yF, hyF⟩ : ∃ y, y = ones F := ⟨_, rfl⟩
  obtain ⟨yS, hyS⟩ : ∃ y, y = ones S := ⟨_, rfl⟩
  have hT1 : t1 F S = (yF == yS) := by unfold t1; rw [← hyF, ← hyS]; by_cases e : yF = yS <;> simp [e]
  have HCF : Hid (∀ V : World, Calls Tryd.prog 120 #[.int .i64 F] V (RetB (.int .i64 yF) V)) := hide (fun V => by rw [hyF]; exact l07Ones_any F f0 (by omega) V)
  have HCS : Hid (∀ V : World, Calls Tryd.prog 120 #[.int .i64 S] V (RetB (.int .i64 yS) V)) := hide (fun V => by rw [hyS]; exact l07Ones_any S s0 (by omega) V)
  have pw2 := (pow_nat_small (j := j) (by omega)).2.2
  have hku := u64_small (show (0 : Int) ≤ (j : Int) by omega) (by omega)
  obtain ⟨X0, X1⟩ := hX0.out
  have HD := hide hD
  cases htt : (yF == yS)
  · have ht1 : t1 F S = false := by rw [hT1, htt]
    have hmm : mF F S j = F ∧ mS F S j = withE S j := by simp [mF, mS, ht1]
    have hos := or_own (F := S) (j := j) s0 (by omega) (by omega)
    obtain ⟨bb, hbb⟩ : ∃ bb, bb = withE S j := ⟨_, rfl⟩
    rw [← hbb] at hos
    rw [hmm.2, ← hbb] at hST2
    have HFI : Hid (∀ V : World, KnT (valRc n cs) n a cs bK V → Calls Tryd.prog 75 #[.agg #[.int .i64 n, .slice a cs.length c], .int .i64 bb] V (RetB (.bool (fil cs bb)) V)) := hide (fun V hk => fills_any n a c cs bb (sets_of hok) hST2.2.2.1 (by omega) V hk.ints hl)
    cases hfl : fil cs bb
    · rw [hfl] at HFI
      have HRA : Hid (∀ V : World, KnT (valRc n cs) n a cs bK V → Calls Tryd.prog 70 #[.agg #[.int .i64 n, .slice a cs.length c], .int .i64 F, .int .i64 bb, .slice (some ⟨bK, 0, none⟩) M M] V (RetK bK (KnT (valRc n cs) n a cs bK) (.int .i64 y) V)) := hide (fun V hk => by
        have h := HD.out j V hp (by rw [hmm.1]; exact hf) (by rw [hmm.2, ← hbb]; exact hfl) hk
        rw [← hy, hmm.1, hmm.2, ← hbb] at h
        exact h)
      clear hT hD hmm hbb hfl hx hy hneg hyF hyS hT1 ht1 hST2 hgr
      go_enter Tryd.func125, Tryd.ntmps125
      go_wp2_with fail
      rw [← hW0]
      clear hW0
      (try go_wp2_with fail)
      refine (HCF.out _).mono ?_
      rintro e w1 ⟨rfl, hb1⟩
      have HT1 := hide (HT0.out.keep hb1)
      have hX1 := hide (hX0.out.keep hb1)
      have hB1 := hide (Below.trans' hB0.out hb1)
      clear hb1 X0 X1
      obtain ⟨X0, X1⟩ := hX1.out
      go_wp2_with fail
      refine (HCS.out _).mono ?_
      rintro e w2 ⟨rfl, hb2⟩
      have HT2 := hide (HT1.out.keep hb2)
      have hX2 := hide (hX1.out.keep hb2)
      have hB2 := hide (Below.trans' hB1.out hb2)
      clear hb2 X0 X1
      obtain ⟨X0, X1⟩ := hX2.out
      go_wp2_with fail
      refine (HFI.out _ HT2.out).mono ?_
      rintro e w3 ⟨rfl, hb3⟩
      have HT3 := hide (HT2.out.keep hb3)
      have hX3 := hide (hX2.out.keep hb3)
      have hB3 := hide (Below.trans' hB2.out hb3)
      clear hb3 X0 X1
      obtain ⟨X0, X1⟩ := hX3.out
      go_wp2_with fail
      refine (HRA.out _ HT3.out).mono ?_
      rintro e w4 ⟨rfl, hb4, hk4⟩
      have HFIN : Hid (RetK bK (KnT (valRc n cs) n a cs bK) (.int .i64 x) W (.returned (.int .i64 (-y))) w4) := hide ⟨by rw [HXY.out], (But.of_below (n := bK) hB3.out).trans hb4, hk4⟩
      clear hb4 hk4 X0 X1
      go_wp2_with fail
      go_ret
      exact HFIN.out
    · rw [hfl] at HFI
      have HX1 : Hid (x = 1) := hide (by rw [hx]; exact gR_filS ht1 (by rw [hmm.1]; exact hf) (by rw [hmm.2, ← hbb]; exact hfl))
      clear hT hD hmm hbb hfl hx hy hneg hyF hyS hT1 ht1 hST2 hgr
      go_enter Tryd.func125, Tryd.ntmps125
      go_wp2_with fail
      rw [← hW0]
      clear hW0
      (try go_wp2_with fail)
      refine (HCF.out _).mono ?_
      rintro e w1 ⟨rfl, hb1⟩
      have HT1 := hide (HT0.out.keep hb1)
      have hX1 := hide (hX0.out.keep hb1)
      have hB1 := hide (Below.trans' hB0.out hb1)
      clear hb1 X0 X1
      obtain ⟨X0, X1⟩ := hX1.out
      go_wp2_with fail
      refine (HCS.out _).mono ?_
      rintro e w2 ⟨rfl, hb2⟩
      have HT2 := hide (HT1.out.keep hb2)
      have hX2 := hide (hX1.out.keep hb2)
      have hB2 := hide (Below.trans' hB1.out hb2)
      clear hb2 X0 X1
      obtain ⟨X0, X1⟩ := hX2.out
      go_wp2_with fail
      refine (HFI.out _ HT2.out).mono ?_
      rintro e w3 ⟨rfl, hb3⟩
      have HT3 := hide (HT2.out.keep hb3)
      have hB3 := hide (Below.trans' hB2.out hb3)
      clear hb3 X0 X1
      go_wp2_with fail
      go_ret
      exact ⟨by rw [HX1.out]; rfl, But.of_below hB3.out, HT3.out⟩
  · have ht1 : t1 F S = true := by rw [hT1, htt]
    have hmm : mF F S j = withE F j ∧ mS F S j = S := by simp [mF, mS, ht1]
    have hos := or_own (F := F) (j := j) f0 (by omega) (by omega)
    obtain ⟨bb, hbb⟩ : ∃ bb, bb = withE F j := ⟨_, rfl⟩
    rw [← hbb] at hos
    rw [hmm.1, ← hbb] at hST2
    have HFI : Hid (∀ V : World, KnT (valRc n cs) n a cs bK V → Calls Tryd.prog 75 #[.agg #[.int .i64 n, .slice a cs.length c], .int .i64 bb] V (RetB (.bool (fil cs bb)) V)) := hide (fun V hk => fills_any n a c cs bb (sets_of hok) hST2.1 (by omega) V hk.ints hl)
    cases hfl : fil cs bb
    · rw [hfl] at HFI
      have HRA : Hid (∀ V : World, KnT (valRc n cs) n a cs bK V → Calls Tryd.prog 70 #[.agg #[.int .i64 n, .slice a cs.length c], .int .i64 bb, .int .i64 S, .slice (some ⟨bK, 0, none⟩) M M] V (RetK bK (KnT (valRc n cs) n a cs bK) (.int .i64 y) V)) := hide (fun V hk => by
        have h := HD.out j V hp (by rw [hmm.1, ← hbb]; exact hfl) (by rw [hmm.2]; exact hg) hk
        rw [← hy, hmm.1, hmm.2, ← hbb] at h
        exact h)
      clear hT hD hmm hbb hfl hx hy hneg hyF hyS hT1 ht1 hST2 hgr
      go_enter Tryd.func125, Tryd.ntmps125
      go_wp2_with fail
      rw [← hW0]
      clear hW0
      (try go_wp2_with fail)
      refine (HCF.out _).mono ?_
      rintro e w1 ⟨rfl, hb1⟩
      have HT1 := hide (HT0.out.keep hb1)
      have hX1 := hide (hX0.out.keep hb1)
      have hB1 := hide (Below.trans' hB0.out hb1)
      clear hb1 X0 X1
      obtain ⟨X0, X1⟩ := hX1.out
      go_wp2_with fail
      refine (HCS.out _).mono ?_
      rintro e w2 ⟨rfl, hb2⟩
      have HT2 := hide (HT1.out.keep hb2)
      have hX2 := hide (hX1.out.keep hb2)
      have hB2 := hide (Below.trans' hB1.out hb2)
      clear hb2 X0 X1
      obtain ⟨X0, X1⟩ := hX2.out
      go_wp2_with fail
      refine (HFI.out _ HT2.out).mono ?_
      rintro e w3 ⟨rfl, hb3⟩
      have HT3 := hide (HT2.out.keep hb3)
      have hX3 := hide (hX2.out.keep hb3)
      have hB3 := hide (Below.trans' hB2.out hb3)
      clear hb3 X0 X1
      obtain ⟨X0, X1⟩ := hX3.out
      go_wp2_with fail
      refine (HRA.out _ HT3.out).mono ?_
      rintro e w4 ⟨rfl, hb4, hk4⟩
      have HFIN : Hid (RetK bK (KnT (valRc n cs) n a cs bK) (.int .i64 x) W (.returned (.int .i64 (-y))) w4) := hide ⟨by rw [HXY.out], (But.of_below (n := bK) hB3.out).trans hb4, hk4⟩
      clear hb4 hk4 X0 X1
      go_wp2_with fail
      go_ret
      exact HFIN.out
    · rw [hfl] at HFI
      have HX1 : Hid (x = 1) := hide (by rw [hx]; exact gR_filF ht1 (by rw [hmm.1, ← hbb]; exact hfl))
      clear hT hD hmm hbb hfl hx hy hneg hyF hyS hT1 ht1 hST2 hgr
      go_enter Tryd.func125, Tryd.ntmps125
      go_wp2_with fail
      rw [← hW0]
      clear hW0
      (try go_wp2_with fail)
      refine (HCF.out _).mono ?_
      rintro e w1 ⟨rfl, hb1⟩
      have HT1 := hide (HT0.out.keep hb1)
      have hX1 := hide (hX0.out.keep hb1)
      have hB1 := hide (Below.trans' hB0.out hb1)
      clear hb1 X0 X1
      obtain ⟨X0, X1⟩ := hX1.out
      go_wp2_with fail
      refine (HCS.out _).mono ?_
      rintro e w2 ⟨rfl, hb2⟩
      have HT2 := hide (HT1.out.keep hb2)
      have hX2 := hide (hX1.out.keep hb2)
      have hB2 := hide (Below.trans' hB1.out hb2)
      clear hb2 X0 X1
      obtain ⟨X0, X1⟩ := hX2.out
      go_wp2_with fail
      refine (HFI.out _ HT2.out).mono ?_
      rintro e w3 ⟨rfl, hb3⟩
      have HT3 := hide (HT2.out.keep hb3)
      have hB3 := hide (Below.trans' hB2.out hb3)
      clear hb3 X0 X1
      go_wp2_with fail
      go_ret
      exact ⟨by rw [HX1.out]; rfl, But.of_below hB3.out, HT3.out⟩
end Go.Proofs.YtkekanllfpdeaaaDoor
