/-
  Ends of dots and boxes: the row of chains and loops.
-/
import Derived.Test.YtbfpbkbhikogiabEnC
import Derived.Deep.AppendLies
namespace Go.Proofs.Ytbfpbkbhikogiab
open Go.RowKit
set_option linter.unusedVariables false

theorem infoStrand : (Try.prog.info? 55).map (fun i => (i.zero, i.size, i.bytes)) = some (some (.agg #[.int .i64 0, .int .i64 0]), 2, 16) := by kernel_rfl
/-- The cells of a row of strands. -/
def flatS (ss : List (Int × Int)) : List Value := ss.flatMap fun s => [.int .i64 s.1, .int .i64 s.2]
theorem flatS_snoc (ss : List (Int × Int)) (x y : Int) : flatS (ss ++ [(x, y)]) = flatS ss ++ [.int .i64 x, .int .i64 y] := by simp [flatS]
theorem flatS_len : ∀ ss : List (Int × Int), (flatS ss).length = ss.length * 2
  | [] => rfl
  | e :: ss => by
    have := flatS_len ss
    show ([_, _] ++ flatS ss).length = _
    simp
    omega
theorem flatS_get : ∀ (ss : List (Int × Int)) (k : Nat) (s : Int × Int), ss[k]? = some s → (flatS ss)[k * 2]? = some (.int .i64 s.1) ∧ (flatS ss)[k * 2 + 1]? = some (.int .i64 s.2)
  | [], k, s, h => by simp at h
  | a :: ss, 0, s, h => by
    simp at h
    subst h
    exact ⟨rfl, rfl⟩
  | a :: ss, k + 1, s, h => by
    have ih := flatS_get ss k s (by simpa using h)
    have h0 : (k + 1) * 2 = k * 2 + 1 + 1 := by omega
    have h1 : (k + 1) * 2 + 1 = (k * 2 + 1) + 1 + 1 := by omega
    refine ⟨?_, ?_⟩
    · show ((Value.int .i64 a.1) :: (Value.int .i64 a.2) :: flatS ss)[(k + 1) * 2]? = _
      rw [h0]
      simpa using ih.1
    · show ((Value.int .i64 a.1) :: (Value.int .i64 a.2) :: flatS ss)[(k + 1) * 2 + 1]? = _
      rw [h1]
      simpa using ih.2

/-- The row of strands in block g. -/
def StrsAt (W : World) (g : Nat) (ss : List (Int × Int)) : Prop :=
  ∀ (k : Nat) (s : Int × Int), ss[k]? = some s → W.cell? ⟨g, k * 2, none⟩ = some (.int .i64 s.1) ∧ W.cell? ⟨g, k * 2 + 1, none⟩ = some (.int .i64 s.2)
theorem StrsAt.keep {W W' : World} {g : Nat} {ss : List (Int × Int)} (hx : StrsAt W g ss) (hb : Below W.heap.size W W') : StrsAt W' g ss :=
  fun k s hk => ⟨cell_keep hb (hx k s hk).1, cell_keep hb (hx k s hk).2⟩

/-- A row of strands of the call's own, from block B on. -/
structure OwnsS (B : Nat) (W0 w : World) (v : Value) (ss : List (Int × Int)) : Prop where
  own : w.ownsRow B 55 2 v ss.length (flatS ss)
  old : Below B W0 w
  size : B ≤ w.heap.size
theorem OwnsS.keep {B : Nat} {W0 w w' : World} {v : Value} {ss : List (Int × Int)} (h : OwnsS B W0 w v ss) (hb : Below w.heap.size w w') : OwnsS B W0 w' v ss :=
  ⟨ownsRow_keep h.own hb, h.old.trans (hb.mono h.size), Nat.le_trans h.size hb.size⟩
theorem OwnsS.snoc {B : Nat} {W0 w2 w3 : World} {x y : Int} {v v' : Value} {ss : List (Int × Int)} (h : OwnsS B W0 w2 v ss) (hown : w3.ownsRow B 55 2 v' (ss.length + 1) (flatS ss ++ [.int .i64 x, .int .i64 y]))
    (hg : (w2.alloc (.cells #[.int .i64 x, .int .i64 y] 55)).grownBy w3 v.ownBlock) : OwnsS B W0 w3 v' (ss ++ [(x, y)]) := by
  refine ⟨by rw [flatS_snoc]; simpa using hown, (h.old.alloc h.size _).grown hg (by have := h.size; simp; omega) (fun j hj => by have := (h.own.alloc (.cells #[.int .i64 x, .int .i64 y] 55)).lt j hj; omega), ?_⟩
  have := hg.size
  have := h.size
  simp at *
  omega
theorem OwnsS.form {B : Nat} {W0 w : World} {v : Value} {ss : List (Int × Int)} (h : OwnsS B W0 w v ss) : ∃ a c, v = .slice a ss.length c := by
  rcases h.own.2 with ⟨rfl, h0⟩ | ⟨g, cap, cur, hv, _⟩
  · exact ⟨none, 0, by rw [h0]⟩
  · exact ⟨_, _, hv⟩
/-- What a slice of strands reads as. -/
def SliceS (W : World) (a : Option Addr) (ss : List (Int × Int)) : Prop := ss ≠ [] → ∃ g, a = some ⟨g, 0, none⟩ ∧ StrsAt W g ss
theorem SliceS.keep {W W' : World} {a : Option Addr} {ss : List (Int × Int)} (h : SliceS W a ss) (hb : Below W.heap.size W W') : SliceS W' a ss := fun hne => by
  obtain ⟨g, ha, hs⟩ := h hne
  exact ⟨g, ha, hs.keep hb⟩
theorem sliceS_of_own {w : World} {B : Nat} {a : Option Addr} {c : Nat} {ss : List (Int × Int)} (h : w.ownsRow B 55 2 (.slice a ss.length c) ss.length (flatS ss)) : SliceS w a ss := by
  intro hne
  rcases h.2 with ⟨_, hn⟩ | ⟨g, cap, cur, hv, _, hr, _, _, _, ht⟩
  · exact absurd (List.eq_nil_of_length_eq_zero hn) hne
  · simp only [Value.slice.injEq, true_and] at hv
    refine ⟨g, hv.1, fun k s hk => ?_⟩
    obtain ⟨a0, a1⟩ := flatS_get ss k s hk
    have hkl := (List.getElem?_eq_some_iff.1 hk).1
    have hc : ∀ i u, i < ss.length * 2 → (flatS ss)[i]? = some u → w.cell? ⟨g, i, none⟩ = some u := fun i u hi hu => by
      rw [← ht, List.getElem?_take, if_pos hi] at hu
      rw [cell_of_row _ _ i _ _ (0, 0) hr]
      simpa using hu
    exact ⟨hc _ _ (by omega) a0, hc _ _ (by omega) a1⟩
/-- One strand, under names of its own. -/
theorem SliceS.one {W : World} {a : Option Addr} {ss : List (Int × Int)} (h : SliceS W a ss) {k : Nat} (hk : k < ss.length) :
    ∃ g x y, a = some ⟨g, 0, none⟩ ∧ W.cell? ⟨g, k * 2, none⟩ = some (.int .i64 x) ∧ W.cell? ⟨g, k * 2 + 1, none⟩ = some (.int .i64 y) ∧ Hid (ss[k]? = some (x, y)) := by
  obtain ⟨g, ha, hs⟩ := h (by intro e; subst e; simp at hk)
  obtain ⟨h1, h2⟩ := hs k ss[k] (List.getElem?_eq_getElem hk)
  exact ⟨g, _, _, ha, h1, h2, (List.getElem?_eq_getElem hk : ss[k]? = some ss[k])⟩

/-- What strandsOf hands back. -/
def NewStrs (ss : List (Int × Int)) (w : World) (e : Ending) (w' : World) : Prop :=
  ∃ a c, e = .returned (.slice a ss.length c) ∧ w'.ownsRow w.heap.size 55 2 (.slice a ss.length c) ss.length (flatS ss) ∧ Below w.heap.size w w'

theorem strs_take1 (cs ls : List Int) (k : Nat) (z : Int) (h : cs[k]? = some z) : (cs.take (k + 1)).map (fun b => ((0 : Int), b)) = (cs.take k).map (fun b => ((0 : Int), b)) ++ [(0, z)] := by
  rw [List.take_add_one, h]
  simp
theorem strs_take2 (cs ls : List Int) (k : Nat) (z : Int) (h : ls[k]? = some z) : strs cs (ls.take (k + 1)) = strs cs (ls.take k) ++ [(1, z)] := by
  unfold strs
  rw [List.take_add_one, h]
  simp

set_option maxRecDepth 100000 in
set_option maxHeartbeats 2000000 in
theorem strandsOf_any (a : Option Addr) (c : Nat) (cs : List Int) (a' : Option Addr) (c' : Nat) (ls : List Int) (W : World) (ha : IntsAt W a cs) (ha' : IntsAt W a' ls) (h8 : cs.length + ls.length ≤ 8) :
    Calls Try.prog 25 #[.agg #[.slice a cs.length c, .slice a' ls.length c']] W (NewStrs (strs cs ls) W) := by
  obtain ⟨i0, hi0, hz0, hz1, hz2⟩ := info_parts infoStrand
  obtain ⟨W0, hW0⟩ : ∃ W0, W0 = W.alloc (.cells #[.slice a cs.length c, .slice a' ls.length c'] 33) := ⟨_, rfl⟩
  have hB0 : Hid (Below W.heap.size W W0) := by rw [hW0]; exact hide (below_alloc _ _)
  have hX0 : Hid (EndIn W0 W.heap.size a cs.length c a' ls.length c') := by rw [hW0]; exact hide (endIn_new _ _ _ _ _ _ _ _)
  have hA0 := hide (ha.keep hB0.out)
  have hA0' := hide (ha'.keep hB0.out)
  obtain ⟨B, hBe⟩ : ∃ B, B = W0.heap.size := ⟨_, rfl⟩
  have HBE := hide hBe
  have hO0 : Hid (OwnsS B W0 W0 (.slice none 0 0) []) := hide ⟨World.ownsRow_nil _ _ _ _, Below.refl _ _, by omega⟩
  obtain ⟨c0, c1⟩ := hX0.out
  clear ha ha' hBe
  go_enter Try.func25, Try.ntmps25
  go_wp2_with fail
  rw [← hW0]
  clear hW0
  (try go_wp2_with fail)
  go_loopw [3, 11] (fun v i wr => ∃ (k : Nat) (ss : List (Int × Int)) (v0 : Value), v0 = v ∧ k ≤ cs.length ∧ i = .int .i64 k ∧ Hid (ss = (cs.take k).map (fun b => ((0 : Int), b))) ∧ OwnsS B W0 wr v ss) (fun _ i _ => cs.length - (intOf i).toNat)
  case atStart => exact ⟨0, [], _, rfl, Nat.zero_le _, rfl, rfl, hO0.out⟩
  case round =>
    obtain ⟨k, ss, v, rfl, hk, rfl, hss, hO⟩ := hrel
    have hbw := hO.old
    rw [HBE.out] at hbw
    have HO := hide hO
    by_cases hlt : k < cs.length
    · obtain ⟨b, off, z, rfl, hcell, hz⟩ := (hA0.out.keep hbw).one hlt
      have hsl : ss.length = k := by rw [hss.out]; simp; omega
      have hss2 : Hid (ss ++ [(0, z)] = (cs.take (k + 1)).map (fun b => ((0 : Int), b))) := hide (by rw [strs_take1 cs ls k z hz.out, hss.out])
      have hown := hO.own
      have hsz := hO.size
      have hsl8 : ss.length ≤ 8 := by omega
      clear hbw hO hsl
      go_wp2_with (at_builtin; refine wpList_append_own _ rfl _ _ 57 rfl B 55 i0 (.agg #[.int .i64 0, .int .i64 0]) 2 16 Try.underlying57 hi0 hz0 hz1 hz2 rfl (by decide) _ _ _ rfl (hown.alloc _) ⟨wr.heap.size, 0, none⟩ 1 1 [.int .i64 0, .int .i64 z] rfl rfl (World.news_of_block (heap_alloc_new wr (.cells #[.int .i64 0, .int .i64 z] 55 (0, 0)))) (by simp [Value.oneCell']) (by unfold maxLen; omega) (by omega) (by simp; omega) ?_)
      intro v' w7 hown' hgrow _
      have HO7 := hide (HO.out.snoc (by simpa using hown') hgrow)
      clear hown' hgrow hown hsz
      go_wp2_with fail
      go_roundw
      case rel => exact ⟨k + 1, ss ++ [(0, z)], _, rfl, by omega, by go_num, hss2.out, HO7.out⟩
      case measure => simp [intOf]; omega
    · obtain rfl : k = cs.length := by omega
      have hss1 : Hid (ss = strs cs (ls.take 0)) := hide (by rw [hss.out]; simp [strs])
      obtain ⟨d0, d1⟩ := hX0.out.keep hbw
      have hrw : Hid (Below W0.heap.size W0 wr) := hide hbw
      clear hbw hO hss c0 c1
      obtain ⟨wo, hwo⟩ : ∃ wo : World, wo = wr := ⟨_, rfl⟩
      go_wp2_with fail
      go_loopw [3, 24] (fun v i wi => ∃ (k : Nat) (ss : List (Int × Int)) (v0 : Value), v0 = v ∧ k ≤ ls.length ∧ i = .int .i64 k ∧ Hid (ss = strs cs (ls.take k)) ∧ OwnsS B W0 wi v ss) (fun _ i _ => ls.length - (intOf i).toNat)
      case atStart => exact ⟨0, ss, _, rfl, Nat.zero_le _, rfl, hss1.out, HO.out⟩
      case round =>
        clear HO hss1 hrw hwo d0 d1
        obtain ⟨k, ss, v, rfl, hk, rfl, hss, hO⟩ := hrel
        have hbw := hO.old
        rw [HBE.out] at hbw
        have HO := hide hO
        by_cases hlt : k < ls.length
        · obtain ⟨b, off, z, rfl, hcell, hz⟩ := (hA0'.out.keep hbw).one hlt
          have hsl : ss.length = cs.length + k := by rw [hss.out, strs_len]; simp; omega
          have hss2 : Hid (ss ++ [(1, z)] = strs cs (ls.take (k + 1))) := hide (by rw [strs_take2 cs ls k z hz.out, hss.out])
          have hown := hO.own
          have hsz := hO.size
          have hsl8 : ss.length ≤ 8 := by omega
          clear hbw hO hsl
          go_wp2_with (at_builtin; refine wpList_append_own _ rfl _ _ 57 rfl B 55 i0 (.agg #[.int .i64 0, .int .i64 0]) 2 16 Try.underlying57 hi0 hz0 hz1 hz2 rfl (by decide) _ _ _ rfl (hown.alloc _) ⟨_, 0, none⟩ 1 1 [.int .i64 1, .int .i64 z] rfl rfl (World.news_of_block (heap_alloc_new _ (.cells #[.int .i64 1, .int .i64 z] 55 (0, 0)))) (by simp [Value.oneCell']) (by unfold maxLen; omega) (by omega) (by simp; omega) ?_)
          intro v' w7 hown' hgrow _
          have HO7 := hide (HO.out.snoc (by simpa using hown') hgrow)
          clear hown' hgrow hown hsz
          go_wp2_with fail
          go_roundw
          case rel => exact ⟨k + 1, ss ++ [(1, z)], _, rfl, by omega, by go_num, hss2.out, HO7.out⟩
          case measure => simp [intOf]; omega
        · obtain rfl : k = ls.length := by omega
          obtain rfl : ss = strs cs ls := by rw [hss.out, List.take_length]
          obtain ⟨av, cv, rfl⟩ := hO.form
          have hfin : Hid (∀ v, v = Value.slice av (strs cs ls).length cv → NewStrs (strs cs ls) W (.returned v) _) := hide (fun v e => ⟨av, cv, by rw [e], ownsRow_base hO.own (by rw [HBE.out]; exact hB0.out.size), Below.trans' hB0.out hbw⟩)
          clear hO HO hbw hss
          go_wp2_with fail
          go_ret
          exact hfin.out _ rfl
end Go.Proofs.Ytbfpbkbhikogiab
