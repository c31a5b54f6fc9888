/-
  checkState; FilledLine: both texts.
-/
import Derived.Test.YtlllkmobhjlmoaaBs
namespace Go.Proofs.Ytlllkmobhjlmoaa
open Go.RowKit
set_option linter.unusedVariables false

def flL (cs : List Int) : Int → List Int → Int × Int × Int
  | _, [] => (0, 0, 4)
  | p, x :: r => match lin cs x with
    | some l => (p, l, 0)
    | none => flL cs (p + 1) r
theorem flL_yes {cs : List Int} {p x l : Int} {r : List Int} (h : lin cs x = some l) : flL cs p (x :: r) = (p, l, 0) := by simp [flL, h]
theorem flL_no {cs : List Int} {p x : Int} {r : List Int} (h : lin cs x = none) : flL cs p (x :: r) = flL cs (p + 1) r := by simp [flL, h]
def flR (n : Int) (cs : List Int) (F S : Int) : Int × Int × Int := if codeS n cs F S = 0 then flL cs 0 [F, S] else (0, 0, codeS n cs F S)
theorem ints_two (w : World) (x y : Int) : IntsAt (w.alloc (.cells #[.int .i64 x, .int .i64 y] 2)) (some ⟨w.heap.size, 0, none⟩) [x, y] := by
  intro _
  refine ⟨_, _, rfl, fun i hi => ?_⟩
  have hi2 : i < 2 := by simpa using hi
  rcases (by omega : i = 0 ∨ i = 1) with rfl | rfl <;> simp [go_sem, intV]

set_option maxRecDepth 100000 in
set_option maxHeartbeats 1000000 in
theorem checkState_any (n : Int) (a : Option Addr) (c : Nat) (cs : List Int) (F S : Int) (W : World) (ha : IntsAt W a cs) (hl : cs.length ≤ 1048576) :
    Calls Try.prog 72 #[.agg #[.int .i64 n, .slice a cs.length c], .int .i64 F, .int .i64 S] W (RetB (.int .i64 (codeS n cs F S)) W) := by
  obtain ⟨W0, hW0⟩ : ∃ W0, W0 = W.alloc (.cells #[.int .i64 n, .slice a cs.length c] 27) := ⟨_, rfl⟩
  have hB0 : Hid (Below W.heap.size W W0) := by rw [hW0]; exact hide (below_alloc _ _)
  have hX0 : Hid (HexIn W0 W.heap.size n a cs.length c) := by rw [hW0]; exact hide (hexIn_new _ _ _ _ _ _)
  have hA0 := hide (ha.keep hB0.out)
  obtain ⟨c0, c1⟩ := hX0.out
  obtain ⟨r, hr⟩ : ∃ r, r = codeS n cs F S := ⟨_, rfl⟩
  rw [← hr]
  by_cases h5 : r = 5
  · have hi : isR n cs F S = (false, 0) := by unfold isR; rw [← hr, if_pos h5]
    have HC : Hid (∀ V : World, Below W0.heap.size W0 V → Calls Try.prog 38 #[.agg #[.int .i64 n, .slice a cs.length c], .int .i64 F, .int .i64 S] V (RetB (.tuple #[.bool false, .int .i64 0]) V)) := hide (fun V hv => by have h := implIsS_any n a c cs F S V (hA0.out.keep hv) hl; rw [hi] at h; exact h)
    subst h5
    clear hr ha hi
    go_enter Try.func72, Try.ntmps72
    go_wp2_with fail
    rw [← hW0]
    clear hW0
    (try go_wp2_with fail)
    refine (HC.out _ (Below.refl _ _)).mono ?_
    rintro e w1 ⟨rfl, hb1⟩
    have hB1 := hide (Below.trans' hB0.out hb1)
    clear hb1
    go_wp2_with fail
    go_ret
    exact ⟨rfl, hB1.out⟩
  · by_cases h0 : r = 0
    · have hi : isR n cs F S = (true, 0) := by unfold isR; rw [← hr, if_neg h5, h0]; rfl
      have HC : Hid (∀ V : World, Below W0.heap.size W0 V → Calls Try.prog 38 #[.agg #[.int .i64 n, .slice a cs.length c], .int .i64 F, .int .i64 S] V (RetB (.tuple #[.bool true, .int .i64 0]) V)) := hide (fun V hv => by have h := implIsS_any n a c cs F S V (hA0.out.keep hv) hl; rw [hi] at h; exact h)
      subst h0
      clear hr ha hi h5
      go_enter Try.func72, Try.ntmps72
      go_wp2_with fail
      rw [← hW0]
      clear hW0
      (try go_wp2_with fail)
      refine (HC.out _ (Below.refl _ _)).mono ?_
      rintro e w1 ⟨rfl, hb1⟩
      have hB1 := hide (Below.trans' hB0.out hb1)
      clear hb1
      go_wp2_with fail
      go_ret
      exact ⟨rfl, hB1.out⟩
    · have hi : isR n cs F S = (false, r) := by unfold isR; rw [← hr, if_neg h5, decide_eq_false h0]
      have HC : Hid (∀ V : World, Below W0.heap.size W0 V → Calls Try.prog 38 #[.agg #[.int .i64 n, .slice a cs.length c], .int .i64 F, .int .i64 S] V (RetB (.tuple #[.bool false, .int .i64 r]) V)) := hide (fun V hv => by have h := implIsS_any n a c cs F S V (hA0.out.keep hv) hl; rw [hi] at h; exact h)
      have e0 : (r == 0) = false := by simp [h0]
      clear hr ha hi h5 h0
      go_enter Try.func72, Try.ntmps72
      go_wp2_with fail
      rw [← hW0]
      clear hW0
      (try go_wp2_with fail)
      refine (HC.out _ (Below.refl _ _)).mono ?_
      rintro e w1 ⟨rfl, hb1⟩
      have hB1 := hide (Below.trans' hB0.out hb1)
      clear hb1
      go_wp2_with fail
      go_ret
      exact ⟨rfl, hB1.out⟩

set_option maxRecDepth 100000 in
set_option maxHeartbeats 4000000 in
theorem implFl_any (n : Int) (a : Option Addr) (c : Nat) (cs : List Int) (F S : Int) (W : World) (ha : IntsAt W a cs) (hl : cs.length ≤ 1048576) :
    Calls Try.prog 40 #[.agg #[.int .i64 n, .slice a cs.length c], .int .i64 F, .int .i64 S] W (RetB (.tuple #[.int .i64 (flR n cs F S).1, .int .i64 (flR n cs F S).2.1, .int .i64 (flR n cs F S).2.2]) W) := by
  obtain ⟨W0, hW0⟩ : ∃ W0, W0 = W.alloc (.cells #[.int .i64 n, .slice a cs.length c] 27) := ⟨_, rfl⟩
  have hB0 : Hid (Below W.heap.size W W0) := by rw [hW0]; exact hide (below_alloc _ _)
  have hX0 : Hid (HexIn W0 W.heap.size n a cs.length c) := by rw [hW0]; exact hide (hexIn_new _ _ _ _ _ _)
  have hA0 := hide (ha.keep hB0.out)
  obtain ⟨c0, c1⟩ := hX0.out
  obtain ⟨r, hr⟩ : ∃ r, r = codeS n cs F S := ⟨_, rfl⟩
  have HC : Hid (∀ V : World, Below W0.heap.size W0 V → Calls Try.prog 72 #[.agg #[.int .i64 n, .slice a cs.length c], .int .i64 F, .int .i64 S] V (RetB (.int .i64 r) V)) := hide (fun V hv => by rw [hr]; exact checkState_any n a c cs F S V (hA0.out.keep hv) hl)
  by_cases h0 : r = 0
  · obtain ⟨hok, hF, hS, _⟩ := codeS_zero (by rw [← hr]; exact h0)
    have hp16 := nn16 (okB_parts hok).1
    have hSets := hide (sets_of hok)
    obtain ⟨x0, x1, x2, hx⟩ : ∃ x0 x1 x2 : Int, flL cs 0 [F, S] = (x0, x1, x2) := ⟨_, _, _, rfl⟩
    have HR : Hid (flR n cs F S = (x0, x1, x2)) := hide (by unfold flR; rw [← hr, if_pos h0, hx])
    have HX := hide hx
    have HFS : Hid (∀ x ∈ [F, S], 0 ≤ x ∧ x < 65536) := hide (fun x hx => by
      rcases List.mem_cons.1 hx with rfl | hx
      · omega
      · rcases List.mem_cons.1 hx with rfl | hx
        · omega
        · cases hx)
    rw [HR.out]
    subst h0
    clear hr hx hok hF hS hp16 ha
    go_enter Try.func40, Try.ntmps40
    go_wp2_with fail
    rw [← hW0]
    clear hW0
    (try go_wp2_with fail)
    refine (HC.out _ (Below.refl _ _)).mono ?_
    rintro e w1 ⟨rfl, hb1⟩
    have hB1 := hide (Below.trans' hB0.out hb1)
    have hX1 := hide (hX0.out.keep hb1)
    have hA1 := hide (hA0.out.keep hb1)
    clear hb1 c0 c1
    obtain ⟨w2, hw2⟩ : ∃ w2, w2 = w1.alloc (.cells #[.int .i64 F, .int .i64 S] 2) := ⟨_, rfl⟩
    have hL2 : Hid (IntsAt w2 (some ⟨w1.heap.size, 0, none⟩) [F, S]) := by rw [hw2]; exact hide (ints_two _ _ _)
    have hb2 : Below w1.heap.size w1 w2 := by rw [hw2]; exact below_alloc _ _
    have hB2 := hide (Below.trans' hB1.out hb2)
    have hX2 := hide (hX1.out.keep hb2)
    have hA2 := hide (hA1.out.keep hb2)
    clear hb2
    go_wp2_with fail
    rw [← hw2]
    clear hw2
    (try go_wp2_with fail)
    go_loopg [25] 2 (fun g i wr => ∃ k : Nat, k + g = 2 ∧ i = .int .i64 k ∧ Hid (flL cs k ([F, S].drop k) = (x0, x1, x2)) ∧ Below w2.heap.size w2 wr)
    case atStart => exact ⟨0, by omega, rfl, hide (by rw [List.drop_zero]; exact HX.out), Below.refl _ _⟩
    case round =>
      obtain ⟨k, hk, rfl, hD, hB⟩ := hrel
      have HB := hide hB
      cases gk with
      | succ g =>
        have hlt : k < 2 := by omega
        obtain ⟨b, off, x, hadr, hcell, hz⟩ := (hL2.out.keep hB).one (k := k) hlt
        simp only [Option.some.injEq, Addr.mk.injEq] at hadr
        obtain ⟨rfl, rfl, _⟩ := hadr
        rw [Nat.zero_add] at hcell
        obtain ⟨s0, s1⟩ := HFS.out x (mem_of_get hz.out)
        have hD2 : Hid (flL cs k (x :: [F, S].drop (k + 1)) = (x0, x1, x2)) := by rw [← drop_of_get hz.out]; exact hD
        have HLI : Hid (∀ V : World, Below wr.heap.size wr V → Calls Try.prog 73 #[.agg #[.int .i64 n, .slice a cs.length c], .int .i64 x] V (RetB (.tuple #[.int .i64 ((lin cs x).getD 0), .bool (fil cs x)]) V)) := hide (fun V hv => lineIn_any n a c cs x hSets.out s0 s1 V ((hA2.out.keep HB.out).keep hv) hl)
        obtain ⟨d0, d1⟩ := hX2.out.keep hB
        have hg2 : g + 1 + k = 2 := by omega
        have hki : (k : Int) < 2 := by omega
        clear hD hB hz s0 s1 hk
        cases hf : fil cs x
        · have hn := lin_none hf
          rw [hf] at HLI
          have hE : Hid (flL cs ((k + 1 : Nat) : Int) ([F, S].drop (k + 1)) = (x0, x1, x2)) := hide (by rw [← hD2.out, flL_no hn]; simp)
          clear hf hn hD2
          go_wp2_with fail
          refine (HLI.out _ (Below.refl _ _)).mono ?_
          rintro e w3 ⟨rfl, hb3⟩
          have hB3 := hide (Below.trans' HB.out hb3)
          clear hb3 d0 d1 hcell
          go_wp2_with fail
          go_roundg g
          case rel => exact ⟨k + 1, by omega, by go_num, hE, hB3.out⟩
          case measure => omega
        · obtain ⟨l, hn⟩ := lin_some hf
          rw [hf, hn] at HLI
          have hE : Hid ((k : Int) = x0 ∧ l = x1 ∧ (0 : Int) = x2) := hide (by have := hD2.out; rw [flL_yes hn] at this; simpa using this)
          clear hf hn hD2
          go_wp2_with fail
          refine (HLI.out _ (Below.refl _ _)).mono ?_
          rintro e w3 ⟨rfl, hb3⟩
          have hB3 := hide (Below.trans' hB2.out (Below.trans' HB.out hb3))
          clear hb3 d0 d1 hcell
          go_wp2_with fail
          go_ret3
          exact ⟨by simp [go_sem, ← hE.out.1, ← hE.out.2.1, ← hE.out.2.2], hB3.out⟩
      | zero =>
        obtain rfl : k = 2 := by omega
        have hE : Hid ((0 : Int) = x0 ∧ (0 : Int) = x1 ∧ (4 : Int) = x2) := hide (by have := hD.out; simpa [flL] using this)
        have hB3 := hide (Below.trans' hB2.out hB)
        clear hD hB hk
        go_wp2_with fail
        go_ret3
        exact ⟨by simp [go_sem, ← hE.out.1, ← hE.out.2.1, ← hE.out.2.2], hB3.out⟩
  · have HR : Hid (flR n cs F S = (0, 0, r)) := hide (by unfold flR; rw [← hr, if_neg h0])
    rw [HR.out]
    have e0 : (r != 0) = true := by simp [h0]
    clear hr ha h0
    go_enter Try.func40, Try.ntmps40
    go_wp2_with fail
    rw [← hW0]
    clear hW0
    (try go_wp2_with fail)
    refine (HC.out _ (Below.refl _ _)).mono ?_
    rintro e w1 ⟨rfl, hb1⟩
    have hB1 := hide (Below.trans' hB0.out hb1)
    clear hb1
    go_wp2_with fail
    go_ret3
    exact ⟨rfl, hB1.out⟩
end Go.Proofs.Ytlllkmobhjlmoaa
