/-
  Sprouts positions: LivesOf, both texts.
-/
import Derived.Test.YtlllkmobhjlmoabMk
namespace Go.Proofs.Ytlllkmobhjlmoab
open Go.RowKit
set_option linter.unusedVariables false

/-- The lives of spots with these degrees. -/
def livL : List Int → Int
  | [] => 0
  | d :: r => 3 - d + livL r
theorem livL_append : ∀ (xs ys : List Int), livL (xs ++ ys) = livL xs + livL ys
  | [], ys => by simp [livL]
  | d :: r, ys => by rw [List.cons_append, livL, livL_append r ys, livL]; omega
theorem livL_take {xs : List Int} {k : Nat} {d : Int} (h : xs[k]? = some d) : livL (xs.take (k + 1)) = livL (xs.take k) + (3 - d) := by
  rw [List.take_add_one, h, livL_append]
  simp [livL]
theorem livL_le : ∀ (xs : List Int), (∀ d ∈ xs, 0 ≤ d ∧ d ≤ 3) → 0 ≤ livL xs ∧ livL xs ≤ 3 * xs.length
  | [], _ => by simp [livL]
  | d :: r, h => by
    have h1 := h d List.mem_cons_self
    have h2 := livL_le r (fun x hx => h x (List.mem_cons_of_mem _ hx))
    simp only [livL, List.length_cons]
    omega
theorem degL_in {s : Int} {X : List (List (List Int))} (hs : Small3 X) : (degL s X).1.length ≤ 20 ∧ ∀ d ∈ (degL s X).1, 0 ≤ d ∧ d ≤ 3 := by
  unfold degL
  cases h : sprC s X with
  | none => simp
  | some st =>
    have h20 := sprC_le h
    obtain ⟨S, rfl⟩ : ∃ S : Nat, s = S := ⟨s.toNat, by omega⟩
    refine ⟨by simp; omega, fun d hd => ?_⟩
    simp only [List.mem_map, List.mem_range, Int.toNat_natCast] at hd
    obtain ⟨i, hi, rfl⟩ := hd
    exact (dBd_deg hs h hi).2
/-- LivesOf's answer. -/
def livR (s : Int) (X : List (List (List Int))) : Int × Int := (if (degL s X).2 = 0 then livL (degL s X).1 else 0, (degL s X).2)
theorem degL_code (s : Int) (X : List (List (List Int))) : ((degL s X).2 = 0 ∧ isSprB s X = true) ∨ ((degL s X).2 = 1 ∧ isSprB s X = false) := by
  unfold degL isSprB
  cases h : sprC s X <;> simp

set_option maxRecDepth 100000 in
set_option maxHeartbeats 2000000 in
theorem implLives_any (s : Int) (a : Option Addr) (c : Nat) (X : List (List (List Int))) (W : World) (ha : CubeAt W a X) (hs : Small3 X) :
    Calls Try.prog 16 #[.agg #[.int .i64 s, .slice a X.length c]] W (RetB (.tuple #[.int .i64 (livR s X).1, .int .i64 (livR s X).2]) W) := by
  obtain ⟨W0, hW0⟩ : ∃ W0, W0 = W.alloc (.cells #[.int .i64 s, .slice a X.length c] 29) := ⟨_, rfl⟩
  have hB0 : Hid (Below W.heap.size W W0) := by rw [hW0]; exact hide (below_alloc _ _)
  have hX0 : Hid (SprIn W0 W.heap.size s a X.length c) := by rw [hW0]; exact hide (sprIn_new _ _ _ _ _ _)
  have hA0 := hide (ha.keep hB0.out)
  obtain ⟨c0, c1⟩ := hX0.out
  have HC := hide ((implDegrees_any s a c X W0 hA0.out hs).mono (fun e w h => degR_new h))
  obtain ⟨hlen, hin⟩ := degL_in (s := s) hs
  obtain ⟨D, k, hD⟩ : ∃ D k, (D, k) = degL s X := ⟨_, _, rfl⟩
  have HR : Hid (livR s X = (if k = 0 then livL D else 0, k)) := hide (by unfold livR; rw [← hD])
  rw [← hD] at HC hlen hin
  rw [HR.out]
  have hk := degL_code s X
  rw [← hD] at hk
  dsimp only at hlen hin hk HC ⊢
  have HIN := hide hin
  clear ha hs hD HR hin
  have hk2 : k = 0 ∨ k = 1 := by omega
  clear hk
  rcases hk2 with rfl | rfl
  · rw [if_pos rfl]
    go_enter Try.func16, Try.ntmps16
    go_wp2_with fail
    rw [← hW0]
    clear hW0
    (try go_wp2_with fail)
    refine HC.out.mono ?_
    rintro e w1 ⟨a1, k1, rfl, ho1, hb1⟩
    have hB1 := hide (Below.trans' hB0.out hb1)
    have hI := hide (intsAt_of_ownsRow ho1)
    clear hb1 c0 c1 ho1
    obtain ⟨n, hn⟩ : ∃ n, n = D.length := ⟨_, rfl⟩
    have HN := hide hn
    dsimp only
    rw [← hn] at hlen ⊢
    clear hn
    go_wp2_with fail
    go_loopw [6, 19] (fun v i wr => ∃ (j : Nat) (t : Int), v = .int .i64 t ∧ j ≤ n ∧ i = .int .i64 j ∧ wr = w1 ∧ Hid (t = livL (D.take j))) (fun _ i _ => n - (intOf i).toNat)
    case atStart => exact ⟨0, 0, rfl, by omega, rfl, rfl, hide (by simp [livL])⟩
    case round =>
      obtain ⟨j, t, rfl, hj, rfl, rfl, HT⟩ := hrel
      by_cases hlt : j < n
      · have hjD : j < D.length := by rw [← HN.out]; exact hlt
        obtain ⟨b, off, d, rfl, hci, hi'⟩ := hI.out.one hjD
        have hd := HIN.out d (mem_of_get hi'.out)
        have ht2 := livL_le (D.take j) (fun x hx => HIN.out x (List.mem_of_mem_take hx))
        rw [← HT.out, List.length_take] at ht2
        have HT2 : Hid (wrap64 (t + wrap64 (3 - d)) = livL (D.take (j + 1))) := hide (by
          rw [livL_take hi'.out, ← HT.out]
          have e1 : wrap64 (3 - d) = 3 - d := by unfold wrap64; omega
          rw [e1]
          unfold wrap64
          omega)
        clear hd ht2 hi'
        go_wp2_with fail
        go_roundw
        case rel => exact ⟨j + 1, _, rfl, by omega, by go_num, (by first | trivial | rfl), HT2⟩
        case measure => simp [intOf]; omega
      · obtain rfl : j = n := by omega
        have hfin : Hid (t = livL D) := hide (by have := HT.out; rwa [HN.out, List.take_length] at this)
        clear HT
        go_wp2_with fail
        go_ret2
        exact ⟨by rw [hfin.out]; rfl, hB1.out⟩
  · rw [if_neg (by decide)]
    go_enter Try.func16, Try.ntmps16
    go_wp2_with fail
    rw [← hW0]
    clear hW0
    (try go_wp2_with fail)
    refine HC.out.mono ?_
    rintro e w1 ⟨a1, k1, rfl, ho1, hb1⟩
    have hB1 := hide (Below.trans' hB0.out hb1)
    clear hb1 c0 c1 ho1
    dsimp only
    go_wp2_with fail
    go_ret2
    exact ⟨rfl, hB1.out⟩

set_option maxRecDepth 100000 in
set_option maxHeartbeats 2000000 in
theorem l02Lives_any (s : Int) (a : Option Addr) (c : Nat) (X : List (List (List Int))) (W : World) (ha : CubeAt W a X) (hs : Small3 X) (hk : isSprB s X = true) :
    Calls Try.prog 27 #[.agg #[.int .i64 s, .slice a X.length c]] W (RetB (.int .i64 (livL (degL s X).1)) W) := by
  obtain ⟨W0, hW0⟩ : ∃ W0, W0 = W.alloc (.cells #[.int .i64 s, .slice a X.length c] 29) := ⟨_, rfl⟩
  have hB0 : Hid (Below W.heap.size W W0) := by rw [hW0]; exact hide (below_alloc _ _)
  have hX0 : Hid (SprIn W0 W.heap.size s a X.length c) := by rw [hW0]; exact hide (sprIn_new _ _ _ _ _ _)
  have hA0 := hide (ha.keep hB0.out)
  obtain ⟨c0, c1⟩ := hX0.out
  have HC := hide (specDeg_any s a c X W0 hA0.out hs)
  obtain ⟨hlen, hin⟩ := degL_in (s := s) hs
  obtain ⟨st, hst⟩ : ∃ st, sprC s X = some st := by
    unfold isSprB at hk
    cases h : sprC s X with
    | none => rw [h] at hk; cases hk
    | some st => exact ⟨st, rfl⟩
  have h20 := sprC_le hst
  rw [hst] at HC
  have hDL : (degL s X).1 = (List.range s.toNat).map (degC st s.toNat) := by unfold degL; rw [hst]
  obtain ⟨D, hD⟩ : ∃ D, D = (degL s X).1 := ⟨_, rfl⟩
  rw [← hD] at hDL hlen hin ⊢
  have HIN := hide hin
  have hn : s.toNat = D.length := by rw [hDL]; simp
  have HDL := hide hDL
  obtain ⟨n, hn'⟩ : ∃ n, n = s.toNat := ⟨_, rfl⟩
  rw [← hn'] at HC hn HDL
  have HN := hide hn
  have hln : n ≤ 20 := by omega
  clear ha hs hst hk hDL hD hin hn hlen h20 hn'
  go_enter Try.func27, Try.ntmps27
  go_wp2_with fail
  rw [← hW0]
  clear hW0
  (try go_wp2_with fail)
  refine HC.out.mono ?_
  rintro e w1 ⟨hb1, b, hbb, rfl, hr⟩
  have hB1 := hide (Below.trans' hB0.out hb1)
  have hI : Hid (IntsAt w1 (some ⟨b, 0, none⟩) D) := hide (by
    have h := rowIs_ownsD hr (Nat.le_refl b) hln
    rw [← HDL.out] at h
    exact intsAt_of_ownsRow h)
  clear hb1 c0 c1 hr hbb
  go_wp2_with fail
  go_loopw [5, 6] (fun v i wr => ∃ (j : Nat) (t : Int), v = .int .i64 t ∧ j ≤ n ∧ i = .int .i64 j ∧ wr = w1 ∧ Hid (t = livL (D.take j))) (fun _ i _ => n - (intOf i).toNat)
  case atStart => exact ⟨0, 0, rfl, by omega, rfl, rfl, hide (by simp [livL])⟩
  case round =>
    obtain ⟨j, t, rfl, hj, rfl, rfl, HT⟩ := hrel
    by_cases hlt : j < n
    · have hjD : j < D.length := by rw [← HN.out]; exact hlt
      obtain ⟨b', off, d, he, hci, hi'⟩ := hI.out.one hjD
      simp only [Option.some.injEq, Addr.mk.injEq, and_true] at he
      obtain ⟨rfl, rfl⟩ := he
      rw [Nat.zero_add] at hci
      have hd := HIN.out d (mem_of_get hi'.out)
      have ht2 := livL_le (D.take j) (fun x hx => HIN.out x (List.mem_of_mem_take hx))
      rw [← HT.out, List.length_take] at ht2
      have HT2 : Hid (wrap64 (wrap64 (t + 3) - d) = livL (D.take (j + 1))) := hide (by
        rw [livL_take hi'.out, ← HT.out]
        unfold wrap64
        omega)
      clear hd ht2 hi'
      go_wp2_with fail
      go_roundw
      case rel => exact ⟨j + 1, _, rfl, by omega, by go_num, (by first | trivial | rfl), HT2⟩
      case measure => simp [intOf]; omega
    · obtain rfl : j = n := by omega
      have hfin : Hid (t = livL D) := hide (by have := HT.out; rwa [HN.out, List.take_length] at this)
      clear HT
      go_wp2_with fail
      go_ret
      exact ⟨by rw [hfin.out]; rfl, hB1.out⟩

set_option maxRecDepth 100000 in
set_option maxHeartbeats 2000000 in
theorem specLives_any (s : Int) (a : Option Addr) (c : Nat) (X : List (List (List Int))) (W : World) (ha : CubeAt W a X) (hs : Small3 X) :
    Calls Try.prog 15 #[.agg #[.int .i64 s, .slice a X.length c]] W (RetB (.tuple #[.int .i64 (livR s X).1, .int .i64 (livR s X).2]) W) := by
  obtain ⟨W0, hW0⟩ : ∃ W0, W0 = W.alloc (.cells #[.int .i64 s, .slice a X.length c] 29) := ⟨_, rfl⟩
  have hB0 : Hid (Below W.heap.size W W0) := by rw [hW0]; exact hide (below_alloc _ _)
  have hX0 : Hid (SprIn W0 W.heap.size s a X.length c) := by rw [hW0]; exact hide (sprIn_new _ _ _ _ _ _)
  have hA0 := hide (ha.keep hB0.out)
  obtain ⟨c0, c1⟩ := hX0.out
  have HIS := hide (l02Is_any s a c X W0 hA0.out hs)
  have hk := degL_code s X
  cases hb : isSprB s X
  · have HR : Hid (livR s X = (0, 1)) := hide (by
      rw [hb] at hk
      have h1 : (degL s X).2 = 1 := by rcases hk with ⟨_, h⟩ | ⟨h, _⟩ <;> first | exact h | cases h
      unfold livR
      rw [h1]
      rfl)
    rw [HR.out]
    rw [hb] at HIS
    clear hk hb ha hs
    go_enter Try.func15, Try.ntmps15
    go_wp2_with fail
    rw [← hW0]
    clear hW0
    (try go_wp2_with fail)
    refine HIS.out.mono ?_
    rintro e w1 ⟨rfl, hb1⟩
    have hB1 := hide (Below.trans' hB0.out hb1)
    clear hb1 c0 c1
    go_wp2_with fail
    go_ret2
    exact ⟨rfl, hB1.out⟩
  · have HR : Hid (livR s X = (livL (degL s X).1, 0)) := hide (by
      rw [hb] at hk
      have h1 : (degL s X).2 = 0 := by rcases hk with ⟨h, _⟩ | ⟨_, h⟩ <;> first | exact h | cases h
      unfold livR
      rw [h1, if_pos rfl])
    have HL := hide (fun V (h : CubeAt V a X) => l02Lives_any s a c X V h hs hb)
    rw [HR.out]
    rw [hb] at HIS
    clear hk hb ha hs
    go_enter Try.func15, Try.ntmps15
    go_wp2_with fail
    rw [← hW0]
    clear hW0
    (try go_wp2_with fail)
    refine HIS.out.mono ?_
    rintro e w1 ⟨rfl, hb1⟩
    have hB1 := hide (Below.trans' hB0.out hb1)
    have hX1 := hide (hX0.out.keep hb1)
    have hA1 := hide (hA0.out.keep hb1)
    clear hb1 c0 c1
    obtain ⟨c0, c1⟩ := hX1.out
    go_wp2_with fail
    refine (HL.out _ hA1.out).mono ?_
    rintro e w2 ⟨rfl, hb2⟩
    have hB2 := hide (Below.trans' hB1.out hb2)
    clear hb2 c0 c1
    go_wp2_with fail
    go_ret2
    exact ⟨rfl, hB2.out⟩
end Go.Proofs.Ytlllkmobhjlmoab
