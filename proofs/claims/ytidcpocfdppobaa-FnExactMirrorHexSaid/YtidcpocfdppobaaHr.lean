/-
  Boards of hexagons: ReduceTriangle and TriangleOwner, both texts.
-/
import Derived.Test.YtidcpocfdppobaaHv
namespace Go.Proofs.Ytidcpocfdppobaa
open Go.RowKit
set_option linter.unusedVariables false

theorem own_cap {w : World} {base n c : Nat} {e : TypeId} {a : Option Addr} {xs : List Value} (h : w.ownsRow base e 1 (.slice a n c) n xs) : n ≤ c := by
  rcases h.2 with ⟨h2, h3⟩ | ⟨g, cap, cur, hv, _, _, r, _⟩
  · omega
  · simp only [Value.slice.injEq] at hv
    omega
def rdR (n : Int) (cs : List Int) : List Int × Int := if trC n 2 cs = 0 then (redTo cs (n.toNat - 1), 0) else ([], trC n 2 cs)
theorem rdR_le (n : Int) (cs : List Int) : (rdR n cs).1.length ≤ 1048576 := by
  unfold rdR
  split
  · rename_i h
    obtain ⟨k1, k2, k3, k4, _⟩ := trC_zero h
    have h1 := tS_mono (show n.toNat - 1 ≤ 8 by omega)
    have h2 : tS 8 = 36 := rfl
    show (redTo cs (n.toNat - 1)).length ≤ _
    rw [redTo_len]
    omega
  · simp
theorem newList_nil (W W' : World) (k : Int) (h : Below W.heap.size W W') : NewList ([], k) W (.returned (.tuple #[.slice none 0 0, .int .i64 k])) W' := ⟨none, 0, rfl, World.ownsRow_nil _ _ _ _, h⟩
theorem newList_of {zs : List Int} {k : Int} {W w1 w2 : World} {a : Option Addr} {c : Nat} (h1 : Below W.heap.size W w1) (h2 : w2.ownsRow w1.heap.size 2 1 (.slice a zs.length c) zs.length (zs.map intV)) (h3 : Below w1.heap.size w1 w2) :
    NewList (zs, k) W (.returned (.tuple #[.slice a zs.length c, .int .i64 k])) w2 := ⟨a, c, rfl, ownsRow_base h2 h1.size, Below.trans' h1 h3⟩

set_option maxRecDepth 100000 in
set_option maxHeartbeats 2000000 in
theorem implReduce_any (n : Int) (a : Option Addr) (c : Nat) (cs : List Int) (hc : cs.length ≤ c) (W : World) (ha : IntsAt W a cs) (hl : cs.length ≤ 1048576) :
    Calls Try.prog 48 #[.int .i64 n, .slice a cs.length c] W (NewList (rdR n cs) W) := by
  obtain ⟨t, ht⟩ : ∃ t, t = trC n 2 cs := ⟨_, rfl⟩
  have HCT : Hid (∀ V, IntsAt V a cs → Calls Try.prog 81 #[.int .i64 n, .int .i64 2, .slice a cs.length c] V (RetB (.int .i64 t) V)) := hide (fun V h => by rw [ht]; exact implTri_any n 2 a c cs (by omega) V h hl)
  by_cases h0 : t = 0
  · obtain ⟨k1, k2, k3, k4, _⟩ := trC_zero (ht.symm.trans h0)
    have hR : Hid (rdR n cs = (redTo cs (n.toNat - 1), 0)) := hide (by simp [rdR, ← ht, h0])
    rw [hR.out]
    obtain ⟨N, hN⟩ : ∃ N : Nat, n = N := ⟨n.toNat, by omega⟩
    subst hN
    rw [Int.toNat_natCast]
    have hlen : Hid (cs.length = tS N) := hide (by have := tS_int (n := (N : Int)) (by omega); rw [Int.toNat_natCast] at this; omega)
    have HRD : Hid (∀ V, IntsAt V a cs → Calls Try.prog 82 #[.int .i64 (N : Int), .slice a cs.length c] V (NewL (redTo cs (N - 1)) V)) := hide (fun V h => implRed_any N a c cs (by omega) (by omega) hlen.out hc V h)
    subst h0
    have HA := hide ha
    clear ht ha k4 hR
    go_enter Try.func48, Try.ntmps48
    go_wp2_with fail
    refine (HCT.out _ HA.out).mono ?_
    rintro e w1 ⟨rfl, hb1⟩
    have hB1 := hide hb1
    have hA1 := hide (HA.out.keep hb1)
    clear hb1
    go_wp2_with fail
    refine (HRD.out _ hA1.out).mono ?_
    rintro e w2 ⟨a2, c2, rfl, ho2, hb2⟩
    have hfin := hide (newList_of (k := 0) hB1.out ho2 hb2)
    clear ho2 hb2
    go_wp2_with fail
    go_ret2
    exact hfin.out
  · have hR : Hid (rdR n cs = ([], t)) := hide (by simp [rdR, ← ht, h0])
    rw [hR.out]
    have hd : (t != 0) = true := by simp [h0]
    have HA := hide ha
    clear ht ha hR
    go_enter Try.func48, Try.ntmps48
    go_wp2_with fail
    refine (HCT.out _ HA.out).mono ?_
    rintro e w1 ⟨rfl, hb1⟩
    have hfin := hide (newList_nil _ _ t hb1)
    clear hb1
    go_wp2_with fail
    go_ret2
    exact hfin.out

set_option maxRecDepth 100000 in
set_option maxHeartbeats 2000000 in
theorem specReduce_any (n : Int) (a : Option Addr) (c : Nat) (cs : List Int) (W : World) (ha : IntsAt W a cs) (hl : cs.length ≤ 1048576) :
    Calls Try.prog 46 #[.int .i64 n, .slice a cs.length c] W (NewList (rdR n cs) W) := by
  obtain ⟨t, ht⟩ : ∃ t, t = trC n 2 cs := ⟨_, rfl⟩
  have HCT : Hid (∀ V, IntsAt V a cs → Calls Try.prog 79 #[.int .i64 n, .int .i64 2, .slice a cs.length c] V (RetB (.int .i64 t) V)) := hide (fun V h => by rw [ht]; exact specTri_any n 2 a c cs (by omega) V h hl)
  by_cases h0 : t = 0
  · obtain ⟨k1, k2, k3, k4, k5⟩ := trC_zero (ht.symm.trans h0)
    have hR : Hid (rdR n cs = (redTo cs (n.toNat - 1), 0)) := hide (by simp [rdR, ← ht, h0])
    rw [hR.out]
    obtain ⟨N, hN⟩ : ∃ N : Nat, n = N := ⟨n.toNat, by omega⟩
    subst hN
    rw [Int.toNat_natCast]
    have hlen : Hid (cs.length = tS N) := hide (by have := tS_int (n := (N : Int)) (by omega); rw [Int.toNat_natCast] at this; omega)
    have HRD : Hid (∀ V, IntsAt V a cs → Calls Try.prog 80 #[.int .i64 (N : Int), .slice a cs.length c] V (NewL (redTo cs (N - 1)) V)) := hide (fun V h => specRed_any N a c cs (by omega) (by omega) hlen.out k5 V h)
    subst h0
    have HA := hide ha
    clear ht ha k4 k5 hR
    go_enter Try.func46, Try.ntmps46
    go_wp2_with fail
    refine (HCT.out _ HA.out).mono ?_
    rintro e w1 ⟨rfl, hb1⟩
    have hB1 := hide hb1
    have hA1 := hide (HA.out.keep hb1)
    clear hb1
    go_wp2_with fail
    refine (HRD.out _ hA1.out).mono ?_
    rintro e w2 ⟨a2, c2, rfl, ho2, hb2⟩
    have hfin := hide (newList_of (k := 0) hB1.out ho2 hb2)
    clear ho2 hb2
    go_wp2_with fail
    go_ret2
    exact hfin.out
  · have hR : Hid (rdR n cs = ([], t)) := hide (by simp [rdR, ← ht, h0])
    rw [hR.out]
    have hd : (t != 0) = true := by simp [h0]
    have HA := hide ha
    clear ht ha hR
    go_enter Try.func46, Try.ntmps46
    go_wp2_with fail
    refine (HCT.out _ HA.out).mono ?_
    rintro e w1 ⟨rfl, hb1⟩
    have hfin := hide (newList_nil _ _ t hb1)
    clear hb1
    go_wp2_with fail
    go_ret2
    exact hfin.out

/-! ### the owner -/
def owR (n : Int) (cs : List Int) : Int × Int := if trC n 1 cs = 0 then (ownT (n.toNat - 1) cs, 0) else (0, trC n 1 cs)

set_option maxRecDepth 100000 in
set_option maxHeartbeats 2000000 in
theorem implOwner_any (n : Int) (a : Option Addr) (c : Nat) (cs : List Int) (hc : cs.length ≤ c) (W : World) (ha : IntsAt W a cs) (hl : cs.length ≤ 1048576) :
    Calls Try.prog 50 #[.int .i64 n, .slice a cs.length c] W (RetB (.tuple #[.int .i64 (owR n cs).1, .int .i64 (owR n cs).2]) W) := by
  obtain ⟨t, ht⟩ : ∃ t, t = trC n 1 cs := ⟨_, rfl⟩
  have HCT : Hid (∀ V, IntsAt V a cs → Calls Try.prog 81 #[.int .i64 n, .int .i64 1, .slice a cs.length c] V (RetB (.int .i64 t) V)) := hide (fun V h => by rw [ht]; exact implTri_any n 1 a c cs (by omega) V h hl)
  by_cases h0 : t = 0
  · obtain ⟨k1, k2, k3, k4, k5⟩ := trC_zero (ht.symm.trans h0)
    have hR : Hid (owR n cs = (ownT (n.toNat - 1) cs, 0)) := hide (by simp [owR, ← ht, h0])
    rw [hR.out]
    obtain ⟨M, hM⟩ : ∃ M : Nat, n = (M : Int) + 1 := ⟨n.toNat - 1, by omega⟩
    subst hM
    rw [show ((M : Int) + 1).toNat - 1 = M by omega]
    have hlen : Hid (cs.length = tS (M + 1)) := hide (by have := tS_int (n := (M : Int) + 1) (by omega); rw [show ((M : Int) + 1).toNat = M + 1 by omega] at this; omega)
    have hM7 : M ≤ 7 := by omega
    subst h0
    obtain ⟨r, hr⟩ : ∃ r, r = ownT M cs := ⟨_, rfl⟩
    rw [← hr]
    have HR := hide hr.symm
    have HK := hide k5
    have HC := hide hc
    have HA := hide ha
    clear ht ha k4 k5 k1 k2 k3 hR hr hc
    go_enter Try.func50, Try.ntmps50
    go_wp2_with fail
    refine (HCT.out _ HA.out).mono ?_
    rintro e w1 ⟨rfl, hb1⟩
    have hB1 := hide hb1
    have hA1 := hide (HA.out.keep hb1)
    clear hb1
    go_wp2_with fail
    go_loopw [0, 1] (fun x v wr => ∃ (m : Nat) (a' : Option Addr) (c' : Nat) (xs : List Int), x = .int .i64 ((m : Int) + 1) ∧ v = .slice a' xs.length c' ∧ m ≤ 7 ∧ Hid (IntsAt wr a' xs ∧ xs.length = tS (m + 1) ∧ xs.length ≤ c' ∧ (∀ z ∈ xs, 1 ≤ z ∧ z ≤ 2) ∧ ownT m xs = r) ∧ Below w1.heap.size w1 wr) (fun x _ _ => (intOf x).toNat)
    case atStart => exact ⟨M, _, _, cs, rfl, rfl, hM7, ⟨hA1.out, hlen.out, HC.out, HK.out, HR.out⟩, Below.refl _ _⟩
    case round =>
      obtain ⟨m, a', c', xs, hx, rfl, hm7, hI, hB⟩ := hrel
      have HB := hide hB
      clear hB
      obtain ⟨i1, i2, i3, i4, i5⟩ := hI.out
      cases m with
      | zero =>
        have hx1 : _ = Value.int .i64 1 := hx
        clear hx
        subst hx1
        have hl1 : xs.length = 1 := i2
        obtain ⟨b, off, rfl, hcell⟩ := i1.at (by omega)
        have hc0 := hcell 0 (by omega)
        rw [show hexAt xs ((0 : Nat) : Int) = r from i5, Nat.add_zero] at hc0
        have hlx : 0 < xs.length := by omega
        clear hcell i1 i2 i3 i4 i5 hl1 hI
        go_wp2_with fail
        go_ret2
        exact ⟨rfl, Below.trans' hB1.out HB.out⟩
      | succ m =>
        have hlx : xs.length ≤ 36 := by have := tS_nums (n := m + 1 + 1) (by omega); omega
        have hx1 : _ = Value.int .i64 ((m : Int) + 2) := hx.trans (by rw [show ((m + 1 : Nat) : Int) + 1 = (m : Int) + 2 by omega])
        clear hx
        subst hx1
        have HRD : Hid (Calls Try.prog 82 #[.int .i64 ((m : Int) + 2), .slice a' xs.length c'] wr (NewL (redTo xs (m + 1)) wr)) := hide (by have := implRed_any (m + 1 + 1) a' c' xs (by omega) (by omega) i2 i3 wr i1; rw [show ((m + 1 + 1 : Nat) : Int) = (m : Int) + 2 by omega] at this; simpa using this)
        have h12 := hide (redTo_12 i4 (m + 1) (by omega))
        have hO5 : Hid (ownT m (redTo xs (m + 1)) = r) := hide i5
        clear i1 i2 i3 i4 i5 hI
        go_wp2_with fail
        refine (HRD.out).mono ?_
        rintro e w2 ⟨a2, c2, rfl, ho2, hb2⟩
        have hI2 := hide (And.intro (intsAt_of_ownsRow ho2) (And.intro (redTo_len xs (m + 1)) (And.intro (own_cap ho2) (And.intro h12.out hO5.out))))
        have HB2 := hide (Below.trans' HB.out hb2)
        clear ho2 hb2
        go_wp2_with fail
        go_roundw
        case rel => exact ⟨m, _, _, _, by go_num, rfl, by omega, hI2.out, HB2.out⟩
        case measure => simp [intOf]; omega
  · have hR : Hid (owR n cs = (0, t)) := hide (by simp [owR, ← ht, h0])
    rw [hR.out]
    have hd : (t != 0) = true := by simp [h0]
    have HA := hide ha
    clear ht ha hR
    go_enter Try.func50, Try.ntmps50
    go_wp2_with fail
    refine (HCT.out _ HA.out).mono ?_
    rintro e w1 ⟨rfl, hb1⟩
    have HB1 := hide hb1
    clear hb1
    go_wp2_with fail
    go_ret2
    exact ⟨rfl, HB1.out⟩

set_option maxRecDepth 100000 in
set_option maxHeartbeats 2000000 in
theorem specOwner_any (n : Int) (a : Option Addr) (c : Nat) (cs : List Int) (hc : cs.length ≤ c) (W : World) (ha : IntsAt W a cs) (hl : cs.length ≤ 1048576) :
    Calls Try.prog 49 #[.int .i64 n, .slice a cs.length c] W (RetB (.tuple #[.int .i64 (owR n cs).1, .int .i64 (owR n cs).2]) W) := by
  obtain ⟨t, ht⟩ : ∃ t, t = trC n 1 cs := ⟨_, rfl⟩
  have HCT : Hid (∀ V, IntsAt V a cs → Calls Try.prog 79 #[.int .i64 n, .int .i64 1, .slice a cs.length c] V (RetB (.int .i64 t) V)) := hide (fun V h => by rw [ht]; exact specTri_any n 1 a c cs (by omega) V h hl)
  by_cases h0 : t = 0
  · obtain ⟨k1, k2, k3, k4, k5⟩ := trC_zero (ht.symm.trans h0)
    have hR : Hid (owR n cs = (ownT (n.toNat - 1) cs, 0)) := hide (by simp [owR, ← ht, h0])
    rw [hR.out]
    obtain ⟨M, hM⟩ : ∃ M : Nat, n = (M : Int) + 1 := ⟨n.toNat - 1, by omega⟩
    subst hM
    rw [show ((M : Int) + 1).toNat - 1 = M by omega]
    have hlen : Hid (cs.length = tS (M + 1)) := hide (by have := tS_int (n := (M : Int) + 1) (by omega); rw [show ((M : Int) + 1).toNat = M + 1 by omega] at this; omega)
    have hM7 : M ≤ 7 := by omega
    subst h0
    obtain ⟨r, hr⟩ : ∃ r, r = ownT M cs := ⟨_, rfl⟩
    rw [← hr]
    have HR := hide hr.symm
    have HK := hide k5
    have HC := hide hc
    have HA := hide ha
    clear ht ha k4 k5 k1 k2 k3 hR hr hc
    go_enter Try.func49, Try.ntmps49
    go_wp2_with fail
    refine (HCT.out _ HA.out).mono ?_
    rintro e w1 ⟨rfl, hb1⟩
    have hB1 := hide hb1
    have hA1 := hide (HA.out.keep hb1)
    clear hb1
    go_wp2_with fail
    go_loopw [0, 1] (fun x v wr => ∃ (m : Nat) (a' : Option Addr) (c' : Nat) (xs : List Int), x = .int .i64 ((m : Int) + 1) ∧ v = .slice a' xs.length c' ∧ m ≤ 7 ∧ Hid (IntsAt wr a' xs ∧ xs.length = tS (m + 1) ∧ xs.length ≤ c' ∧ (∀ z ∈ xs, 1 ≤ z ∧ z ≤ 2) ∧ ownT m xs = r) ∧ Below w1.heap.size w1 wr) (fun x _ _ => (intOf x).toNat)
    case atStart => exact ⟨M, _, _, cs, rfl, rfl, hM7, ⟨hA1.out, hlen.out, HC.out, HK.out, HR.out⟩, Below.refl _ _⟩
    case round =>
      obtain ⟨m, a', c', xs, hx, rfl, hm7, hI, hB⟩ := hrel
      have HB := hide hB
      clear hB
      obtain ⟨i1, i2, i3, i4, i5⟩ := hI.out
      cases m with
      | zero =>
        have hx1 : _ = Value.int .i64 1 := hx
        clear hx
        subst hx1
        have hl1 : xs.length = 1 := i2
        obtain ⟨b, off, rfl, hcell⟩ := i1.at (by omega)
        have hc0 := hcell 0 (by omega)
        rw [show hexAt xs ((0 : Nat) : Int) = r from i5, Nat.add_zero] at hc0
        have hlx : 0 < xs.length := by omega
        clear hcell i1 i2 i3 i4 i5 hl1 hI
        go_wp2_with fail
        go_ret2
        exact ⟨rfl, Below.trans' hB1.out HB.out⟩
      | succ m =>
        have hlx : xs.length ≤ 36 := by have := tS_nums (n := m + 1 + 1) (by omega); omega
        have hx1 : _ = Value.int .i64 ((m : Int) + 2) := hx.trans (by rw [show ((m + 1 : Nat) : Int) + 1 = (m : Int) + 2 by omega])
        clear hx
        subst hx1
        have HRD : Hid (Calls Try.prog 80 #[.int .i64 ((m : Int) + 2), .slice a' xs.length c'] wr (NewL (redTo xs (m + 1)) wr)) := hide (by have := specRed_any (m + 1 + 1) a' c' xs (by omega) (by omega) i2 i4 wr i1; rw [show ((m + 1 + 1 : Nat) : Int) = (m : Int) + 2 by omega] at this; simpa using this)
        have h12 := hide (redTo_12 i4 (m + 1) (by omega))
        have hO5 : Hid (ownT m (redTo xs (m + 1)) = r) := hide i5
        clear i1 i2 i3 i4 i5 hI
        go_wp2_with fail
        refine (HRD.out).mono ?_
        rintro e w2 ⟨a2, c2, rfl, ho2, hb2⟩
        have hI2 := hide (And.intro (intsAt_of_ownsRow ho2) (And.intro (redTo_len xs (m + 1)) (And.intro (own_cap ho2) (And.intro h12.out hO5.out))))
        have HB2 := hide (Below.trans' HB.out hb2)
        clear ho2 hb2
        go_wp2_with fail
        go_roundw
        case rel => exact ⟨m, _, _, _, by go_num, rfl, by omega, hI2.out, HB2.out⟩
        case measure => simp [intOf]; omega
  · have hR : Hid (owR n cs = (0, t)) := hide (by simp [owR, ← ht, h0])
    rw [hR.out]
    have hd : (t != 0) = true := by simp [h0]
    have HA := hide ha
    clear ht ha hR
    go_enter Try.func49, Try.ntmps49
    go_wp2_with fail
    refine (HCT.out _ HA.out).mono ?_
    rintro e w1 ⟨rfl, hb1⟩
    have HB1 := hide hb1
    clear hb1
    go_wp2_with fail
    go_ret2
    exact ⟨rfl, HB1.out⟩
end Go.Proofs.Ytidcpocfdppobaa
