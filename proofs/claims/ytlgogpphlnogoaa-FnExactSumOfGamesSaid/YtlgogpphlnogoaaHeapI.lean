/-
  HeapGame: the program's text against the plain function.
-/
import Derived.Test.YtlgogpphlnogoaaListGame
import Derived.Test.YtlgogpphlnogoaaIsGame
import Derived.Test.YtlgogpphlnogoaaPlace
namespace Go.Proofs.Ytlgogpphlnogoaa
open Go.RowKit

/-- The moves from the place p of the heap of k: the first j of the numbers looked at. -/
def heapRow (k : Int) (L : List Int) (p : Nat) : List Int := (L.filter fun t => decide ((p : Int) + t ≤ k)).map fun t => (p : Int) + t
def heapRows (k : Int) (L : List Int) (n : Nat) : List (List Int) := (List.range n).map (heapRow k L)
theorem heapRows_succ (k : Int) (L : List Int) (n : Nat) : heapRows k L (n + 1) = heapRows k L n ++ [heapRow k L n] := by simp [heapRows, List.range_succ]
theorem heapRow_le (k : Int) (L : List Int) (p : Nat) : (heapRow k L p).length ≤ L.length := by
  unfold heapRow
  rw [List.length_map]
  exact List.length_filter_le _ _
theorem heapRows_flat (k : Int) (L : List Int) : ∀ n, (heapRows k L n).flatten.length ≤ n * L.length
  | 0 => by simp [heapRows]
  | n + 1 => by
    rw [heapRows_succ, List.flatten_append, List.length_append]
    have h1 := heapRows_flat k L n
    have h2 := heapRow_le k L n
    simp only [List.flatten_cons, List.flatten_nil, List.append_nil]
    rw [Nat.add_mul]
    omega
theorem heapRow_yes {k : Int} {L : List Int} {p j : Nat} {t : Int} (h : L[j]? = some t) (hk : (p : Int) + t ≤ k) : heapRow k (L.take (j + 1)) p = heapRow k (L.take j) p ++ [(p : Int) + t] := by
  unfold heapRow
  rw [List.take_add_one, h]
  simp [hk]
theorem heapRow_no {k : Int} {L : List Int} {p j : Nat} {t : Int} (h : L[j]? = some t) (hk : ¬ (p : Int) + t ≤ k) : heapRow k (L.take (j + 1)) p = heapRow k (L.take j) p := by
  unfold heapRow
  rw [List.take_add_one, h]
  simp [hk]

def heapOk (k : Int) (L : List Int) : Bool := decide (0 ≤ k) && decide (k ≤ 39) && ascB 1 39 L
def heapR (k : Int) (L : List Int) : List (List Int) × Int := if heapOk k L then (heapRows k L (k.toNat + 1), 0) else ([], 2)

/-- What a call hands back that has made a game of its own, and a code. -/
def NewLeavesC (r : List (List Int) × Int) (lo : Nat) (w : World) (e : Ending) (w' : World) : Prop :=
  ∃ a c ls, e = .returned (.tuple #[.agg #[.slice a r.1.length c], .int .i64 r.2]) ∧ GameLeaves w' lo a r.1 ls ∧ Below w.heap.size w w'

/-- The rows so far and the row under way. -/
def ListsOf (w : World) (lo Bx : Nat) (xss : List (List Int)) (cur : List Int) : Prop := Lists w lo Bx (xss.flatten ++ cur) (stopsOf xss)

theorem ListsOf.add {w : World} {lo Bx : Nat} {xss : List (List Int)} {cur : List Int} {x : Int} (h : Lists w lo Bx ((xss.flatten ++ cur) ++ [x]) (stopsOf xss)) : ListsOf w lo Bx xss (cur ++ [x]) := by
  unfold ListsOf
  rw [← List.append_assoc]
  exact h
theorem ListsOf.ended {w : World} {lo Bx : Nat} {xss : List (List Int)} {cur : List Int} (h : Lists w lo Bx (xss.flatten ++ cur) (stopsOf xss ++ [((xss.flatten ++ cur).length : Int)])) : ListsOf w lo Bx (xss ++ [cur]) [] := by
  unfold ListsOf
  rw [stopsOf_snoc]
  simpa using h
theorem Lists.empty {w : World} {Bx lo : Nat} (h : w.heap[Bx]? = some (.cells #[.slice none 0 0, .slice none 0 0] 70 (0, 0))) : ListsOf w lo Bx [] [] :=
  ⟨none, 0, none, 0, h, World.ownsRow_nil _ _ _ _, World.ownsRow_nil _ _ _ _⟩

set_option maxRecDepth 100000 in
set_option maxHeartbeats 4000000 in
theorem implHeap_any (a : Option Addr) (c : Nat) (k : Int) (L : List Int) (w : World) (ha : IntsAt w a L) (hl : L.length ≤ 1048576) :
    Calls Try.prog 28 #[.int .i64 k, .slice a L.length c] w (NewLeavesC (heapR k L) w.heap.size w) := by
  obtain ⟨r, hr⟩ : ∃ r, r = heapR k L := ⟨_, rfl⟩
  rw [← hr]
  unfold heapR at hr
  have hB0 : Below w.heap.size w (w.alloc (.cells #[.slice none 0 0] 29)) := (Below.refl _ _).alloc (Nat.le_refl _) _
  have hno : ∀ w', Below w.heap.size w w' → NewLeavesC ([], 2) w.heap.size w (.returned (.tuple #[.agg #[.slice none 0 0], .int .i64 2])) w' := fun w' h => ⟨none, 0, [], rfl, GameLeaves.nil _ _, h⟩
  have HNO := hide hno
  clear hno
  by_cases hk0 : k < 0
  · have e : heapOk k L = false := by unfold heapOk; rw [decide_eq_false (by omega)]; rfl
    rw [e] at hr
    obtain rfl : r = ([], 2) := by simpa using hr
    clear hr e
    go_enter Try.func28, Try.ntmps28
    go_wp2_with fail
    exact bodyPost_ret (v := .tuple #[.agg #[.slice none 0 0], .int .i64 2]) (by simp [results, Try.results28, go_sem]) rfl (HNO.out _ (by first | exact hB0 | exact (hB0.setCell (p := ⟨w.heap.size, 0, none⟩) (Nat.le_refl _) _)))
  · by_cases hk1 : k ≤ 39
    · obtain ⟨kn, rfl⟩ := Int.eq_ofNat_of_zero_le (show 0 ≤ k by omega)
      cases hasc : ascB 1 39 L
      · have e : heapOk (kn : Int) L = false := by unfold heapOk; rw [hasc]; simp
        rw [e] at hr
        obtain rfl : r = ([], 2) := by simpa using hr
        have HASC := hide hasc
        clear hr e hasc
        go_enter Try.func28, Try.ntmps28
        go_wp2_with fail
        refine (isAscendingIn_any _ _ L 1 39 _ (ha.keep hB0) hl (by decide) (by decide)).mono ?_
        rw [HASC.out]
        rintro e w1 ⟨rfl, hw1⟩
        have hB1 : Below (w.alloc (.cells #[.slice none 0 0] 29)).heap.size (w.alloc (.cells #[.slice none 0 0] 29)) w1 := by rw [← hw1]; exact Below.refl _ _
        clear hw1
        have hc1 : w1.cell? ⟨w.heap.size, 0, none⟩ = some (.slice none 0 0) := cell_keep hB1 (by simp [go_sem])
        have hf1 : w1.frozen? ⟨w.heap.size, 0, none⟩ = false := (hB1.frozen (p := ⟨w.heap.size, 0, none⟩) (by simp)).trans (by simp [go_sem])
        have hBf := Below.trans' hB0 hB1
        clear hB1
        go_wp2_with fail
        exact bodyPost_ret (v := .tuple #[.agg #[.slice none 0 0], .int .i64 2]) (by simp [results, Try.results28, go_sem, hc1]) rfl (HNO.out _ (by first | exact hBf | exact (hBf.setCell (p := ⟨w.heap.size, 0, none⟩) (Nat.le_refl _) _)))
      · have hok : heapOk (kn : Int) L = true := by unfold heapOk; rw [hasc, decide_eq_true (by omega), decide_eq_true hk1]; rfl
        rw [hok] at hr
        obtain rfl : r = (heapRows kn L (kn + 1), 0) := by simpa using hr
        have hL : L.length ≤ 39 := by have := ascB_len hasc; omega
        have hmem := hide (ascB_mem hasc)
        have HASC := hide hasc
        have hfl : ∀ p, p ≤ 40 → (heapRows kn L p).flatten.length ≤ 1560 := by
          intro p hp
          have h1 := heapRows_flat kn L p
          have h2 := Nat.mul_le_mul hp hL
          omega
        have HFL := hide hfl
        have hd39 : decide ((39 : Int) < (kn : Int)) = false := decide_eq_false (by omega)
        clear hr hok hasc hfl
        go_enter Try.func28, Try.ntmps28
        go_wp2_with fail
        refine (isAscendingIn_any _ _ L 1 39 _ (ha.keep hB0) hl (by decide) (by decide)).mono ?_
        rw [HASC.out]
        rintro e w1 ⟨rfl, hw1⟩
        have hB1 : Below (w.alloc (.cells #[.slice none 0 0] 29)).heap.size (w.alloc (.cells #[.slice none 0 0] 29)) w1 := by rw [← hw1]; exact Below.refl _ _
        clear hw1
        have hR1 : w1.heap[w.heap.size]? = some (.cells #[.slice none 0 0] 29 (0, 0)) := (hB1.block w.heap.size (by simp)).trans (heap_alloc_new w _)
        have hlt1 : w.heap.size < w1.heap.size := block_lt hR1
        have hBf := Below.trans' hB0 hB1
        clear hB1 hB0
        go_wp2_with fail
        have hB2 : Below w1.heap.size w1 (w1.alloc (.cells #[.slice none 0 0, .slice none 0 0] 70)) := (Below.refl _ _).alloc (Nat.le_refl _) _
        have hbx : (w1.alloc (.cells #[.slice none 0 0, .slice none 0 0] 70)).heap[w1.heap.size]? = some (.cells #[.slice none 0 0, .slice none 0 0] 70 (0, 0)) := heap_alloc_new w1 _
        have hs2 : (w1.alloc (.cells #[.slice none 0 0, .slice none 0 0] 70)).heap.size = w1.heap.size + 1 := by simp
        obtain ⟨W2, hW2⟩ : ∃ W2, W2 = w1.alloc (.cells #[.slice none 0 0, .slice none 0 0] 70) := ⟨_, rfl⟩
        rw [← hW2] at hB2 hbx hs2 ⊢
        have hL0 := hide (Lists.empty (lo := w1.heap.size + 1) hbx)
        have hBB := hBf.trans (hB2.mono (by omega))
        have hR2 := hide ((hB2.block w.heap.size hlt1).trans hR1)
        have hD0 := hide (Below.refl w1.heap.size W2)
        have hsz : w1.heap.size + 1 ≤ W2.heap.size := by omega
        clear hbx hW2 hs2 hR1 hB2 hBf
        go_loopw [24] (fun i wr => ∃ p : Nat, p ≤ kn + 1 ∧ i = .int .i64 p ∧ ListsOf wr (w1.heap.size + 1) w1.heap.size (heapRows kn L p) [] ∧ Below w1.heap.size W2 wr) (fun i _ => kn + 1 - (intOf i).toNat)
        case atStart => exact ⟨0, Nat.zero_le _, rfl, hL0.out, hD0.out⟩
        case round =>
          clear hL0 hD0
          obtain ⟨p, hp, rfl, hLp, hDp⟩ := hrel
          by_cases hlt : p < kn + 1
          · have hltd : decide ((p : Int) < (kn : Int) + 1) = true := decide_eq_true (by omega)
            have hLP := hide hLp
            have hDP := hide hDp
            clear hLp hDp
            go_wp2_with fail
            go_loopw [29] (fun i wr => ∃ j : Nat, j ≤ L.length ∧ i = .int .i64 j ∧ ListsOf wr (w1.heap.size + 1) w1.heap.size (heapRows kn L p) (heapRow kn (L.take j) p) ∧ Below w1.heap.size W2 wr) (fun i _ => L.length - (intOf i).toNat)
            case atStart => exact ⟨0, Nat.zero_le _, rfl, by have := hLP.out; simpa [heapRow] using this, hDP.out⟩
            case round =>
              clear hLP hDP
              obtain ⟨j, hj, rfl, hLj, hDj⟩ := hrel
              have hfp := HFL.out p (by omega)
              have hrl := heapRow_le kn (L.take j) p
              have hrj : (L.take j).length ≤ 39 := by simp; omega
              have hsj : w1.heap.size + 1 ≤ wr.heap.size := Nat.le_trans hsz hDj.size
              by_cases hjlt : j < L.length
              · obtain ⟨bz, oz, t, rfl, hct, htj⟩ := (ha.keep (hBB.trans (hDj.mono (by omega)))).one hjlt
                have htr := hmem.out t (mem_of_get htj.out)
                by_cases hle : (p : Int) + t ≤ kn
                · have hE := hide (heapRow_yes (p := p) htj.out hle)
                  have hrow : ((heapRows kn L p).flatten ++ heapRow kn (L.take j) p).length ≤ 1000000 := by rw [List.length_append]; omega
                  have hDJ := hide hDj
                  have hcall := hide (addMove_any (w1.heap.size + 1) w1.heap.size _ _ ((p : Int) + t) wr hLj (by omega) hrow hsj)
                  clear hDj hfp hrl hrj hrow hLj
                  go_wp2_with fail
                  refine hcall.out.mono ?_
                  rintro e w3 ⟨⟨v, rfl⟩, hL3, hD3⟩
                  have hN : Hid (ListsOf w3 (w1.heap.size + 1) w1.heap.size (heapRows kn L p) (heapRow kn (L.take (j + 1)) p) ∧ Below w1.heap.size W2 w3) := hide ⟨by rw [hE.out]; exact ListsOf.add hL3, hDJ.out.trans hD3⟩
                  clear hL3 hD3 hcall
                  go_wp2_with fail
                  go_roundw
                  case rel => first | exact ⟨j + 1, by omega, by go_num, hN.out.1, hN.out.2⟩ | ((repeat apply Exists.intro); exact ⟨⟨j + 1, by omega, by go_num, hN.out.1, hN.out.2⟩, rfl⟩)
                  case measure => simp [intOf]; omega
                · have hN : Hid (ListsOf wr (w1.heap.size + 1) w1.heap.size (heapRows kn L p) (heapRow kn (L.take (j + 1)) p) ∧ Below w1.heap.size W2 wr) := hide ⟨by rw [heapRow_no htj.out hle]; exact hLj, hDj⟩
                  clear hLj hDj hfp hrl hrj
                  go_wp2_with fail
                  go_roundw
                  case rel => exact ⟨j + 1, by omega, by go_num, hN.out.1, hN.out.2⟩
                  case measure => simp [intOf]; omega
              · obtain rfl : j = L.length := by omega
                rw [List.take_length] at hLj hrl hrj
                have hrow : ((heapRows kn L p).flatten ++ heapRow kn L p).length ≤ 1000000 := by rw [List.length_append]; omega
                have hst : (stopsOf (heapRows kn L p)).length ≤ 1000000 := by rw [stopsOf_length]; simp [heapRows]; omega
                have hDJ := hide hDj
                have hcall := hide (endPlace_any (w1.heap.size + 1) w1.heap.size _ _ wr hLj (by omega) hrow hst hsj)
                clear hDj hfp hrl hrj hrow hLj hst
                go_wp2_with fail
                refine hcall.out.mono ?_
                rintro e w3 ⟨⟨v, rfl⟩, hL3, hD3⟩
                have hN : Hid (ListsOf w3 (w1.heap.size + 1) w1.heap.size (heapRows kn L (p + 1)) [] ∧ Below w1.heap.size W2 w3) := hide ⟨by rw [heapRows_succ]; exact ListsOf.ended hL3, hDJ.out.trans hD3⟩
                clear hL3 hD3 hcall
                go_wp2_with fail
                go_roundw
                case rel => exact ⟨p + 1, by omega, by go_num, hN.out.1, hN.out.2⟩
                case measure => simp [intOf]; omega
          · obtain rfl : p = kn + 1 := by omega
            have hfp := HFL.out (kn + 1) (by omega)
            have hsj : w1.heap.size + 1 ≤ wr.heap.size := Nat.le_trans hsz hDp.size
            have hlen : (heapRows kn L (kn + 1)).length = kn + 1 := by simp [heapRows]
            have hLp' : Lists wr (w1.heap.size + 1) w1.heap.size (heapRows kn L (kn + 1)).flatten (stopsOf (heapRows kn L (kn + 1))) := by
              have := hLp
              unfold ListsOf at this
              rwa [List.append_nil] at this
            have hcall := hide (game_any (w1.heap.size + 1) w1.heap.size _ wr hLp' hsj (by rw [hlen]; omega) (by omega))
            have hRr := hide ((hDp.block w.heap.size hlt1).trans hR2.out)
            have hBr := hide (hBB.trans (hDp.mono (by omega)))
            have HLEN := hide hlen
            clear hLp hLp' hDp hfp hlen
            go_wp2_with fail
            refine hcall.out.mono ?_
            rintro e w3 ⟨a3, c3, ls, rfl, hg3, hB3⟩
            have hR3 := (hB3.block w.heap.size (by omega)).trans hRr.out
            have hc3 : w3.cell? ⟨w.heap.size, 0, none⟩ = some (.slice none 0 0) := by rw [cell_of_row w3 w.heap.size 0 _ _ (0, 0) hR3]; rfl
            have hf3 : w3.frozen? ⟨w.heap.size, 0, none⟩ = false := frozen_of_row w3 w.heap.size 0 _ _ hR3
            have hfin : Hid (NewLeavesC (heapRows kn L (kn + 1), 0) w.heap.size w (.returned (.tuple #[.agg #[.slice a3 (heapRows kn L (kn + 1)).length c3], .int .i64 0])) (w3.setCell ⟨w.heap.size, 0, none⟩ (.slice a3 (heapRows kn L (kn + 1)).length c3))) := by
              refine hide ⟨a3, c3, ls, rfl, ?_, ((hBr.out.trans (hB3.mono (by omega))).setCell (p := ⟨w.heap.size, 0, none⟩) (Nat.le_refl _) _)⟩
              exact (hg3.agree (fun b hb _ => Below.heap_setCell _ _ _ _ (by simp; omega))).mono (by omega)
            clear hg3 hB3 hR3 hcall
            go_wp2_with fail
            exact bodyPost_ret (v := .tuple #[.agg #[.slice a3 (heapRows kn L (kn + 1)).length c3], .int .i64 0]) (by simp [results, Try.results28, go_sem, hc3]) rfl hfin.out
    · have e : heapOk k L = false := by unfold heapOk; rw [decide_eq_false hk1]; simp
      rw [e] at hr
      obtain rfl : r = ([], 2) := by simpa using hr
      clear hr e
      go_enter Try.func28, Try.ntmps28
      go_wp2_with fail
      exact bodyPost_ret (v := .tuple #[.agg #[.slice none 0 0], .int .i64 2]) (by simp [results, Try.results28, go_sem]) rfl (HNO.out _ (by first | exact hB0 | exact (hB0.setCell (p := ⟨w.heap.size, 0, none⟩) (Nat.le_refl _) _)))
end Go.Proofs.Ytlgogpphlnogoaa
