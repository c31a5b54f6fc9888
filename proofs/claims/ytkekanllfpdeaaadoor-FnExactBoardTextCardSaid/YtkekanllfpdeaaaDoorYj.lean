/-
  Texts of boards: numbers with a sign between them.
-/
import Derived.Test.YtkekanllfpdeaaaDoorYp
import Derived.Test.YtkekanllfpdeaaaDoorPast
import Derived.Test.YtkekanllfpdeaaaDoorSh
namespace Go.Proofs.YtkekanllfpdeaaaDoor
open Go.RowKit
set_option linter.unusedVariables false

theorem dec_same : ((List.range 100).all fun i => decide (Lib.decDigits i = decL (i : Int))) = true := by decide +kernel
theorem format_any (n : Int) (h1 : 0 ≤ n) (h2 : n < 100) (W : World) : Calls Tryd.prog 61 #[.int .i64 n, .int .i64 10] W fun e W' => e = .returned (.string ⟨(decL n).toArray⟩) ∧ W' = W := by
  obtain ⟨i, rfl⟩ : ∃ i : Nat, n = i := ⟨n.toNat, by omega⟩
  have h := dec_same
  rw [List.all_eq_true] at h
  have h3 := of_decide_eq_true (h i (List.mem_range.2 (by omega)))
  rw [← h3]
  exact Tryd.strconv_FormatInt_10_small i (by omega) W

def wrS (l : List Int) (k : Nat) : Nat → Value := fun i => if i < k then .string ⟨(decL (l[i]?.getD 0)).toArray⟩ else .string ⟨#[]⟩
theorem wrS_set {w : World} {b n : Nat} {t : TypeId} {l : List Int} {k : Nat} {z : Int} (h : w.rowIs b t n (wrS l k)) (hz : l[k]? = some z) :
    (w.setCell ⟨b, k, none⟩ (.string ⟨(decL z).toArray⟩)).rowIs b t n (wrS l (k + 1)) := by
  refine (h.set k (.string ⟨(decL z).toArray⟩)).congr ?_
  intro i _
  unfold wrS
  by_cases e : i = k
  · subst e; simp [hz]
  · simp only [e, if_false]
    by_cases h1 : i < k
    · rw [if_pos h1, if_pos (by omega)]
    · rw [if_neg h1, if_neg (by omega)]

set_option maxRecDepth 100000 in
set_option maxHeartbeats 4000000 in
theorem joinN_any (sg : UInt8) (a : Option Addr) (c : Nat) (l : List Int) (W : World) (ha : IntsAt W a l) (hm : ∀ x ∈ l, 0 ≤ x ∧ x < 100) (h8 : l.length ≤ 16) :
    Calls Tryd.prog 59 #[.slice a l.length c, .string ⟨#[sg]⟩] W (RetB (.string ⟨(jn sg l).toArray⟩) W) := by
  obtain ⟨n, hn⟩ : ∃ n, n = l.length := ⟨_, rfl⟩
  rw [← hn] at h8 ⊢
  have HN := hide hn
  have HM := hide hm
  have HA := hide ha
  have hmk := run_make_row' (P := Tryd.prog) 74 9 (.string ⟨#[]⟩) 16 Tryd.underlying74 (by kernel_rfl) rfl .i64 .i64 n (by omega) (by omega)
  have h0 := World.rowIs_made W (.string ⟨#[]⟩) n 9
  have hB0 : Below W.heap.size W (W.alloc (.cells (madeCells #[.string ⟨#[]⟩] n) 9)) := below_alloc _ _
  have H0 := hide h0
  have HB0 := hide hB0
  obtain ⟨r, hr⟩ : ∃ r, r = jn sg l := ⟨_, rfl⟩
  rw [← hr]
  have HR := hide hr
  clear hn hm ha h0 hB0 hr
  go_enter Tryd.func59, Tryd.ntmps59
  go_wp2_with fail
  go_loopg [13] n (fun g i wr => ∃ k : Nat, k + g = n ∧ i = .int .i64 k ∧ wr.rowIs W.heap.size 9 n (wrS l k) ∧ Below W.heap.size W wr)
  case atStart => exact ⟨0, by omega, rfl, H0.out.congr (fun i _ => by simp [wrS]), HB0.out⟩
  case round =>
    clear H0 HB0
    obtain ⟨k, hk, rfl, hrow, hB⟩ := hrel
    have HROW := hide hrow
    have HB := hide hB
    cases gk with
    | zero =>
      obtain rfl : k = n := by omega
      have hj := Tryd.strings_Join W.heap.size 0 k (l.map fun x => ⟨(decL x).toArray⟩) ⟨#[sg]⟩ wr (fun j x hx => by
        have hjl := (List.getElem?_eq_some_iff.1 hx).1
        rw [List.length_map] at hjl
        rw [List.getElem?_map, List.getElem?_eq_getElem hjl] at hx
        simp only [Option.map_some, Option.some.injEq] at hx
        subst hx
        rw [Nat.zero_add, hrow.cell (by rw [HN.out]; exact hjl)]
        unfold wrS
        rw [if_pos (by rw [HN.out]; exact hjl), List.getElem?_eq_getElem hjl]
        rfl) hrow.lt (by rw [List.length_map, ← HN.out]; omega) (by rw [List.length_map, ← HN.out]; exact Nat.le_refl _) (by
        have h1 : (l.map fun x => (⟨(decL x).toArray⟩ : ByteArray)).map (·.data.toList) = l.map decL := by rw [List.map_map]; exact List.map_congr_left (fun x _ => rfl)
        rw [h1]
        have h2 := jn_le sg l
        unfold jn jw at h2
        show (Lib.join (l.map decL) [sg]).length ≤ _
        have := HN.out
        omega)
      have h1 : (l.map fun x => (⟨(decL x).toArray⟩ : ByteArray)).map (·.data.toList) = l.map decL := by rw [List.map_map]; exact List.map_congr_left (fun x _ => rfl)
      rw [h1, List.length_map, ← HN.out] at hj
      have HJ := hide hj
      clear hj h1 hrow hB
      go_wp2_with fail
      refine HJ.out.mono ?_
      rintro e w5 ⟨rfl, hb5⟩
      have hfin : Hid (RetB (.string ⟨r.toArray⟩) W (.returned (.string ⟨(Lib.join (l.map decL) (⟨#[sg]⟩ : ByteArray).data.toList).toArray⟩)) w5) := hide ⟨by rw [HR.out]; rfl, Below.trans' HB.out hb5⟩
      obtain ⟨q, hq⟩ : ∃ q, q = Lib.join (l.map decL) (⟨#[sg]⟩ : ByteArray).data.toList := ⟨_, rfl⟩
      rw [← hq] at hfin ⊢
      clear hb5 hq
      go_wp2_with fail
      refine bodyPost_ret (v := .string ⟨q.toArray⟩) (by simp [results, Tryd.results59, go_sem]) rfl hfin.out
    | succ g2 =>
      have hkl : k < l.length := by rw [← HN.out]; omega
      obtain ⟨b, off, z, e0, hcell, hz⟩ := (HA.out.keep hB).one hkl
      subst e0
      have hzb := HM.out z (List.mem_of_getElem? hz.out)
      have hf := hide (format_any z (by omega) (by omega))
      have hce := hrow.cell (show k < n by omega)
      have hfr := hrow.frozen k
      have hn2 := hide (wrS_set hrow hz.out)
      have hB2 := hide (hB.setCell (p := ⟨W.heap.size, k, none⟩) (Nat.le_refl _) (.string ⟨(decL z).toArray⟩))
      obtain ⟨D, hD⟩ : ∃ D, D = decL z := ⟨_, rfl⟩
      rw [← hD] at hf hn2 hB2
      clear hrow hB hzb hD
      go_wp2_with fail
      refine (hf.out _).mono ?_
      rintro e w5 ⟨rfl, hw5⟩
      subst hw5
      go_wp2_with fail
      go_roundg g2
      case rel => exact ⟨k + 1, by omega, by go_num, hn2.out, hB2.out⟩
      case measure => omega
end Go.Proofs.YtkekanllfpdeaaaDoor
