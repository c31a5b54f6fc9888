/-
  The laws' marks on lists of texts: markText, markStringS.
-/
import Derived.Test.YtmoekjgnichgnaaDoorTc
import Derived.Test.YtmoekjgnichgnaaDoorBut
import Derived.Test.YtmoekjgnichgnaaDoorMk
import Derived.Laws.IdiomStrings
namespace Go.Proofs.YtmoekjgnichgnaaDoor
open Go.RowKit
set_option linter.unusedVariables false

theorem pow_step {i : Int} {d : Nat} (h0 : 0 < i) (h : i < 10 ^ d) : ∃ e, d = e + 1 ∧ i / 10 < 10 ^ e := by
  cases d with
  | zero => simp at h; omega
  | succ e => exact ⟨e, rfl, by rw [Int.pow_succ] at h; omega⟩
theorem one_bytes (d : Int) (h0 : 0 ≤ d) (h1 : d ≤ 255) (V : World) : (convert 106 9 (.slice (some ⟨V.heap.size, 0, none⟩) 1 1)).run Tryd.prog (V.alloc (.cells #[.int .u8 d] 5)) = .ok (.string ⟨#[UInt8.ofNat d.toNat]⟩) (V.alloc (.cells #[.int .u8 d] 5)) := by
  have h := run_convert_bytes_back (P := Tryd.prog) (V.alloc (.cells #[.int .u8 d] 5)) 106 9 5 ⟨V.heap.size, 0, none⟩ 1 [UInt8.ofNat d.toNat] Tryd.underlying106 Tryd.underlying5 Tryd.underlying9 (fun j hj => by
    obtain rfl : j = 0 := by simp at hj; omega
    have e : ((UInt8.ofNat d.toNat).toNat : Int) = d := by
      rw [UInt8.toNat_ofNat']
      omega
    rw [cell_one_new]
    simp
    omega)
  simpa using h

set_option maxRecDepth 100000 in
set_option maxHeartbeats 2000000 in
theorem markText_any (k : Int) (hk0 : 0 ≤ k) (hk1 : k ≤ 4398046511104) (W : World) :
    Calls Tryd.prog 63 #[.int .i64 k] W fun e w' => (∃ s : ByteArray, e = .returned (.string s)) ∧ Below W.heap.size W w' := by
  by_cases hz : k ≤ 0
  · go_enter Tryd.func63, Tryd.ntmps63
    go_wp2_with fail
    go_ret
    exact ⟨⟨_, rfl⟩, Below.refl _ _⟩
  go_enter Tryd.func63, Tryd.ntmps63
  go_wp2_with fail
  go_loopw [0, 3] (fun i t wr => ∃ (n : Int) (d : Nat) (s : ByteArray), i = .int .i64 n ∧ t = .string s ∧ 0 ≤ n ∧ n ≤ 4398046511104 ∧ n < 10 ^ d ∧ s.size + d ≤ 30 ∧ Below W.heap.size W wr) (fun i _ _ => (intOf i).toNat)
  case atStart => exact ⟨k, 13, _, rfl, rfl, hk0, hk1, by omega, (by show 0 + 13 ≤ 30; omega), Below.refl _ _⟩
  case round =>
    obtain ⟨n, d, s, rfl, rfl, hn0, hn1, hd, hs, hb⟩ := hrel
    by_cases hlt : 0 < n
    · obtain ⟨e, rfl, he⟩ := pow_step hlt hd
      obtain ⟨q, hq⟩ : ∃ q, q = n / 10 := ⟨_, rfl⟩
      obtain ⟨r, hr⟩ : ∃ r, r = n % 10 := ⟨_, rfl⟩
      have hqw : n.tdiv 10 = q := by rw [hq]; exact Int.tdiv_eq_ediv_of_nonneg hn0
      have hrw : n.tmod 10 = r := by rw [hr]; exact Int.tmod_eq_emod_of_nonneg hn0
      have hq0 : 0 ≤ q ∧ q < n := by omega
      have hr0 : 0 ≤ r ∧ r ≤ 9 := by omega
      rw [← hq] at he
      clear hq hr
      have hcv := one_bytes (48 + r) (by omega) (by omega) wr
      obtain ⟨b, hbd⟩ : ∃ b : ByteArray, b = ⟨#[UInt8.ofNat (48 + r).toNat]⟩ := ⟨_, rfl⟩
      have hbs : b.size = 1 := by rw [hbd]; rfl
      rw [← hbd] at hcv
      have hadd : ∀ V : World, (Op.stringOp .add b s).run Tryd.prog V = .ok (.string (b ++ s)) V := fun V => run_string_add_sum V _ _ (by omega)
      have hbs2 : (b ++ s).size + e ≤ 30 := by rw [ByteArray.size_append]; omega
      have HB := hide (hb.alloc (by have := hb.size; omega) (.cells #[.int .u8 (48 + r)] 5))
      clear hb hd hbd
      go_wp2_with fail
      go_roundw
      case rel => exact ⟨q, e, _, rfl, rfl, by omega, by omega, he, hbs2, HB.out⟩
      case measure => simp [intOf]; omega
    · have hadd : ∀ V : World, (Op.stringOp .add ⟨#[109]⟩ s).run Tryd.prog V = .ok (.string (⟨#[109]⟩ ++ s)) V := fun V => run_string_add_sum V _ _ (by show 1 + s.size ≤ _; omega)
      have HB := hide hb
      clear hb
      go_wp2_with fail
      go_ret
      exact ⟨⟨_, rfl⟩, HB.out⟩

set_option maxRecDepth 100000 in
set_option maxHeartbeats 2000000 in
theorem markStringS_any (b n c : Nat) (k : Int) (cur : Array Value) (W : World) (hb : W.heap[b]? = some (.cells cur 9 (0, 0))) (hcu : n ≤ cur.size) (hn : n ≤ 1048576) (hk0 : 0 ≤ k) (hk1 : k ≤ 1048576) :
    Calls Tryd.prog 27 #[.slice (some ⟨b, 0, none⟩) n c, .int .i64 k] W fun e w' => e = .returned (.int .i64 (k + n)) ∧ But b W w' := by
  go_enter Tryd.func27, Tryd.ntmps27
  go_wp2_with fail
  go_loopw [1, 5] (fun s i wr => ∃ (j : Nat) (cur' : Array Value), s = .int .i64 (k + j) ∧ j ≤ n ∧ i = .int .i64 j ∧ wr.heap[b]? = some (.cells cur' 9 (0, 0)) ∧ cur'.size = cur.size ∧ But b W wr) (fun _ i _ => n - (intOf i).toNat)
  case atStart => exact ⟨0, cur, by simp, Nat.zero_le _, rfl, hb, rfl, But.refl _ _⟩
  case round =>
    obtain ⟨j, cur', rfl, hj, rfl, hb', hc', hB⟩ := hrel
    by_cases hlt : j < n
    · have HB' := hide hb'
      have HB := hide hB
      clear hb hb' hB
      go_wp2_with fail
      refine (markText_any (k + j) (by omega) (by omega) _).mono ?_
      rintro e w1 ⟨⟨s, rfl⟩, hb1⟩
      have hr1 := box_keep HB'.out hb1
      obtain ⟨v, hcell⟩ : ∃ v, w1.cell? ⟨b, j, none⟩ = some v := by
        rw [cell_of_row w1 b j cur' _ (0, 0) hr1]
        exact ⟨_, Array.getElem?_eq_getElem (by omega)⟩
      have hfr : w1.frozen? ⟨b, j, none⟩ = false := frozen_of_row w1 b j cur' _ hr1
      have HR2 := hide (heap_setCell_same w1 b j cur' _ (.string s) hr1)
      have HB2 := hide ((HB.out.below hb1).set j (.string s))
      clear hb1 hr1
      go_wp2_with fail
      go_roundw
      case rel => exact ⟨j + 1, _, by go_num, by omega, by go_num, HR2.out, by simp [hc'], HB2.out⟩
      case measure => simp [intOf]; omega
    · obtain rfl : j = n := by omega
      have HB := hide hB
      clear hb hb' hB
      go_wp2_with fail
      go_ret
      exact ⟨rfl, HB.out⟩
end Go.Proofs.YtmoekjgnichgnaaDoor
