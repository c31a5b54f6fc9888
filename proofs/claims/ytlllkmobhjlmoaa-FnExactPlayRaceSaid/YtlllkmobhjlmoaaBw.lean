/-
  WeightOf: both texts.
-/
import Derived.Test.YtlllkmobhjlmoaaBl
namespace Go.Proofs.Ytlllkmobhjlmoaa
open Go.RowKit
set_option linter.unusedVariables false

def wt1 (n l : Int) : Int := 2 ^ (n - ones l).toNat
def wts (n : Int) : List Int → Int
  | [] => 0
  | l :: r => wt1 n l + wts n r
def wtR (n : Int) (cs : List Int) : Int × Int := if okB n cs = true then (wts n cs, 0) else (0, 1)
theorem onesK_sub {x : Int} {m : Nat} (h0 : 0 ≤ x) (h1 : x < 2 ^ m) : ∀ k, onesK k x ≤ m ∧ (k ≤ m → onesK k x ≤ k)
  | 0 => by simp [onesK]
  | k + 1 => by
    obtain ⟨i1, i2⟩ := onesK_sub h0 h1 k
    have hd := dg_01 x k
    simp only [onesK]
    refine ⟨?_, fun h => by have := i2 (by omega); omega⟩
    by_cases hk : k < m
    · have := i2 (by omega); omega
    · have := dg_of_free (drawn_big h0 h1 (i := k) (by omega))
      omega
theorem ones_le_n {n l : Int} (hn : 1 ≤ n ∧ n ≤ 16) (h0 : 0 ≤ l) (h1 : l < 2 ^ n.toNat) : ones l ≤ n := by
  have := (onesK_sub h0 h1 16).1
  unfold ones
  omega
theorem wt1_range {n l : Int} (hn : 1 ≤ n ∧ n ≤ 16) : 0 ≤ wt1 n l ∧ wt1 n l ≤ 65536 := by
  have h := ones_range l
  exact pow_65536 (n := n - ones l) (by omega)
theorem wts_range {n : Int} (hn : 1 ≤ n ∧ n ≤ 16) : ∀ cs : List Int, 0 ≤ wts n cs ∧ wts n cs ≤ 65536 * cs.length
  | [] => by simp [wts]
  | l :: r => by
    have := wts_range hn r
    have := wt1_range (l := l) hn
    simp only [wts, List.length_cons]
    omega
theorem wts_app (n : Int) : ∀ (a b : List Int), wts n (a ++ b) = wts n a + wts n b
  | [], b => by simp [wts]
  | l :: r, b => by rw [List.cons_append, wts, wts, wts_app n r b]; omega
theorem wts_take {n : Int} {cs : List Int} {k : Nat} {z : Int} (h : cs[k]? = some z) : wts n (cs.take (k + 1)) = wts n (cs.take k) + wt1 n z := by
  rw [List.take_add_one, h, wts_app]
  simp [wts]

set_option maxRecDepth 100000 in
set_option maxHeartbeats 4000000 in
theorem implWt_any (n : Int) (a : Option Addr) (c : Nat) (cs : List Int) (W : World) (ha : IntsAt W a cs) (hl : cs.length ≤ 1048576) :
    Calls Try.prog 27 #[.agg #[.int .i64 n, .slice a cs.length c]] W (RetB (.tuple #[.int .i64 (wtR n cs).1, .int .i64 (wtR n cs).2]) W) := by
  obtain ⟨W0, hW0⟩ : ∃ W0, W0 = W.alloc (.cells #[.int .i64 n, .slice a cs.length c] 27) := ⟨_, rfl⟩
  have hB0 : Hid (Below W.heap.size W W0) := by rw [hW0]; exact hide (below_alloc _ _)
  have hX0 : Hid (HexIn W0 W.heap.size n a cs.length c) := by rw [hW0]; exact hide (hexIn_new _ _ _ _ _ _)
  have hA0 := hide (ha.keep hB0.out)
  obtain ⟨c0, c1⟩ := hX0.out
  clear ha
  cases hok : okB n cs
  · have HR : Hid (wtR n cs = (0, 1)) := hide (by simp [wtR, hok])
    have HOK := hide hok
    rw [HR.out]
    clear hok
    go_enter Try.func27, Try.ntmps27
    go_wp2_with fail
    rw [← hW0]
    clear hW0
    refine (implIs_is HOK.out hA0.out hl).mono ?_
    rintro e w1 ⟨rfl, hb1⟩
    have hB1 := hide (Below.trans' hB0.out hb1)
    clear hb1
    go_wp2_with fail
    go_ret2
    exact ⟨rfl, hB1.out⟩
  · obtain ⟨hn, hk100, _⟩ := okB_parts hok
    have hn' := hn
    obtain ⟨n1, n16⟩ := hn
    have HOK := hide hok
    have HR : Hid (wtR n cs = (wts n cs, 0)) := hide (by simp [wtR, hok])
    rw [HR.out]
    obtain ⟨f, hf⟩ : ∃ f : Nat → Int, f = fun k => wts n (cs.take k) := ⟨_, rfl⟩
    have HF0 : Hid (f 0 = 0) := hide (by rw [hf]; simp [wts])
    have HFS : Hid (∀ k z, cs[k]? = some z → f (k + 1) = f k + wt1 n z) := hide (fun k z h => by rw [hf]; exact wts_take h)
    have HFN : Hid (wts n cs = f cs.length) := hide (by rw [hf]; show _ = wts n (cs.take cs.length); rw [List.take_length])
    have HFR : Hid (∀ k, 0 ≤ f k ∧ f k ≤ 6553600) := hide (fun k => by
      rw [hf]
      have h1 := wts_range hn' (cs.take k)
      have h2 : (cs.take k).length ≤ cs.length := by rw [List.length_take]; omega
      dsimp only
      omega)
    rw [HFN.out]
    clear hok hf
    go_enter Try.func27, Try.ntmps27
    go_wp2_with fail
    rw [← hW0]
    clear hW0
    refine (implIs_is HOK.out hA0.out hl).mono ?_
    rintro e w1 ⟨rfl, hb1⟩
    have hB1 := hide (Below.trans' hB0.out hb1)
    have hX1 := hide (hX0.out.keep hb1)
    have hA1 := hide (hA0.out.keep hb1)
    clear hb1 c0 c1
    obtain ⟨c0, c1⟩ := hX1.out
    go_wp2_with fail
    clear c0 c1
    go_loopw [4, 13] (fun v i wr => ∃ k : Nat, k ≤ cs.length ∧ i = .int .i64 k ∧ v = .int .i64 (f k) ∧ Below w1.heap.size w1 wr) (fun _ i _ => cs.length - (intOf i).toNat)
    case atStart => exact ⟨0, Nat.zero_le _, rfl, by rw [HF0.out], Below.refl _ _⟩
    case round =>
      obtain ⟨k, hk, rfl, rfl, hB⟩ := hrel
      obtain ⟨f0, f1⟩ := HFR.out k
      by_cases hlt : k < cs.length
      · obtain ⟨b, off, z, rfl, hcell, hz⟩ := (hA1.out.keep hB).one hlt
        obtain ⟨z0, z1, z2⟩ := okB_mem HOK.out (mem_of_get hz.out)
        have hon := ones_le_n ⟨n1, n16⟩ (by omega) z1
        have honr := ones_range z
        have hS := hide (HFS.out k z hz.out)
        obtain ⟨x, hx⟩ : ∃ x, x = f k := ⟨_, rfl⟩
        obtain ⟨y, hy⟩ : ∃ y, y = ones z := ⟨_, rfl⟩
        obtain ⟨t, ht⟩ : ∃ t, t = wt1 n z := ⟨_, rfl⟩
        have ht2 := wt1_range (n := n) (l := z) ⟨n1, n16⟩
        have hpw : wrap64 ((2 : Int) ^ (n - y).toNat) = t := by rw [ht, hy]; exact shl_16 (by omega)
        have hpw2 : (2 : Int) ^ (n - y).toNat = t := by rw [ht, hy]; rfl
        have HC : Hid (∀ V : World, Calls Try.prog 57 #[.int .i64 z] V (RetB (.int .i64 y) V)) := hide (fun V => by rw [hy]; exact countNodes_any z (by omega) z2 V)
        rw [← hx] at f0 f1 ⊢
        rw [← ht] at ht2
        rw [← hy] at hon honr
        have HS : Hid (f (k + 1) = x + t) := hide (by rw [hS.out, ← hx, ← ht])
        have c0 := (hX1.out.keep hB).1
        have q0 : ∀ p : Past wr, p.to.cell? ⟨W.heap.size, 0, none⟩ = some (.int .i64 n) := fun p => p.cell c0
        have HB := hide hB
        obtain ⟨t0, t1⟩ := ht2
        obtain ⟨y0, y1⟩ := honr
        clear hB hx hy ht hS hz z1 c0
        go_wp2_with fail
        refine wp_region_past (by kernel_rfl) (by kernel_rfl) ?_
        repeat (first | go_big_quiet_step ((go_at_call 57; (with_reducible exact ret_past (HC.out _)))) | quiet_step ((go_at_call 57; (with_reducible exact ret_past (HC.out _)))))
        refine wpQuiet_nil ?_
        rintro _ ⟨pq, rfl⟩
        have hB2 := hide (Below.trans' HB.out pq.old)
        clear q0 hcell hpw hpw2
        go_wp2_with fail
        go_roundw
        case rel => exact ⟨k + 1, by omega, by go_num, by rw [HS.out], hB2.out⟩
        case measure => simp [intOf]; omega
      · obtain rfl : k = cs.length := by omega
        have hB2 := hide (Below.trans' hB1.out hB)
        clear hB
        go_wp2_with fail
        go_ret2
        exact ⟨rfl, hB2.out⟩

set_option maxRecDepth 100000 in
set_option maxHeartbeats 4000000 in
theorem l07Weight_any (n : Int) (a : Option Addr) (c : Nat) (cs : List Int) (hok : okB n cs = true) (W : World) (ha : IntsAt W a cs) :
    Calls Try.prog 56 #[.agg #[.int .i64 n, .slice a cs.length c]] W (RetB (.int .i64 (wts n cs)) W) := by
  obtain ⟨W0, hW0⟩ : ∃ W0, W0 = W.alloc (.cells #[.int .i64 n, .slice a cs.length c] 27) := ⟨_, rfl⟩
  have hB0 : Hid (Below W.heap.size W W0) := by rw [hW0]; exact hide (below_alloc _ _)
  have hX0 : Hid (HexIn W0 W.heap.size n a cs.length c) := by rw [hW0]; exact hide (hexIn_new _ _ _ _ _ _)
  have hA0 := hide (ha.keep hB0.out)
  obtain ⟨hn, hk100, _⟩ := okB_parts hok
  have hn' := hn
  obtain ⟨n1, n16⟩ := hn
  have HOK := hide hok
  obtain ⟨f, hf⟩ : ∃ f : Nat → Int, f = fun k => wts n (cs.take k) := ⟨_, rfl⟩
  have HF0 : Hid (f 0 = 0) := hide (by rw [hf]; simp [wts])
  have HFS : Hid (∀ k z, cs[k]? = some z → f (k + 1) = f k + wt1 n z) := hide (fun k z h => by rw [hf]; exact wts_take h)
  have HFN : Hid (wts n cs = f cs.length) := hide (by rw [hf]; show _ = wts n (cs.take cs.length); rw [List.take_length])
  have HFR : Hid (∀ k, 0 ≤ f k ∧ f k ≤ 6553600) := hide (fun k => by
    rw [hf]
    have h1 := wts_range hn' (cs.take k)
    have h2 : (cs.take k).length ≤ cs.length := by rw [List.length_take]; omega
    dsimp only
    omega)
  rw [HFN.out]
  clear hok hf ha
  go_enter Try.func56, Try.ntmps56
  go_wp2_with fail
  rw [← hW0]
  clear hW0
  (try go_wp2_with fail)
  go_loopw [3, 4] (fun v i wr => ∃ k : Nat, k ≤ cs.length ∧ i = .int .i64 k ∧ v = .int .i64 (f k) ∧ Below W0.heap.size W0 wr) (fun _ i _ => cs.length - (intOf i).toNat)
  case atStart => exact ⟨0, Nat.zero_le _, rfl, by rw [HF0.out], Below.refl _ _⟩
  case round =>
    obtain ⟨k, hk, rfl, rfl, hB⟩ := hrel
    obtain ⟨f0, f1⟩ := HFR.out k
    obtain ⟨c0, c1⟩ := hX0.out.keep hB
    by_cases hlt : k < cs.length
    · obtain ⟨b, off, z, rfl, hcell, hz⟩ := (hA0.out.keep hB).one hlt
      obtain ⟨z0, z1, z2⟩ := okB_mem HOK.out (mem_of_get hz.out)
      have hon := ones_le_n ⟨n1, n16⟩ (by omega) z1
      have honr := ones_range z
      have hS := hide (HFS.out k z hz.out)
      obtain ⟨x, hx⟩ : ∃ x, x = f k := ⟨_, rfl⟩
      obtain ⟨y, hy⟩ : ∃ y, y = ones z := ⟨_, rfl⟩
      obtain ⟨t, ht⟩ : ∃ t, t = wt1 n z := ⟨_, rfl⟩
      have ht2 := wt1_range (n := n) (l := z) ⟨n1, n16⟩
      have hpw : wrap64 ((2 : Int) ^ (n - y).toNat) = t := by rw [ht, hy]; exact shl_16 (by omega)
      have hpw2 : (2 : Int) ^ (n - y).toNat = t := by rw [ht, hy]; rfl
      have HC : Hid (∀ V : World, Calls Try.prog 58 #[.int .i64 z] V (RetB (.int .i64 y) V)) := hide (fun V => by rw [hy]; exact l07Ones_any z (by omega) z2 V)
      rw [← hx] at f0 f1 ⊢
      rw [← ht] at ht2
      rw [← hy] at hon honr
      have HS : Hid (f (k + 1) = x + t) := hide (by rw [hS.out, ← hx, ← ht])
      have q0 : ∀ p : Past wr, p.to.cell? ⟨W.heap.size, 0, none⟩ = some (.int .i64 n) := fun p => p.cell c0
      have q1 : ∀ p : Past wr, p.to.cell? ⟨W.heap.size, 1, none⟩ = some (.slice (some ⟨b, off, none⟩) cs.length c) := fun p => p.cell c1
      have qz : ∀ p : Past wr, p.to.cell? ⟨b, off + k, none⟩ = some (.int .i64 z) := fun p => p.cell hcell
      have HB := hide hB
      obtain ⟨t0, t1⟩ := ht2
      obtain ⟨y0, y1⟩ := honr
      have hku := u64_small (k := n - y) (by omega) (by omega)
      clear hB hx hy ht hS hz z1 c0 hcell
      go_wp2_with fail
      refine wp_region_past (by kernel_rfl) (by kernel_rfl) ?_
      repeat (first | go_big_quiet_step ((go_at_call 58; (with_reducible exact ret_past (HC.out _)))) | quiet_step ((go_at_call 58; (with_reducible exact ret_past (HC.out _)))))
      refine wpQuiet_nil ?_
      rintro _ ⟨pq, rfl⟩
      have hB2 := hide (Below.trans' HB.out pq.old)
      clear q0 q1 qz hpw hpw2 hku c1
      go_wp2_with fail
      go_roundw
      case rel => exact ⟨k + 1, by omega, by go_num, by rw [HS.out], hB2.out⟩
      case measure => simp [intOf]; omega
    · obtain rfl : k = cs.length := by omega
      have hB2 := hide (Below.trans' hB0.out hB)
      clear hB
      go_wp2_with fail
      go_ret
      exact ⟨rfl, hB2.out⟩

set_option maxRecDepth 100000 in
set_option maxHeartbeats 1000000 in
theorem specWt_any (n : Int) (a : Option Addr) (c : Nat) (cs : List Int) (W : World) (ha : IntsAt W a cs) (hl : cs.length ≤ 1048576) :
    Calls Try.prog 26 #[.agg #[.int .i64 n, .slice a cs.length c]] W (RetB (.tuple #[.int .i64 (wtR n cs).1, .int .i64 (wtR n cs).2]) W) := by
  obtain ⟨W0, hW0⟩ : ∃ W0, W0 = W.alloc (.cells #[.int .i64 n, .slice a cs.length c] 27) := ⟨_, rfl⟩
  have hB0 : Hid (Below W.heap.size W W0) := by rw [hW0]; exact hide (below_alloc _ _)
  have hX0 : Hid (HexIn W0 W.heap.size n a cs.length c) := by rw [hW0]; exact hide (hexIn_new _ _ _ _ _ _)
  have hA0 := hide (ha.keep hB0.out)
  obtain ⟨c0, c1⟩ := hX0.out
  clear ha
  cases hok : okB n cs
  · have HR : Hid (wtR n cs = (0, 1)) := hide (by simp [wtR, hok])
    have HOK := hide hok
    rw [HR.out]
    clear hok
    go_enter Try.func26, Try.ntmps26
    go_wp2_with fail
    rw [← hW0]
    clear hW0
    refine (l07Is_is HOK.out hA0.out hl).mono ?_
    rintro e w1 ⟨rfl, hb1⟩
    have hB1 := hide (Below.trans' hB0.out hb1)
    clear hb1
    go_wp2_with fail
    go_ret2
    exact ⟨rfl, hB1.out⟩
  · have HOK := hide hok
    have HR : Hid (wtR n cs = (wts n cs, 0)) := hide (by simp [wtR, hok])
    rw [HR.out]
    clear hok
    go_enter Try.func26, Try.ntmps26
    go_wp2_with fail
    rw [← hW0]
    clear hW0
    refine (l07Is_is HOK.out hA0.out hl).mono ?_
    rintro e w1 ⟨rfl, hb1⟩
    have hB1 := hide (Below.trans' hB0.out hb1)
    have hX1 := hide (hX0.out.keep hb1)
    have hA1 := hide (hA0.out.keep hb1)
    clear hb1 c0 c1
    obtain ⟨c0, c1⟩ := hX1.out
    go_wp2_with fail
    refine (l07Weight_any n a c cs HOK.out _ hA1.out).mono ?_
    rintro e w2 ⟨rfl, hb2⟩
    have hB2 := hide (Below.trans' hB1.out hb2)
    clear hb2
    go_wp2_with fail
    go_ret2
    exact ⟨rfl, hB2.out⟩
end Go.Proofs.Ytlllkmobhjlmoaa
