/-
  Dots and boxes: gains of edges, and best edges, the program's text.
-/
import Derived.Test.YtincdnlinepcgabNi
namespace Go.Proofs.Ytincdnlinepcgab
open Go.RowKit Go.Maps
set_option linter.unusedVariables false

set_option maxRecDepth 100000 in
set_option maxHeartbeats 4000000 in
theorem gain_walk (c : Nat) (w h E e : Int) (b N : Nat) (W : World) (hb : okBox w h E = true) (he : e ∈ freeE w h E) (hK : Knows W b N) (hN : N + c ≤ 1000000000000)
    (hG : ∀ (N' : Nat) (W' : World), Knows W' b N' → N' + c ≤ 1000000000000 → Calls Try.prog 33 #[.agg #[.map (some b)], .agg #[.int .i64 w, .int .i64 h, .int .i64 (withE E e)]] W' (NetPost b (N' + c) (net w h (withE E e)) W')) :
    Calls Try.prog 56 #[.agg #[.map (some b)], .agg #[.int .i64 w, .int .i64 h, .int .i64 E], .int .i64 e] W (NetPost b (N + c) (gainW (net w h) w h E e) W) := by
  obtain ⟨e0, en, hdr⟩ := pre_mem he
  obtain ⟨m, hm, hm24⟩ := edges_nat hb
  have e24 : e < 24 := by omega
  obtain ⟨E1, E2⟩ := okBox_E hb
  have hbF := ok_with hb he
  have hnb := net_bd hbF
  have htr := takenTo_range w h E (withE E e) (w * h).toNat
  have hgw : gainW (net w h) w h E e = if 0 < takenBy w h E (withE E e) then takenBy w h E (withE E e) + net w h (withE E e) else - net w h (withE E e) := rfl
  obtain ⟨F, hF⟩ : ∃ F, F = withE E e := ⟨_, rfl⟩
  rw [← hF] at hbF hnb htr hgw hG
  obtain ⟨tk, htk⟩ : ∃ tk, tk = takenBy w h E F := ⟨_, rfl⟩
  obtain ⟨v, hv⟩ : ∃ v, v = net w h F := ⟨_, rfl⟩
  obtain ⟨g, hg⟩ : ∃ g, g = gainW (net w h) w h E e := ⟨_, rfl⟩
  have tk0 : 0 ≤ tk := by rw [htk]; exact htr.1
  obtain ⟨mb, hmb, hmb9⟩ := boxes_nat hb
  have tk9 : tk ≤ 9 := by
    have := htr.2
    have h2 : takenTo w h E F (w * h).toNat = tk := htk.symm
    omega
  rw [← hv] at hnb
  rw [← hg, ← htk, ← hv] at hgw
  rw [← hg]
  have HGW := hide hgw
  have HF := hide hF
  have HT := hide htk
  have HV := hide hv
  have HB := hide hb
  have HBF := hide hbF
  have HG := hide hG
  obtain ⟨v1, v2⟩ := hnb
  clear htr hgw hF htk hv hg hG hm hmb he en hdr
  obtain ⟨W0, hW0⟩ : ∃ W0, W0 = (W.alloc (.cells #[.map (some b)] 57)).alloc (.cells #[.int .i64 w, .int .i64 h, .int .i64 E] 26) := ⟨_, rfl⟩
  have hbel : Below W.heap.size W W0 := by rw [hW0]; exact (below_alloc _ _).alloc (by simp) _
  have hrows := alloc2_boxes W b w h E 57 26
  rw [← hW0] at hrows
  have hS0 := hide hrows.1
  have hX0 := hide hrows.2
  have K0 := hide (hK.keep hbel)
  have hB0 := hide hbel
  obtain ⟨c0, c1, c2⟩ := boxIn_of_row hX0.out
  clear hrows hbel hK
  go_enter Try.func56, Try.ntmps56
  go_wp2_with fail
  rw [← hW0]
  clear hW0
  go_wp2_with fail
  refine (withEdge_any w h E e E1 E2 e0 e24 _).mono ?_
  rw [← HF.out]
  rintro e1 w1 ⟨rfl, hb1⟩
  have hb1' := hb1.alloc hb1.size (.cells #[.int .i64 w, .int .i64 h, .int .i64 F] 26)
  have hX1 := hide (box_keep hX0.out hb1')
  have hS1 := hide (box_keep hS0.out hb1')
  have hY1 : Hid ((w1.alloc (.cells #[.int .i64 w, .int .i64 h, .int .i64 F] 26)).heap[w1.heap.size]? = some (.cells #[.int .i64 w, .int .i64 h, .int .i64 F] 26 (0, 0))) := hide (heap_alloc_new w1 _)
  have K1 := hide (K0.out.keep hb1')
  have hB1 := hide (Below.trans' hB0.out hb1')
  clear hb1 hb1' c0 c1 c2
  obtain ⟨c0, c1, c2⟩ := boxIn_of_row hX1.out
  obtain ⟨d0, d1, d2⟩ := boxIn_of_row hY1.out
  go_wp2_with fail
  refine (takenBy_any w h E F HB.out HBF.out _).mono ?_
  rw [← HT.out]
  rintro e1 w2 ⟨rfl, hb2⟩
  have hS2 := box_keep hS1.out hb2
  have hY2 := box_keep hY1.out hb2
  have K2 := hide (K1.out.keep hb2)
  have hB2 := hide (Below.trans' hB1.out hb2)
  clear hb2 c0 c1 c2 d0 d1 d2
  obtain ⟨d0, d1, d2⟩ := boxIn_of_row hY2
  have s0 : w2.cell? ⟨W.heap.size, 0, none⟩ = some (.map (some b)) := (cell_of_row _ _ 0 _ _ (0, 0) hS2).trans rfl
  clear hS2 hY2
  by_cases htp : 0 < tk
  · have hgv : Hid (g = tk + v) := hide (by rw [HGW.out, if_pos htp])
    go_wp2_with fail
    refine (HG.out _ _ K2.out hN).mono ?_
    rw [← HV.out]
    rintro e1 w3 ⟨rfl, hb3, hk3⟩
    have hfin : Hid (But b W w3 ∧ Knows w3 b (N + c)) := hide ⟨(But.of_below hB2.out).trans hb3, hk3⟩
    clear hb3 hk3 d0 d1 d2 s0
    go_wp2_with fail
    go_ret
    exact ⟨ret_int hgv.out.symm, hfin.out⟩
  · have hgv : Hid (g = - v) := hide (by rw [HGW.out, if_neg htp])
    go_wp2_with fail
    refine (HG.out _ _ K2.out hN).mono ?_
    rw [← HV.out]
    rintro e1 w3 ⟨rfl, hb3, hk3⟩
    have hfin : Hid (But b W w3 ∧ Knows w3 b (N + c)) := hide ⟨(But.of_below hB2.out).trans hb3, hk3⟩
    clear hb3 hk3 d0 d1 d2 s0
    go_wp2_with fail
    go_ret
    exact ⟨ret_int hgv.out.symm, hfin.out⟩

/-- netScore, by the number of edges that are free. -/
theorem netScore_any : ∀ (k : Nat) (w h E : Int) (b N : Nat) (W : World), okBox w h E = true → nfree w h E ≤ k → Knows W b N → N + calls k ≤ 1000000000000 →
    Calls Try.prog 33 #[.agg #[.map (some b)], .agg #[.int .i64 w, .int .i64 h, .int .i64 E]] W (NetPost b (N + calls k) (net w h E) W) := by
  intro k
  induction k with
  | zero =>
    intro w h E b N W hb hk hK hN
    have h0 : nfree w h E = 0 := by omega
    have := net_walk 0 w h E b N W hb hK (by simp [calls] at hN; omega) (fun e N' W' he => by
      have hl : freeE w h E = [] := List.eq_nil_of_length_eq_zero h0
      rw [hl] at he
      cases he)
    rw [h0] at this
    exact this
  | succ k ih =>
    intro w h E b N W hb hk hK hN
    have h1 : nfree w h E * calls k ≤ (k + 1) * calls k := Nat.mul_le_mul_right _ hk
    have hc : calls (k + 1) = 1 + (k + 1) * calls k := rfl
    have := net_walk (calls k) w h E b N W hb hK (by omega) (fun e N' W' he hK' hN' =>
      gain_walk (calls k) w h E e b N' W' hb he hK' hN' (fun N2 W2 hK2 hN2 => ih w h (withE E e) b N2 W2 (ok_with hb he) (by have := nfree_with hb he; omega) hK2 hN2))
    refine this.mono fun e W' ⟨he, hbut, hk'⟩ => ⟨he, hbut, hk'.mono (by omega)⟩
theorem gainOf_any (k : Nat) (w h E e : Int) (b N : Nat) (W : World) (hb : okBox w h E = true) (he : e ∈ freeE w h E) (hk : nfree w h E ≤ k + 1) (hK : Knows W b N) (hN : N + calls k ≤ 1000000000000) :
    Calls Try.prog 56 #[.agg #[.map (some b)], .agg #[.int .i64 w, .int .i64 h, .int .i64 E], .int .i64 e] W (NetPost b (N + calls k) (gainW (net w h) w h E e) W) :=
  gain_walk (calls k) w h E e b N W hb he hK hN (fun N2 W2 hK2 hN2 => netScore_any k w h (withE E e) b N2 W2 (ok_with hb he) (by have := nfree_with hb he; omega) hK2 hN2)
end Go.Proofs.Ytincdnlinepcgab
