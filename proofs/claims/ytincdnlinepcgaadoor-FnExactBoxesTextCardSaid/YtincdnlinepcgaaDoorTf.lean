/-
  Dots and boxes: BoxesText, the model's text.
-/
import Derived.Test.YtincdnlinepcgaaDoorTe
import Derived.Laws.BytesString
namespace Go.Proofs.YtincdnlinepcgaaDoor
open Go.RowKit
set_option linter.unusedVariables false

set_option maxRecDepth 100000 in
set_option maxHeartbeats 1000000 in
theorem dec_any (n : Int) (h1 : 0 ≤ n) (h2 : n < 10) (W : World) : Calls Tryd.prog 26 #[.int .i64 n] W (RetB (.string ⟨#[dgt n]⟩) W) := by
  have hdg : UInt8.ofNat (48 + n).toNat = dgt n := by unfold dgt; rw [show (48 + n).toNat = 48 + n.toNat by omega]
  have hcv : (convert 36 9 (.slice (some ⟨W.heap.size, 0, none⟩) 1 1)).run Tryd.prog (W.alloc (.cells #[.int .u8 (48 + n)] 5)) = .ok (.string ⟨#[dgt n]⟩) (W.alloc (.cells #[.int .u8 (48 + n)] 5)) := by
    rw [run_convert_bytes_string _ _ _ _ _ _ _ Tryd.underlying36 Tryd.underlying5 Tryd.underlying9]
    rw [run_bytesToString _ _ _ _ [48 + n] (by simp [loadCells, go_sem])]
    show Result.ok (Value.string (ByteArray.empty.push (UInt8.ofNat (48 + n).toNat))) _ = _
    rw [hdg]
    rfl
  clear hdg
  go_enter Tryd.func26, Tryd.ntmps26
  go_wp2_with fail
  go_ret
  exact ⟨rfl, below_alloc _ _⟩

theorem bytes_snoc (l : List UInt8) (u : UInt8) : (⟨l.toArray⟩ : ByteArray) ++ ⟨#[u]⟩ = ⟨(l ++ [u]).toArray⟩ := by
  apply ByteArray.ext
  simp [ByteArray.data_append]
theorem head_bytes (w h : Int) : (⟨#[dgt w]⟩ : ByteArray) ++ ⟨#[120]⟩ ++ ⟨#[dgt h]⟩ ++ ⟨#[58]⟩ = ⟨(headL w h).toArray⟩ := by
  apply ByteArray.ext
  simp [ByteArray.data_append, headL]
theorem dgt_sgn (E : Int) (k : Nat) : dgt (dg E (k : Int)) = sgn E k := by
  unfold sgn
  cases hd : drawn E (k : Int)
  · rw [dg_of_free hd]; rfl
  · rw [dg_of_drawn hd]; rfl

set_option maxRecDepth 100000 in
set_option maxHeartbeats 4000000 in
theorem specTxt_any (w h E : Int) (hb : okBox w h E = true) (W : World) : Calls Tryd.prog 12 #[.agg #[.int .i64 w, .int .i64 h, .int .i64 E]] W (RetB (.string ⟨(textL w h E).toArray⟩) W) := by
  obtain ⟨r, hr⟩ : ∃ r, r = textL w h E := ⟨_, rfl⟩
  rw [← hr]
  have HR := hide hr
  have HB := hide hb
  obtain ⟨h1, h2, h3, h4, _, _⟩ := okBox_parts hb
  obtain ⟨E1, E2⟩ := okBox_E hb
  have hg := grid_nums h1 h2 h3 h4
  obtain ⟨n, hn⟩ : ∃ n : Nat, nEdge w h = (n : Int) := ⟨(nEdge w h).toNat, by omega⟩
  have hn24 : n ≤ 24 := by omega
  have HN := hide hn
  obtain ⟨W0, hW0⟩ : ∃ W0, W0 = W.alloc (.cells #[.int .i64 w, .int .i64 h, .int .i64 E] 26) := ⟨_, rfl⟩
  have hB0 : Hid (Below W.heap.size W W0) := by rw [hW0]; exact hide (below_alloc _ _)
  have hX0 : Hid (BoxIn W0 W.heap.size w h E) := by rw [hW0]; exact hide (boxIn_new _ _ _ _ _)
  obtain ⟨c0, c1, c2⟩ := hX0.out.past
  clear hb hr hg hn
  go_enter Tryd.func12, Tryd.ntmps12
  go_wp2_with fail
  rw [← hW0]
  clear hW0
  refine wp_region_past (by kernel_rfl) (by kernel_rfl) ?_
  repeat (first | go_big_quiet_step ((go_at_call 26; (with_reducible refine ret_past (dec_any _ ?_ ?_ _)) <;> omega)) | quiet_step ((go_at_call 26; (with_reducible refine ret_past (dec_any _ ?_ ?_ _)) <;> omega)))
  refine wpQuiet_nil ?_
  rintro _ ⟨pq, rfl⟩
  go_wp2_with fail
  rw [head_bytes]
  have hB1 := hide (Below.trans' hB0.out pq.old)
  have hX1 := hide (hX0.out.keep pq.old)
  clear c0 c1 c2
  go_loopg [3, 4] n (fun g t i wr => ∃ (k : Nat) (l : List UInt8), k + g = n ∧ i = .int .i64 k ∧ t = .string ⟨l.toArray⟩ ∧ l = headL w h ++ sgns E k ∧ Below W.heap.size W wr ∧ BoxIn wr W.heap.size w h E)
  case atStart => exact ⟨0, headL w h, by omega, rfl, rfl, by simp [sgns], hB1.out, hX1.out⟩
  case round =>
    clear hB1 hX1
    obtain ⟨k, l, hkg, rfl, rfl, hl, hBr, hXr⟩ := hrel
    have HL := hide hl
    have HBR := hide hBr
    have HXR := hide hXr
    obtain ⟨c0, c1, c2⟩ := hXr
    clear hl hBr
    cases gk with
    | zero =>
      obtain rfl : k = n := by omega
      go_wp2_with fail
      refine (specCount_any w h E h1 h2 h3 h4 _).mono ?_
      rw [HN.out]
      rintro e w5 ⟨rfl, hb5⟩
      have hB5 := hide (Below.trans' HBR.out hb5)
      have hfin : Hid (r = l) := hide (by rw [HR.out, HL.out]; unfold textL; rw [HN.out]; rfl)
      clear hb5 c0 c1 c2
      go_wp2_with fail
      go_ret
      exact ⟨by rw [hfin.out]; rfl, hB5.out⟩
    | succ g =>
      have hkn : (k : Int) < (n : Int) := by omega
      have hu := u64_small (k := (k : Int)) (by omega) (by omega)
      have hdw := dg_walk (k := (k : Int)) E1 E2
      rw [Int.toNat_natCast] at hdw
      have hdr : 0 ≤ dg E (k : Int) ∧ dg E (k : Int) < 10 := by
        cases hd : drawn E (k : Int)
        · rw [dg_of_free hd]; omega
        · rw [dg_of_drawn hd]; omega
      have hds := dgt_sgn E k
      obtain ⟨d, hd⟩ : ∃ d, d = dg E (k : Int) := ⟨_, rfl⟩
      rw [← hd] at hdw hdr hds
      obtain ⟨hdr0, hdr1⟩ := hdr
      have HDS := hide hds
      clear hd hds
      go_wp2_with fail
      refine (specCount_any w h E h1 h2 h3 h4 _).mono ?_
      rw [HN.out]
      rintro e w5 ⟨rfl, hb5⟩
      have hB5 := hide (Below.trans' HBR.out hb5)
      have hX5 := hide (HXR.out.keep hb5)
      clear hb5 c0 c1 c2
      obtain ⟨c0, c1, c2⟩ := hX5.out
      go_wp2_with fail
      refine (dec_any d hdr0 hdr1 _).mono ?_
      rintro e w6 ⟨rfl, hb6⟩
      have hB6 := hide (Below.trans' hB5.out hb6)
      have hX6 := hide (hX5.out.keep hb6)
      clear hb6 c0 c1 c2
      have hln : Hid (l ++ [dgt d] = headL w h ++ sgns E (k + 1)) := hide (by rw [HL.out, sgns_succ, HDS.out, List.append_assoc])
      have hlen : l.length = 4 + k := by rw [HL.out, List.length_append, sgns_len]; rfl
      have hadd : ∀ w' : World, (Op.stringOp .add ⟨l.toArray⟩ ⟨#[dgt d]⟩).run Tryd.prog w' = .ok (.string ⟨(l ++ [dgt d]).toArray⟩) w' := fun w' => run_string_add_lists w' l [dgt d] (by omega) (by simp)
      clear hlen
      go_wp2_with fail
      go_roundg g
      case rel => exact ⟨k + 1, l ++ [dgt d], by omega, by go_num, rfl, hln.out, hB6.out, hX6.out⟩
      case measure => omega
end Go.Proofs.YtincdnlinepcgaaDoor
