/-
  Open moves, the program's text: the function value that openMoves hands back, for every loop body that keeps what it reads.
-/
import Derived.Test.YtmoekjgnichgnaaDoorIo
namespace Go.Proofs.YtmoekjgnichgnaaDoor
open Go.RowKit Go.Shelf
attribute [local go_sem] Oper.semAt_some
set_option linter.unusedVariables false

def opensTo (ss : List ByteArray) (c : Cr) (k : Nat) : List Int := ((List.range k).map fun (i : Nat) => (i : Int)).filter fun mv => opn ss c mv
theorem opensTo_yes {ss : List ByteArray} {c : Cr} {k : Nat} (h : opn ss c (k : Int) = true) : opensTo ss c (k + 1) = opensTo ss c k ++ [(k : Int)] := by
  unfold opensTo
  rw [List.range_succ, List.map_append, List.filter_append]
  simp [h]
theorem opensTo_no {ss : List ByteArray} {c : Cr} {k : Nat} (h : opn ss c (k : Int) = false) : opensTo ss c (k + 1) = opensTo ss c k := by
  unfold opensTo
  rw [List.range_succ, List.map_append, List.filter_append]
  simp [h]
theorem opensTo_len (ss : List ByteArray) (c : Cr) (k : Nat) : (opensTo ss c k).length ≤ k := by
  unfold opensTo
  refine Nat.le_trans (List.length_filter_le _ _) ?_
  simp
theorem opens_all (ss : List ByteArray) (c : Cr) : opens ss c = opensTo ss c 9 := rfl
theorem mem_opens {ss : List ByteArray} {c : Cr} {k : Nat} (hk : k < 9) (h : opn ss c (k : Int) = true) : (k : Int) ∈ opens ss c := by
  unfold opens
  exact List.mem_filter.2 ⟨List.mem_map.2 ⟨k, List.mem_range.2 hk, rfl⟩, h⟩

/-- The open moves of a car, as items. -/
abbrev Om (ss : List ByteArray) (c : Cr) := { mv : Int // mv ∈ opens ss c }

set_option maxRecDepth 100000 in
theorem openMoves_any (a : Option Addr) (n c : Nat) (x y u v : Int) (w : World) :
    Calls Tryd.prog 66 #[.slice a n c, .agg #[.int .i64 x, .int .i64 y, .int .i64 u, .int .i64 v]] w fun e w' => e = .returned (.func (.func 110) #[] #[.pointer (some ⟨w.heap.size, 0, none⟩), .pointer (some ⟨w.heap.size + 1, 0, none⟩)]) ∧ (w.alloc (.cells #[.slice a n c] 63)).alloc (.cells #[.int .i64 x, .int .i64 y, .int .i64 u, .int .i64 v] 28) = w' := by
  go_enter Tryd.func66, Tryd.ntmps66
  go_wp2
  go_ret
  exact ⟨rfl, rfl⟩

set_option maxRecDepth 100000 in
set_option maxHeartbeats 8000000 in
theorem opm_in (m : Nat) (hm : 1 ≤ m) (l Bt Bc n₀ : Nat) (a : Option Addr) (c : Nat) (ss : List ByteArray) (x y u v : Int) (hs : shp ss = true) (hok : okCr ss ⟨x, y, u, v⟩ = true)
    (J Jx : List (Om ss ⟨x, y, u, v⟩) → World → Prop) (hJ : ∀ s A C, J s A → Below A.heap.size A C → J s C)
    (hY : ∀ pre z W, J pre W → pre.length < 9 → YieldAt Fence.wide (m - 1) Tryd.prog l #[.int .i64 z.1, crV ((⟨x, y, u, v⟩ : Cr).go z.1)] W fun e W' =>
      (e = .returned (.bool true) ∧ J (pre ++ [z]) W' ∧ KeepB n₀ Bt Bc W W') ∨ (e = .returned (.bool false) ∧ Jx (pre ++ [z]) W'))
    (W : World) (V0 : World) (hV0 : V0.heap.size ≤ n₀) (hVW : Below V0.heap.size V0 W) (ha : StrsAt V0 a ss)
    (hBt : W.heap[Bt]? = some (.cells #[.slice a ss.length c] 63 (0, 0))) (hBc : W.heap[Bc]? = some (.cells #[.int .i64 x, .int .i64 y, .int .i64 u, .int .i64 v] 28 (0, 0))) (hn₀ : n₀ ≤ W.heap.size) (hJ0 : J [] W) :
    CallsIn Fence.wide m Tryd.prog 110 #[.func (.yield l) #[] #[], .pointer (some ⟨Bt, 0, none⟩), .pointer (some ⟨Bc, 0, none⟩)] W fun e W' => (∃ v, e = .returned v) ∧
      ((∃ ys : List (Om ss ⟨x, y, u, v⟩), ys.map (·.1) = opens ss ⟨x, y, u, v⟩ ∧ J ys W') ∨ (∃ pre, True ∧ Jx pre W')) := by
  obtain ⟨⟨x0, x1⟩, ⟨y0, y1⟩, ⟨u0, u1⟩, ⟨v0, v1⟩⟩ := okCr_rg hs hok
  dsimp only at x0 x1 y0 y1 u0 u1 v0 v1
  have HY := hide hY
  have HJ := hide hJ
  have HBt := hide hBt
  have HBc := hide hBc
  have HA := hide ha
  have hBtl : Hid (Bt < W.heap.size) := hide (block_lt hBt)
  have hBcl : Hid (Bc < W.heap.size) := hide (block_lt hBc)
  have HVW := hide hVW
  clear hY hJ hBt hBc ha hVW
  refine callsIn_of_wp Tryd.func110 rfl trivial ?_ rfl
  simp only [Tryd.ntmps110, List.size_toArray, List.length_cons, List.length_nil, Nat.reduceAdd, Nat.reduceSub, Array.replicate_succ, Array.replicate_zero, List.push_toArray, List.append_toArray, List.nil_append, List.cons_append]
  gi_wp2
  gi_loopw [5] (fun v5 wr => ∃ (k : Nat) (ys : List (Om ss ⟨x, y, u, v⟩)), v5 = .int .i64 k ∧ k ≤ 9 ∧ Hid (ys.map (·.1) = opensTo ss ⟨x, y, u, v⟩ k) ∧ Hid (J ys wr) ∧ Hid (KeepB n₀ Bt Bc W wr) ∧ Hid (W.heap.size ≤ wr.heap.size))
    (fun v5 _ => 9 - (intOf v5).toNat)
  case atStart => exact ⟨0, [], rfl, by omega, hide rfl, hide hJ0, hide (KeepB.refl _ _ _ _), hide (Nat.le_refl _)⟩
  case round =>
    obtain ⟨k, ys, rfl, hk, hys, hJs, hKB, hS⟩ := hrel
    by_cases hlt : k < 9
    · have hrt : wr.heap[Bt]? = some (.cells #[.slice a ss.length c] 63 (0, 0)) := by rw [hKB.out.2.1]; exact HBt.out
      have hrc : wr.heap[Bc]? = some (.cells #[.int .i64 x, .int .i64 y, .int .i64 u, .int .i64 v] 28 (0, 0)) := by rw [hKB.out.2.2]; exact HBc.out
      have HRC := hide hrc
      have hBtr : Hid (Bt < wr.heap.size) := hide (block_lt hrt)
      have hBcr : Hid (Bc < wr.heap.size) := hide (block_lt hrc)
      have hnr : Hid (n₀ ≤ wr.heap.size) := hide (by have := hS.out; omega)
      have HAr := hide (HA.out.keep (HVW.out.trans (hKB.out.1.mono hV0)))
      obtain ⟨t0, _⟩ := row1 hrt
      obtain ⟨d0, d1, d2, d3⟩ := row4 hrc
      have hlen : ys.length < 9 := by
        have h1 := congrArg List.length hys.out
        have h2 := opensTo_len ss ⟨x, y, u, v⟩ k
        rw [List.length_map] at h1
        omega
      have HOP := hide (isOpen_any a c ss x y u v (k : Int) wr HAr.out hs hok (by omega) (by omega))
      clear hrt hrc
      cases hop : opn ss ⟨x, y, u, v⟩ (k : Int)
      · have hnx : Hid (opensTo ss ⟨x, y, u, v⟩ (k + 1) = opensTo ss ⟨x, y, u, v⟩ k) := hide (opensTo_no hop)
        rw [hop] at HOP
        clear hop
        gi_wp2_with (first | (refine ⟨trivial, ?_⟩; gi_at_call 67; refine (callsIn_wide.2 HOP.out).mono ?_; rintro e w5 ⟨rfl, hb5⟩; (have HB5 := hide hb5)) | (with_reducible refine noLead ?_))
        have hJ3 := hide (HJ.out _ _ _ hJs.out HB5.out)
        have hK3 := hide (hKB.out.trans (KeepB.of_below HB5.out hnr.out hBtr.out hBcr.out))
        have hS3 : Hid (W.heap.size ≤ w5.heap.size) := hide (Nat.le_trans hS.out HB5.out.size)
        clear hb5
        refine ⟨trivial, ?_⟩
        gi_wp2_with (with_reducible refine noLead ?_)
        go_roundw
        case rel => exact ⟨k + 1, ys, by go_num, by omega, hide (by rw [hnx.out]; exact hys.out), hJ3, hK3, hS3⟩
        case measure => simp [intOf]; omega
      · have hnx : Hid (opensTo ss ⟨x, y, u, v⟩ (k + 1) = opensTo ss ⟨x, y, u, v⟩ k ++ [(k : Int)]) := hide (opensTo_yes hop)
        have hmem := mem_opens (ss := ss) hlt hop
        rw [hop] at HOP
        obtain ⟨K, hK⟩ : ∃ K, K = (⟨x, y, u, v⟩ : Cr).go (k : Int) := ⟨_, rfl⟩
        have HBH := hide (fun V => behind_any x y u v (k : Int) (by unfold Rg; omega) (by unfold Rg; omega) (by unfold Rg; omega) (by unfold Rg; omega) (by omega) (by omega) V)
        rw [← hK] at HBH
        have HK := hide hK
        clear hop hK
        gi_wp2_with (first | (refine ⟨trivial, ?_⟩; gi_at_call 67; refine (callsIn_wide.2 HOP.out).mono ?_; rintro e w5 ⟨rfl, hb5⟩; (obtain ⟨g0, g1, g2, g3⟩ := row4 (box_keep HRC.out hb5))) | (refine ⟨trivial, ?_⟩; gi_at_call 68; refine (callsIn_wide.2 (HBH.out _)).mono ?_; rintro e w6 ⟨rfl, hb6⟩; (obtain ⟨fn, tmps, assign, body, hy, hR⟩ := HY.out _ ⟨(k : Int), hmem⟩ w6 (HJ.out _ _ _ hJs.out (Below.trans' hb5 hb6)) hlen); (dsimp only at hy; rw [← HK.out] at hy)) | (with_reducible refine noLead ?_))
        all_goals
          refine hR.mono ?_
          rintro e W3 (⟨rfl, hJ3, hk3⟩ | ⟨rfl, hJx3⟩)
          · have hb56 := Below.trans' hb5 hb6
            have hK3 := hide ((hKB.out.trans (KeepB.of_below hb56 hnr.out hBtr.out hBcr.out)).trans hk3)
            have hS3 : Hid (W.heap.size ≤ W3.heap.size) := hide (Nat.le_trans hS.out (Nat.le_trans hb56.size hk3.1.size))
            have HJ3 := hide hJ3
            clear hJ3 hk3 hy hb56 hb5 hb6
            gi_wp2
            go_roundw
            case rel => exact ⟨k + 1, ys ++ [⟨(k : Int), hmem⟩], by go_num, by omega, hide (by rw [hnx.out, List.map_append, hys.out]; rfl), HJ3, hK3, hS3⟩
            case measure => simp [intOf]; omega
          · gi_wp2
            refine bodyPost_ret (results_none rfl _ _ _) rfl ?_
            exact ⟨⟨_, rfl⟩, .inr ⟨_, trivial, hJx3⟩⟩
    · obtain rfl : k = 9 := by omega
      gi_wp2
      go_end0
      exact ⟨⟨_, rfl⟩, .inl ⟨ys, hys.out, hJs.out⟩⟩
end Go.Proofs.YtmoekjgnichgnaaDoor
