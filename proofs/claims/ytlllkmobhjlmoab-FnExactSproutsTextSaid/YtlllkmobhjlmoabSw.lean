/-
  Sprouts positions: what one is, the program's text.
-/
import Derived.Test.YtlllkmobhjlmoabSu
import Derived.Test.YtlllkmobhjlmoabQr
namespace Go.Proofs.Ytlllkmobhjlmoab
open Go.RowKit Go.Shelf
attribute [local go_sem] Oper.semAt_some
set_option linter.unusedVariables false

theorem bounds_stops (m : Nat) (hm : 1 ≤ m) (Bs n₀ : Nat) (a : Option Addr) (c : Nat) (X : List (List (List Int))) (hs : Small3 X) (w : World) (hBs : w.heap[Bs]? = some (.cells #[.slice a X.length c] 22 (0, 0))) (hn₀ : n₀ ≤ w.heap.size)
    (V0 : World) (hV0 : V0.heap.size ≤ n₀) (hVW : Below V0.heap.size V0 w) (ha : CubeAt V0 a X) :
    SeqStopsK Fence.wide m Try.prog 34 #[.pointer (some ⟨Bs, 0, none⟩)] (fun x : Bi X => #[bdV V0 a x.1.1 x.1.2]) (KeepB n₀ Bs)
      (fun ys => ys = bAll X) (fun _ => True) 1125899906842624 w := fun l J Jx W hW hJ _ hY h0 =>
  bounds_in m hm l Bs n₀ a c X hs W (by have := hW.size; omega) V0 hV0 (hVW.trans (hW.mono (by omega))) ha J Jx (fun s A C hs hb => hJ s A C none hs (below_grownBy hb) (fun r e => by cases e)) hY (box_keep hBs hW) h0

theorem alloc_at (V : World) (o : Obj) {M : Nat} (h : V.heap.size = M) : (V.alloc o).heap[M]? = some o := by
  subst h
  exact heap_alloc_new V o
theorem alloc_up (V : World) (o : Obj) {k : Nat} {x : Obj} (h : V.heap[k]? = some x) : (V.alloc o).heap[k]? = some x := (Below.heap_alloc _ _ _ (block_lt h)).trans h
theorem spots_bad {s : Int} {f : Bool} {z : Int} (hb : z < 0 ∨ s ≤ z) : ∀ (zs : List Int) (st : Cts), z ∈ zs → spotsC s f st zs = none
  | [], _, h => by simp at h
  | y :: r, st, h => by
    by_cases e : y < 0 ∨ s ≤ y
    · exact spots_no e
    · rw [spots_go (by omega) (by omega)]
      rcases List.mem_cons.1 h with rfl | h
      · exact absurd hb e
      · exact spots_bad hb r _ h
/-- A boundary that no position has. -/
def BadB (s : Int) (zs : List Int) : Prop := zs.length < 1 ∨ ∃ z ∈ zs, z < 0 ∨ s ≤ z
theorem bnd_bad {s : Int} {zs : List Int} (hb : BadB s zs) : ∀ (L : List (List Int)) (st : Cts), zs ∈ L → bndC s st L = none
  | [], _, h => by simp at h
  | y :: r, st, h => by
    by_cases e : y.length < 1
    · exact bnd_no e
    · rw [bnd_go e]
      rcases List.mem_cons.1 h with rfl | h
      · rcases hb with hb | ⟨z, hz, hb⟩
        · exact absurd hb e
        · rw [spots_bad hb _ _ hz]; rfl
      · cases spotsC s (decide (y.length = 1)) st y with
        | none => rfl
        | some st' => exact bnd_bad hb r st' h
theorem spr_bad {S : Nat} {X : List (List (List Int))} {zs : List Int} (hm : zs ∈ X.flatten) (hb : BadB S zs) : sprC S X = none := by
  unfold sprC
  split
  · rw [regC_flat, bnd_bad hb _ _ hm]; rfl
  · rfl
theorem box_set1 {w : World} {b : Nat} {x : Value} (y : Value) {t : TypeId} (h : w.heap[b]? = some (.cells #[x] t (0, 0))) : (w.setCell ⟨b, 0, none⟩ y).heap[b]? = some (.cells #[y] t (0, 0)) := heap_setCell_same _ b 0 _ t y h
theorem bi_mem {X : List (List (List Int))} {i j : Nat} {xss : List (List Int)} {zs : List Int} (h1 : X[i]? = some xss) (h2 : xss[j]? = some zs) : zs ∈ X.flatten :=
  List.mem_flatten.2 ⟨xss, List.mem_of_getElem? h1, List.mem_of_getElem? h2⟩
theorem zsOf_is {X : List (List (List Int))} {i j : Nat} {xss : List (List Int)} {zs : List Int} (h1 : X[i]? = some xss) (h2 : xss[j]? = some zs) : zsOf (⟨(i, j), xss, zs, h1, h2⟩ : Bi X) = zs := by
  simp only [zsOf, List.getD_eq_getElem?_getD, h1, h2, Option.getD_some]

/-- What a round must find: the boxes; the rows. -/
structure MidS (M S : Nat) (a : Option Addr) (n c : Nat) (st : Cts) (W V : World) : Prop where
  size : M + 7 ≤ V.heap.size
  bx : V.heap[M]? = some (.cells #[.int .i64 S, .slice a n c] 29 (0, 0))
  br : ∃ v, V.heap[M + 1]? = some (.cells #[v] 4 (0, 0))
  bp : V.heap[M + 1 + 1 + 1]? = some (.cells #[.slice (some ⟨M + 1 + 1, 0, none⟩) S S] 26 (0, 0))
  ba : V.heap[M + 1 + 1 + 1 + 1 + 1]? = some (.cells #[.slice (some ⟨M + 1 + 1 + 1 + 1, 0, none⟩) S S] 56 (0, 0))
  ct : CtsAt M (M + 1 + 1) (M + 1 + 1 + 1 + 1) S st W V
theorem MidS.below {M S : Nat} {a : Option Addr} {n c : Nat} {st : Cts} {W V V' : World} (h : MidS M S a n c st W V) (hb : Below (M + 7) V V') : MidS M S a n c st W V' := by
  obtain ⟨v, hv⟩ := h.br
  exact ⟨Nat.le_trans h.size hb.size, (hb.block _ (by omega)).trans h.bx, ⟨v, (hb.block _ (by omega)).trans hv⟩, (hb.block _ (by omega)).trans h.bp, (hb.block _ (by omega)).trans h.ba,
    rowIs_block h.ct.p (hb.block _ (by omega)), rowIs_block h.ct.a (hb.block _ (by omega)), h.ct.lp, h.ct.la, h.ct.old.trans (hb.mono (by omega)), h.ct.bp, h.ct.ba, h.ct.ne⟩
theorem MidS.setP {M S : Nat} {a : Option Addr} {n c : Nat} {st : Cts} {W V : World} (h : MidS M S a n c st W V) {z : Nat} (hz : z < S) (v : Int) : MidS M S a n c ⟨st.P.set z v, st.A⟩ W (V.setCell ⟨M + 1 + 1, z, none⟩ (.int .i64 v)) := by
  obtain ⟨v1, hv⟩ := h.br
  exact ⟨by simpa [World.setCell] using h.size, (Below.heap_setCell _ _ _ _ (by first | (simp; done) | (simp; omega))).trans h.bx, ⟨v1, (Below.heap_setCell _ _ _ _ (by first | (simp; done) | (simp; omega))).trans hv⟩, (Below.heap_setCell _ _ _ _ (by first | (simp; done) | (simp; omega))).trans h.bp, (Below.heap_setCell _ _ _ _ (by first | (simp; done) | (simp; omega))).trans h.ba, h.ct.setP hz v⟩
theorem MidS.setA {M S : Nat} {a : Option Addr} {n c : Nat} {st : Cts} {W V : World} (h : MidS M S a n c st W V) {z : Nat} (hz : z < S) (v : Bool) : MidS M S a n c ⟨st.P, st.A.set z v⟩ W (V.setCell ⟨M + 1 + 1 + 1 + 1, z, none⟩ (.bool v)) := by
  obtain ⟨v1, hv⟩ := h.br
  exact ⟨by simpa [World.setCell] using h.size, (Below.heap_setCell _ _ _ _ (by first | (simp; done) | (simp; omega))).trans h.bx, ⟨v1, (Below.heap_setCell _ _ _ _ (by first | (simp; done) | (simp; omega))).trans hv⟩, (Below.heap_setCell _ _ _ _ (by first | (simp; done) | (simp; omega))).trans h.bp, (Below.heap_setCell _ _ _ _ (by first | (simp; done) | (simp; omega))).trans h.ba, h.ct.setA hz v⟩
/-- The loop has been left in the middle: the result has been stored. -/
def MidX (M : Nat) (W V : World) : Prop := M + 7 ≤ V.heap.size ∧ V.heap[M + 1]? = some (.cells #[.bool false] 4 (0, 0)) ∧ Below M W V
theorem MidX.below {M : Nat} {W V V' : World} (h : MidX M W V) (hb : Below (M + 7) V V') : MidX M W V' :=
  ⟨Nat.le_trans h.1 hb.size, (hb.block _ (by omega)).trans h.2.1, h.2.2.trans (hb.mono (by omega))⟩

set_option maxRecDepth 100000 in
set_option maxHeartbeats 4000000 in
theorem implIsSprouts_any (s : Int) (a : Option Addr) (c : Nat) (X : List (List (List Int))) (W : World) (ha : CubeAt W a X) (hs : Small3 X) :
    Calls Try.prog 22 #[.agg #[.int .i64 s, .slice a X.length c]] W (RetB (.bool (isSprB s X)) W) := by
  have hl := hs.1
  by_cases hs1 : 1 ≤ s ∧ s ≤ 20
  · obtain ⟨S, hS⟩ : ∃ S : Nat, s = S := ⟨s.toNat, by omega⟩
    subst hS
    by_cases hx : X.length < 1
    ·
      have hno : Hid (isSprB S X = false) := hide (isSprB_none (sprC_no (fun h => by have := h.2.2; omega)))
      rw [hno.out]
      have hB0 := hide (Below.alloc' (below_alloc W (.cells #[.int .i64 S, .slice a X.length c] 29)) (.cells #[.bool false] 4))
      have hd : ((X.length : Int) == 0) = true := by rw [beq_iff_eq]; omega
      go_enter Try.func22, Try.ntmps22
      have hB1 := hide (hB0.out.setCell (p := ⟨W.heap.size + 1, 0, none⟩) (by simp) (.bool false))
      go_wp2_with fail
      all_goals
        refine bodyPost_ret (v := .bool false) (by simp [results, Try.results22, go_sem]) rfl ⟨rfl, ?_⟩
        first | exact hB1.out | exact hB0.out
    · have hS1 : 1 ≤ S := by omega
      have hS20 : S ≤ 20 := by omega
      have hx1 : 1 ≤ X.length := by omega
      have hmk1 := run_make_row' (P := Try.prog) 26 2 (.int .i64 0) 8 Try.underlying26 Try.info2 rfl .i64 .i64 S (by omega) (by omega)
      have hmk2 := run_make_row' (P := Try.prog) 56 4 (.bool false) 1 Try.underlying56 info_bool rfl .i64 .i64 S (by omega) (by omega)
      obtain ⟨rb, hrb⟩ : ∃ rb, rb = isSprB S X := ⟨_, rfl⟩
      rw [← hrb]
      have HRB := hide hrb
      have HA := hide ha
      have HS := hide hs
      obtain ⟨n, hn⟩ : ∃ n, n = X.length := ⟨_, rfl⟩
      have HN := hide hn
      rw [← hn] at hx1 hl ⊢
      clear hs1 hx hrb ha hs hn
      refine (callsIn_wide (n := 6)).1 ?_
      refine callsIn_of_wp_marks Try.func22 rfl trivial ?_ rfl
      simp only [Try.ntmps22, List.size_toArray, List.length_cons, List.length_nil, Nat.reduceAdd, Nat.reduceSub, Array.replicate_succ, Array.replicate_zero, List.push_toArray, List.append_toArray, List.nil_append, List.cons_append]
      have hd1 : decide ((S : Int) < 1) = false := decide_eq_false (by omega)
      have hd2 : decide ((20 : Int) < (S : Int)) = false := decide_eq_false (by omega)
      have hd3 : ((n : Int) == 0) = false := by simp; omega
      gi_wp2_with (refine ⟨trivial, ?_⟩; gi_at_call 23; refine (callsIn_wide.2 (boundariesOf_any _ _ _ _)).mono ?_; rintro e w1 ⟨rfl, rfl⟩)
      obtain ⟨W0, hW0⟩ : ∃ W0, W0 = (((((((W.alloc (.cells #[.int .i64 S, .slice a n c] 29)).alloc (.cells #[.bool false] 4)).alloc (.cells (madeCells #[.int .i64 0] S) 2)).alloc (.cells #[.slice (some ⟨W.heap.size + 1 + 1, 0, none⟩) S S] 26)).alloc (.cells (madeCells #[.bool false] S) 4)).alloc (.cells #[.slice (some ⟨W.heap.size + 1 + 1 + 1 + 1, 0, none⟩) S S] 56)).alloc (.cells #[.slice a n c] 22)) := ⟨_, rfl⟩
      rw [← hW0]
      have hs0 : W0.heap.size = W.heap.size + 7 := by rw [hW0]; simp
      have hMid0 : MidS W.heap.size S a n c (Cts.zero S) W W0 := by
        rw [hW0]
        refine ⟨by simp, alloc_up _ _ (alloc_up _ _ (alloc_up _ _ (alloc_up _ _ (alloc_up _ _ (alloc_up _ _ (alloc_at W _ (M := W.heap.size) (by simp))))))), ⟨.bool false, alloc_up _ _ (alloc_up _ _ (alloc_up _ _ (alloc_up _ _ (alloc_up _ _ (alloc_at (W.alloc (.cells #[.int .i64 S, .slice a n c] 29)) _ (M := W.heap.size + 1) (by simp))))))⟩, alloc_up _ _ (alloc_up _ _ (alloc_up _ _ (alloc_at (((W.alloc (.cells #[.int .i64 S, .slice a n c] 29)).alloc (.cells #[.bool false] 4)).alloc (.cells (madeCells #[.int .i64 0] S) 2)) _ (M := W.heap.size + 1 + 1 + 1) (by simp)))), alloc_up _ _ (alloc_at (((((W.alloc (.cells #[.int .i64 S, .slice a n c] 29)).alloc (.cells #[.bool false] 4)).alloc (.cells (madeCells #[.int .i64 0] S) 2)).alloc (.cells #[.slice (some ⟨W.heap.size + 1 + 1, 0, none⟩) S S] 26)).alloc (.cells (madeCells #[.bool false] S) 4)) _ (M := W.heap.size + 1 + 1 + 1 + 1 + 1) (by simp)), ⟨?_, ?_, by simp [Cts.zero], by simp [Cts.zero], ?_, by omega, by omega, by omega⟩⟩
        · have h := World.rowIs_made ((W.alloc (.cells #[.int .i64 S, .slice a n c] 29)).alloc (.cells #[.bool false] 4)) (.int .i64 0) S 2
          rw [show ((W.alloc (.cells #[.int .i64 S, .slice a n c] 29)).alloc (.cells #[.bool false] 4)).heap.size = W.heap.size + 1 + 1 by simp] at h
          exact ((((h.alloc _).alloc _).alloc _).alloc _).congr (fun i hi => by simp [plV, Cts.zero, hi])
        · have h := World.rowIs_made ((((W.alloc (.cells #[.int .i64 S, .slice a n c] 29)).alloc (.cells #[.bool false] 4)).alloc (.cells (madeCells #[.int .i64 0] S) 2)).alloc (.cells #[.slice (some ⟨W.heap.size + 1 + 1, 0, none⟩) S S] 26)) (.bool false) S 4
          rw [show ((((W.alloc (.cells #[.int .i64 S, .slice a n c] 29)).alloc (.cells #[.bool false] 4)).alloc (.cells (madeCells #[.int .i64 0] S) 2)).alloc (.cells #[.slice (some ⟨W.heap.size + 1 + 1, 0, none⟩) S S] 26)).heap.size = W.heap.size + 1 + 1 + 1 + 1 by simp] at h
          exact ((h.alloc _).alloc _).congr (fun i hi => by simp [alV, Cts.zero, hi])
        · exact Below.alloc' (Below.alloc' (Below.alloc' (Below.alloc' (Below.alloc' (Below.alloc' (below_alloc W _) _) _) _) _) _) _
      have hr6 : W0.heap[W.heap.size + 1 + 1 + 1 + 1 + 1 + 1]? = some (.cells #[.slice a X.length c] 22 (0, 0)) := by
        rw [← HN.out, hW0]
        exact alloc_at ((((((W.alloc (.cells #[.int .i64 S, .slice a n c] 29)).alloc (.cells #[.bool false] 4)).alloc (.cells (madeCells #[.int .i64 0] S) 2)).alloc (.cells #[.slice (some ⟨W.heap.size + 1 + 1, 0, none⟩) S S] 26)).alloc (.cells (madeCells #[.bool false] S) 4)).alloc (.cells #[.slice (some ⟨W.heap.size + 1 + 1 + 1 + 1, 0, none⟩) S S] 56)) _ (M := W.heap.size + 1 + 1 + 1 + 1 + 1 + 1) (by simp)
      clear hW0 hmk1 hmk2 hd1 hd2 hd3
      have hVW : Hid (Below W.heap.size W W0) := hide hMid0.ct.old
      refine wpIn_rangeFunc_ownF (F := Fence.wide) rfl (by omega) (gf := 34) (lb := #[.pointer (some ⟨W.heap.size + 1 + 1 + 1 + 1 + 1 + 1, 0, none⟩)]) rfl trivial (enters_of Try.func34 (by kernel_rfl) rfl)
        (bounds_stops 5 (by omega) (W.heap.size + 1 + 1 + 1 + 1 + 1 + 1) W.heap.size a c X HS.out W0 hr6 (by omega) W (by omega) hVW.out HA.out) KeepB.trans (keepB_b (by omega) (by omega)) (Below.refl _ _) (fun _ => rfl)
        (fun pre V => ∃ st, MidS W.heap.size S a n c st W V ∧ bndC S (Cts.zero S) (pre.map zsOf) = some st)
        (fun cc pre V => cc = .ret ∧ MidX W.heap.size W V ∧ sprC S X = none)
        (ownFrom_of_below (fun s V h => by rw [hs0]; obtain ⟨_, h, _⟩ := h; exact h.size) (fun s V V' h hb => by obtain ⟨st, h1, h2⟩ := h; exact ⟨st, h1.below (by rw [← hs0]; exact hb), h2⟩))
        (fun cc => ownFrom_of_below (fun s V h => by rw [hs0]; exact h.2.1.1) (fun s V V' h hb => ⟨h.1, h.2.1.below (by rw [← hs0]; exact hb), h.2.2⟩))
        ⟨_, hMid0, rfl⟩
        (fun x => { tmps := #[.agg #[.int .i64 S, .slice a n c], .pointer (some ⟨W.heap.size, 0, none⟩), .pointer (some ⟨W.heap.size + 1, 0, none⟩), .pointer (some ⟨W.heap.size + 1 + 1 + 1, 0, none⟩), .pointer (some ⟨W.heap.size + 1 + 1 + 1 + 1 + 1, 0, none⟩), bdV W a x.1.1 x.1.2, undef, undef, undef, undef, .pointer (some ⟨W.heap.size, 0, none⟩), .int .i64 S, .bool false, .bool false, .pointer (some ⟨W.heap.size, 0, none⟩), .int .i64 S, .bool false, .bool false, .bool false, .pointer (some ⟨W.heap.size, 1, none⟩), .slice a n c, .int .i64 n, .bool false, .bool false, .pointer (some ⟨W.heap.size, 0, none⟩), .int .i64 S, .slice (some ⟨W.heap.size + 1 + 1, 0, none⟩) S S, .pointer (some ⟨W.heap.size, 0, none⟩), .int .i64 S, .slice (some ⟨W.heap.size + 1 + 1 + 1 + 1, 0, none⟩) S S, .pointer (some ⟨W.heap.size, 1, none⟩), .slice a n c, .func (.func 34) #[] #[.pointer (some ⟨W.heap.size + 1 + 1 + 1 + 1 + 1 + 1, 0, none⟩)], bdV W a x.1.1 x.1.2, undef, undef, undef, undef, undef, undef, undef, undef, undef, undef, undef, undef, undef, undef, undef, undef, undef, undef, undef, undef, undef, undef, undef, undef, undef, undef, undef, undef, undef, undef, undef, undef, undef, undef, undef, undef, undef, undef, undef, undef, undef, undef, undef, undef, undef, undef, undef, undef, undef, undef, undef, undef, undef, undef, undef, undef, undef, undef, undef, undef], defers := [] }) ?assign ?body ?done ?stop
      case assign =>
        intro l x V K hK
        gi_wp2
        exact hK
      case body =>
        rintro l pre ⟨⟨i, j⟩, xss, zs, h1, h2⟩ V ⟨st, hM0, hpre⟩ hlt
        dsimp only
        have HM := hide hM0
        have hxo := (cell_of_row _ _ 0 _ _ (0, 0) hM0.bx).trans rfl
        obtain ⟨a2, c2, hbd, hi2⟩ := bdV_is HA.out h1 h2
        rw [hbd]
        obtain ⟨lz, hlz⟩ : ∃ lz, lz = zs.length := ⟨_, rfl⟩
        have HLZ := hide hlz
        rw [← hlz]
        have HI := hide hi2
        have hzl : lz ≤ 1048576 := by rw [hlz]; exact (HS.out.2.2 xss (mem_of_get h1)).2 zs (mem_of_get h2)
        clear hM0 hxo hbd hi2 hlz
        by_cases hz0 : lz < 1
        · obtain ⟨v, hv⟩ := HM.out.br
          obtain ⟨r1, r2⟩ := (⟨(cell_of_row _ _ 0 _ _ (0, 0) hv).trans rfl, frozen_of_row _ _ 0 _ _ hv⟩ : V.cell? ⟨W.heap.size + 1, 0, none⟩ = some v ∧ V.frozen? ⟨W.heap.size + 1, 0, none⟩ = false)
          have hlz0 : ((lz : Int) == 0) = true := by simp; omega
          have HV := hide hv
          clear hv
          gi_wp2_with (with_reducible refine leadAny _ ?_)
          refine ⟨KeepsOthers.setCell _ _ _, rfl, ⟨by simpa [World.setCell] using HM.out.size, box_set1 _ HV.out, HM.out.ct.old.setCell (p := ⟨W.heap.size + 1, 0, none⟩) (by simp) _⟩, ?_⟩
          exact spr_bad (bi_mem h1 h2) (.inl (by rw [← HLZ.out]; exact hz0))
        · have hlz0 : ((lz : Int) == 0) = false := by simp; omega
          have hlz1 : 1 ≤ lz := by omega
          obtain ⟨r3, hr3⟩ : ∃ r3, r3 = spotsC S (decide (lz = 1)) st zs := ⟨_, rfl⟩
          have HR3 := hide hr3
          obtain ⟨f, hf⟩ : ∃ f, f = decide (lz = 1) := ⟨_, rfl⟩
          have HF := hide hf
          have hE0 : Hid (spotsC S f st (zs.drop 0) = r3) := hide (by rw [List.drop_zero, hr3, hf])
          have HPRE := hide hpre
          clear hz0 hr3 hf hpre
          gi_wp2_with (with_reducible refine leadAny _ ?_)
          gi_loopw [39] (fun iv wr => ∃ (q : Nat) (st3 : Cts), q ≤ lz ∧ iv = .int .i64 q ∧ Hid (MidS W.heap.size S a n c st3 W wr) ∧ Hid (spotsC S f st3 (zs.drop q) = r3) ∧ Hid (KeepsOthers V wr) ∧ Hid (KeepB W.heap.size (W.heap.size + 1 + 1 + 1 + 1 + 1 + 1) V wr))
            (fun iv _ => lz - (intOf iv).toNat)
          case atStart => exact ⟨0, st, by omega, rfl, HM, hE0, hide (KeepsOthers.refl _), hide (KeepB.refl _ _ _)⟩
          case round =>
            clear hE0
            obtain ⟨q, st3, hq, rfl, HM3, hE, hKO, hKB⟩ := hrel
            by_cases hql : q < lz
            · have hqz : q < zs.length := by rw [← HLZ.out]; exact hql
              obtain ⟨b3, o3, z, e0, hcell, hg3⟩ := HI.out.one hqz
              subst e0
              have c4 := cell_keep HM3.out.ct.old hcell
              have c0 : wr.cell? ⟨W.heap.size, 0, none⟩ = some (.int .i64 S) := (cell_of_row _ _ 0 _ _ (0, 0) HM3.out.bx).trans rfl
              by_cases hz : 0 ≤ z ∧ z < (S : Int)
              · obtain ⟨Z, rfl⟩ : ∃ Z : Nat, z = Z := ⟨z.toNat, by omega⟩
                have hZS : Z < S := by omega
                have HE : Hid (spotsC S f (st3.put Z f) (zs.drop (q + 1)) = r3) := hide (by rw [← hE.out, drop_of_get hg3.out, spots_go (by omega) (by omega)])
                have c3 : wr.cell? ⟨W.heap.size + 1 + 1 + 1, 0, none⟩ = some (.slice (some ⟨W.heap.size + 1 + 1, 0, none⟩) S S) := (cell_of_row _ _ 0 _ _ (0, 0) HM3.out.bp).trans rfl
                obtain ⟨d1, d2⟩ := HM3.out.ct.cellP hZS
                obtain ⟨v, hv⟩ : ∃ v, v = st3.P.getD Z 0 := ⟨_, rfl⟩
                rw [← hv] at d1
                have HV := hide hv
                clear hv hz hcell hE
                gi_wp2_with (with_reducible refine leadAny _ ?_)
                obtain ⟨w6, hw6⟩ : ∃ w6, w6 = wr.setCell ⟨W.heap.size + 1 + 1, Z, none⟩ (.int .i64 (wrap64 (v + 1))) := ⟨_, rfl⟩
                rw [← hw6]
                have HM6 : Hid (MidS W.heap.size S a n c ⟨st3.P.set Z (wrap64 (v + 1)), st3.A⟩ W w6) := by rw [hw6]; exact hide (HM3.out.setP hZS _)
                have hKO6 : Hid (KeepsOthers V w6) := hide (by rw [hw6]; exact hKO.out.trans (KeepsOthers.setCell _ _ _))
                have hKB6 : Hid (KeepB W.heap.size (W.heap.size + 1 + 1 + 1 + 1 + 1 + 1) V w6) := hide (by rw [hw6]; exact hKB.out.trans ⟨(Below.refl _ _).setCell (by first | (simp; done) | (simp; omega) | (show _ ≤ _; omega)) _, Below.heap_setCell _ _ _ _ (by first | (simp; done) | (simp; omega) | omega)⟩)
                clear hw6 d1 d2 c3 c4 c0
                obtain ⟨e1, e2⟩ := HM6.out.ct.cellA hZS
                have c5 : w6.cell? ⟨W.heap.size + 1 + 1 + 1 + 1 + 1, 0, none⟩ = some (.slice (some ⟨W.heap.size + 1 + 1 + 1 + 1, 0, none⟩) S S) := (cell_of_row _ _ 0 _ _ (0, 0) HM6.out.ba).trans rfl
                obtain ⟨av, hav⟩ : ∃ av, av = st3.A.getD Z false := ⟨_, rfl⟩
                rw [show (⟨st3.P.set Z (wrap64 (v + 1)), st3.A⟩ : Cts).A.getD Z false = av from hav.symm] at e1
                have HAV := hide hav
                have q4 : ∀ p : Past w6, p.to.cell? ⟨W.heap.size + 1 + 1 + 1 + 1 + 1, 0, none⟩ = some (.slice (some ⟨W.heap.size + 1 + 1 + 1 + 1, 0, none⟩) S S) := fun p => p.cell c5
                have q5 : ∀ p : Past w6, p.to.cell? ⟨W.heap.size + 1 + 1 + 1 + 1, Z, none⟩ = some (.bool av) := fun p => p.cell e1
                have HFL : Hid (((lz : Int) == 1) = f) := hide (by rw [HF.out]; by_cases h1 : lz = 1 <;> simp [h1]; omega)
                clear hav c5 e1 e2
                cases av
                ·
                  refine wpIn_region_pastR_tail 12 (by kernel_rfl) (by kernel_rfl) (by kernel_rfl) ?_
                  simp only [List.take_succ_cons, List.take_zero, List.drop_succ_cons, List.drop_zero]
                  repeat (first | go_big_quiet_step (fail) | quiet_step (fail))
                  refine wpQuiet_nil ?_
                  rintro _ ⟨pq, rfl⟩
                  obtain ⟨w7, hw7⟩ : ∃ w7, w7 = pq.to := ⟨_, rfl⟩
                  have hb7 : Below w6.heap.size w6 w7 := by rw [hw7]; exact pq.old
                  rw [← hw7]
                  have HM7 := hide (HM6.out.below (hb7.mono HM6.out.size))
                  obtain ⟨e1, e2⟩ := HM7.out.ct.cellA hZS
                  have HM8 := hide (HM7.out.setA hZS (false || f))
                  have hput : Hid ((⟨st3.P.set Z (wrap64 (v + 1)), st3.A.set Z (false || f)⟩ : Cts) = st3.put Z f) := hide (by unfold Cts.put; rw [Int.toNat_natCast, ← HV.out, ← HAV.out])
                  have hKO7 : Hid (KeepsOthers V w7) := hide (hKO6.out.trans (keepsOthers_below hb7))
                  have hKB7 : Hid (KeepB W.heap.size (W.heap.size + 1 + 1 + 1 + 1 + 1 + 1) V w7) := hide (hKB6.out.trans (KeepB.of_below hb7 (by have := HM6.out.size; omega) (by have := HM6.out.size; omega)))
                  clear q4 q5 hb7 hw7
                  gi_wp2_with (with_reducible refine leadAny _ ?_)
                  go_roundw
                  case rel => exact ⟨q + 1, st3.put Z f, by omega, by go_num, hide (by rw [← hput.out]; have h := HM8.out; (try rw [HFL.out]); exact h), HE, hide (hKO7.out.trans (KeepsOthers.setCell _ _ _)), hide (hKB7.out.trans ⟨(Below.refl _ _).setCell (by first | (simp; done) | (simp; omega) | (show _ ≤ _; omega)) _, Below.heap_setCell _ _ _ _ (by first | (simp; done) | (simp; omega) | omega)⟩)⟩
                  case measure => simp [intOf]; omega
                ·
                  refine wpIn_region_pastR_tail 12 (by kernel_rfl) (by kernel_rfl) (by kernel_rfl) ?_
                  simp only [List.take_succ_cons, List.take_zero, List.drop_succ_cons, List.drop_zero]
                  repeat (first | go_big_quiet_step (fail) | quiet_step (fail))
                  refine wpQuiet_nil ?_
                  rintro _ ⟨pq, rfl⟩
                  obtain ⟨w7, hw7⟩ : ∃ w7, w7 = pq.to := ⟨_, rfl⟩
                  have hb7 : Below w6.heap.size w6 w7 := by rw [hw7]; exact pq.old
                  rw [← hw7]
                  have HM7 := hide (HM6.out.below (hb7.mono HM6.out.size))
                  obtain ⟨e1, e2⟩ := HM7.out.ct.cellA hZS
                  have HM8 := hide (HM7.out.setA hZS (true || f))
                  have hput : Hid ((⟨st3.P.set Z (wrap64 (v + 1)), st3.A.set Z (true || f)⟩ : Cts) = st3.put Z f) := hide (by unfold Cts.put; rw [Int.toNat_natCast, ← HV.out, ← HAV.out])
                  have hKO7 : Hid (KeepsOthers V w7) := hide (hKO6.out.trans (keepsOthers_below hb7))
                  have hKB7 : Hid (KeepB W.heap.size (W.heap.size + 1 + 1 + 1 + 1 + 1 + 1) V w7) := hide (hKB6.out.trans (KeepB.of_below hb7 (by have := HM6.out.size; omega) (by have := HM6.out.size; omega)))
                  clear q4 q5 hb7 hw7
                  gi_wp2_with (with_reducible refine leadAny _ ?_)
                  go_roundw
                  case rel => exact ⟨q + 1, st3.put Z f, by omega, by go_num, hide (by rw [← hput.out]; have h := HM8.out; (try rw [HFL.out]); exact h), HE, hide (hKO7.out.trans (KeepsOthers.setCell _ _ _)), hide (hKB7.out.trans ⟨(Below.refl _ _).setCell (by first | (simp; done) | (simp; omega) | (show _ ≤ _; omega)) _, Below.heap_setCell _ _ _ _ (by first | (simp; done) | (simp; omega) | omega)⟩)⟩
                  case measure => simp [intOf]; omega
              · obtain ⟨v, hv⟩ := HM3.out.br
                obtain ⟨r1, r2⟩ := (⟨(cell_of_row _ _ 0 _ _ (0, 0) hv).trans rfl, frozen_of_row _ _ 0 _ _ hv⟩ : wr.cell? ⟨W.heap.size + 1, 0, none⟩ = some v ∧ wr.frozen? ⟨W.heap.size + 1, 0, none⟩ = false)
                have HV := hide hv
                clear hv hcell
                have hbad : Hid (sprC S X = none) := hide (spr_bad (bi_mem h1 h2) (.inr ⟨z, mem_of_get hg3.out, by omega⟩))
                by_cases hzn : z < 0
                · gi_wp2_with (with_reducible refine leadAny _ ?_)
                  exact ⟨hKO.out.trans (KeepsOthers.setCell _ _ _), rfl, ⟨by simpa [World.setCell] using HM3.out.size, box_set1 _ HV.out, HM3.out.ct.old.setCell (p := ⟨W.heap.size + 1, 0, none⟩) (by simp) _⟩, hbad.out⟩
                · have hzs : (S : Int) ≤ z := by omega
                  gi_wp2_with (with_reducible refine leadAny _ ?_)
                  exact ⟨hKO.out.trans (KeepsOthers.setCell _ _ _), rfl, ⟨by simpa [World.setCell] using HM3.out.size, box_set1 _ HV.out, HM3.out.ct.old.setCell (p := ⟨W.heap.size + 1, 0, none⟩) (by simp) _⟩, hbad.out⟩
            · obtain rfl : q = lz := by omega
              have hfin : Hid (bndC S (Cts.zero S) ((pre ++ [(⟨(i, j), xss, zs, h1, h2⟩ : Bi X)]).map zsOf) = some st3) := hide (by
                rw [List.map_append, bndC_append, HPRE.out]
                simp only [List.map_cons, List.map_nil, Option.bind_some]
                rw [zsOf_is h1 h2, bnd_go (by rw [← HLZ.out]; omega), ← HLZ.out, ← HR3.out, ← hE.out, HLZ.out, List.drop_length]
                rfl)
              gi_wp2_with (with_reducible refine leadAny _ ?_)
              exact ⟨hKO.out, hKB.out, st3, HM3.out, hfin.out⟩
      case done =>
        rintro D ys V hD rfl ⟨st, hM0, hfold⟩ hK
        have HM := hide hM0
        have hreg : Hid (regC S (Cts.zero S) X = some st) := hide (by rw [regC_flat, ← bAll_zs]; exact hfold)
        have HSP : Hid (sprC S X = if okFrom st S 0 = true then some st else none) := hide (by rw [sprC_reg hS1 hS20 (by rw [← HN.out]; exact hx1), hreg.out]; rfl)
        have c3 : V.cell? ⟨W.heap.size + 1 + 1 + 1, 0, none⟩ = some (.slice (some ⟨W.heap.size + 1 + 1, 0, none⟩) S S) := (cell_of_row _ _ 0 _ _ (0, 0) HM.out.bp).trans rfl
        have c5 : V.cell? ⟨W.heap.size + 1 + 1 + 1 + 1 + 1, 0, none⟩ = some (.slice (some ⟨W.heap.size + 1 + 1 + 1 + 1, 0, none⟩) S S) := (cell_of_row _ _ 0 _ _ (0, 0) HM.out.ba).trans rfl
        obtain ⟨v0, hv0⟩ := HM.out.br
        have HV0 := hide hv0
        obtain ⟨r1, r2⟩ := (⟨(cell_of_row _ _ 0 _ _ (0, 0) hv0).trans rfl, frozen_of_row _ _ 0 _ _ hv0⟩ : V.cell? ⟨W.heap.size + 1, 0, none⟩ = some v0 ∧ V.frozen? ⟨W.heap.size + 1, 0, none⟩ = false)
        have hne : W.heap.size + 1 ≠ D := by omega
        have HK2 : Hid (∀ bb : Bool, (V.setCell ⟨W.heap.size + 1, 0, none⟩ (.bool bb)).heap[D]? = some (.deferred (some []))) := hide (fun bb => (Below.heap_setCell _ _ _ _ (by simpa using hne.symm)).trans hK)
        have HFIN : Hid (∀ bb : Bool, Below W.heap.size W ((V.setCell ⟨W.heap.size + 1, 0, none⟩ (.bool bb)).putObj D (.deferred none))) := hide (fun bb =>
          (hM0.ct.old.setCell (p := ⟨W.heap.size + 1, 0, none⟩) (by simp) _).trans (belowK_b (w := W0) (by omega) _ D _ _ hD (HK2.out bb) rfl rfl))
        have HRES : Hid (∀ bb : Bool, ((V.setCell ⟨W.heap.size + 1, 0, none⟩ (.bool bb)).putObj D (.deferred none)).cell? ⟨W.heap.size + 1, 0, none⟩ = some (.bool bb)) := hide (fun bb =>
          (World.cell?_of_block (a := ⟨W.heap.size + 1, 0, none⟩) (World.putObj_heap_other (by simpa using hne))).trans ((cell_of_row _ _ 0 _ _ (0, 0) (box_set1 (.bool bb) HV0.out)).trans rfl))
        clear hM0 hfold hv0 hK hr6
        gi_wp2
        gi_loopw [72] (fun iv wr => ∃ q : Nat, q ≤ S ∧ iv = .int .i64 q ∧ wr = V ∧ Hid (okFrom st S q = okFrom st S 0)) (fun iv _ => S - (intOf iv).toNat)
        case atStart => exact ⟨0, by omega, rfl, rfl, hide rfl⟩
        case round =>
          obtain ⟨q, hq, rfl, rfl, hO⟩ := hrel
          by_cases hqS : q < S
          · obtain ⟨d1, d2⟩ := HM.out.ct.cellP hqS
            obtain ⟨e1, e2⟩ := HM.out.ct.cellA hqS
            obtain ⟨v, hv⟩ : ∃ v, v = st.P.getD q 0 := ⟨_, rfl⟩
            obtain ⟨av, hav⟩ : ∃ av, av = st.A.getD q false := ⟨_, rfl⟩
            rw [← hv] at d1
            rw [← hav] at e1
            have HV := hide hv
            have HAV := hide hav
            clear hv hav
            by_cases hv1 : v < 1
            ·
              have hno : Hid (rb = false) := hide (by rw [HRB.out]; exact isSprB_none (by rw [HSP.out, ← hO.out, okFrom_no hqS (badC_low (by rw [← HV.out]; exact hv1))]; rfl))
              gi_wp2
              refine ⟨by simp, .inl ⟨_, _, rfl, run_takeDeferred (HK2.out false), ?_⟩⟩
              have hres := HRES.out false
              refine ⟨.bool false, by simp [results, Try.results22, go_sem, hres], ?_⟩
              exact ⟨ret_bool hno.out.symm, HFIN.out false⟩
            · by_cases hv3 : 3 < v
              ·
                have hno : Hid (rb = false) := hide (by rw [HRB.out]; exact isSprB_none (by rw [HSP.out, ← hO.out, okFrom_no hqS (badC_high (by rw [← HV.out]; exact hv3))]; rfl))
                gi_wp2
                refine ⟨by simp, .inl ⟨_, _, rfl, run_takeDeferred (HK2.out false), ?_⟩⟩
                have hres := HRES.out false
                refine ⟨.bool false, by simp [results, Try.results22, go_sem, hres], ?_⟩
                exact ⟨ret_bool hno.out.symm, HFIN.out false⟩
              · cases av
                · have hgo : Hid (okFrom st S (q + 1) = okFrom st S 0) := hide (by rw [← hO.out, okFrom_go hqS (badC_ok (by rw [← HV.out]; exact hv1) (by rw [← HV.out]; exact hv3) (by rw [← HAV.out]; simp))])
                  gi_wp2
                  go_roundw
                  case rel => exact ⟨q + 1, by omega, by go_num, (by first | trivial | rfl), hgo⟩
                  case measure => simp [intOf]; omega
                · by_cases hv2 : 1 < v
                  ·
                    have hno : Hid (rb = false) := hide (by rw [HRB.out]; exact isSprB_none (by rw [HSP.out, ← hO.out, okFrom_no hqS (badC_alone HAV.out.symm (by rw [← HV.out]; exact hv2))]; rfl))
                    gi_wp2
                    refine ⟨by simp, .inl ⟨_, _, rfl, run_takeDeferred (HK2.out false), ?_⟩⟩
                    have hres := HRES.out false
                    refine ⟨.bool false, by simp [results, Try.results22, go_sem, hres], ?_⟩
                    exact ⟨ret_bool hno.out.symm, HFIN.out false⟩
                  · have hgo : Hid (okFrom st S (q + 1) = okFrom st S 0) := hide (by rw [← hO.out, okFrom_go hqS (badC_ok (by rw [← HV.out]; exact hv1) (by rw [← HV.out]; exact hv3) (fun _ => by rw [← HV.out]; exact hv2))])
                    gi_wp2
                    go_roundw
                    case rel => exact ⟨q + 1, by omega, by go_num, (by first | trivial | rfl), hgo⟩
                    case measure => simp [intOf]; omega
          · obtain rfl : q = S := by omega
            have hyes : Hid (rb = true) := hide (by rw [HRB.out]; exact isSprB_some (by rw [HSP.out, ← hO.out, okFrom_end]; rfl))
            gi_wp2
            refine ⟨by simp, .inl ⟨_, _, rfl, run_takeDeferred (HK2.out true), ?_⟩⟩
            have hres := HRES.out true
            refine ⟨.bool true, by simp [results, Try.results22, go_sem, hres], ?_⟩
            exact ⟨ret_bool hyes.out.symm, HFIN.out true⟩
      case stop =>
        rintro D cc pre V hD _ ⟨rfl, hXx, hno⟩ hK
        have hne : W.heap.size + 1 ≠ D := by omega
        have HFIN : Hid (Below W.heap.size W (V.putObj D (.deferred none))) := hide (hXx.2.2.trans (belowK_b (w := W0) (by omega) _ D _ _ hD hK rfl rfl))
        have hres : (V.putObj D (.deferred none)).cell? ⟨W.heap.size + 1, 0, none⟩ = some (.bool false) :=
          (World.cell?_of_block (a := ⟨W.heap.size + 1, 0, none⟩) (World.putObj_heap_other (by simpa using hne))).trans ((cell_of_row _ _ 0 _ _ (0, 0) hXx.2.1).trans rfl)
        have HFL : Hid (rb = false) := hide (by rw [HRB.out]; exact isSprB_none hno)
        clear hXx hno
        gi_wp2
        refine ⟨by simp, .inl ⟨_, _, rfl, run_takeDeferred hK, ?_⟩⟩
        refine ⟨.bool false, by simp [results, Try.results22, go_sem, hres], ?_⟩
        exact ⟨ret_bool HFL.out.symm, HFIN.out⟩
  ·
    have hno : Hid (isSprB s X = false) := hide (isSprB_none (sprC_no (by omega)))
    rw [hno.out]
    have hB0 := hide (Below.alloc' (below_alloc W (.cells #[.int .i64 s, .slice a X.length c] 29)) (.cells #[.bool false] 4))
    go_enter Try.func22, Try.ntmps22
    have hB1 := hide (hB0.out.setCell (p := ⟨W.heap.size + 1, 0, none⟩) (by simp) (.bool false))
    go_wp2_with fail
    all_goals
      refine bodyPost_ret (v := .bool false) (by simp [results, Try.results22, go_sem]) rfl ⟨rfl, ?_⟩
      first | exact hB1.out | exact hB0.out
end Go.Proofs.Ytlllkmobhjlmoab
