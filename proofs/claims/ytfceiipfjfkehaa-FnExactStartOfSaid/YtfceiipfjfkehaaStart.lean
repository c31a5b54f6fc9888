/-
  StartOf: both texts against one plain function.
-/
import Derived.Test.YtfceiipfjfkehaaCubeOut
import Derived.Test.YtfceiipfjfkehaaEnds0
import Derived.Deep.AppendLies
namespace Go.Proofs.Ytfceiipfjfkehaa
open Go.RowKit

theorem alloc_setCell_agree (w : World) (p : Addr) (u : Value) (o : Obj) (b : Nat) (h : b ≠ p.block) : ((w.setCell p u).alloc o).heap[b]? = (w.alloc o).heap[b]? := by
  show ((w.setCell p u).heap.push o)[b]? = (w.heap.push o)[b]?
  have hs : (w.setCell p u).heap.size = w.heap.size := by simp [World.setCell]
  rw [Array.getElem?_push, Array.getElem?_push, hs]
  split
  · rfl
  · exact Below.heap_setCell _ _ _ _ h

def startRows (n : Nat) : List (List Int) := (List.range n).map fun i : Nat => [(i : Int)]
theorem startRows_get {n i : Nat} (h : i < n) : (startRows n)[i]? = some [(i : Int)] := by simp [startRows, h]
/-- The spots, the regions, the code. -/
def startR (n : Int) : Int × List (List (List Int)) × Int := if 1 ≤ n ∧ n ≤ 6 then (n, [startRows n.toNat], 0) else (0, [], 2)

/-- What a call hands back that has made a position of its own, and a code. -/
def NewCubeC (r : Int × List (List (List Int)) × Int) (lo : Nat) (w : World) (e : Ending) (w' : World) : Prop :=
  ∃ a c lss, e = .returned (.tuple #[.agg #[.int .i64 r.1, .slice a r.2.1.length c], .int .i64 r.2.2]) ∧ CubeLeaves w' lo a r.2.1 lss ∧ Below w.heap.size w w'

theorem odd_far {w : World} {b lo n : Nat} {cs : Array Value} {T e : TypeId} {v : Value} {xs : List Value} (hb : w.heap[b]? = some (.cells cs T (0, 0))) (h : w.ownsRow lo e 1 v n xs) (hne : T ≠ e) : some b ≠ v.ownBlock := by
  rcases h.2 with ⟨rfl, _⟩ | ⟨g, cap, cur, rfl, _, hg, _⟩
  · simp [Value.ownBlock]
  · simp only [Value.ownBlock, ne_eq, Option.some.injEq]
    rintro rfl
    rw [hb] at hg
    simp at hg
    exact hne hg.2

def spotV (g : Nat) : Value := .slice (some ⟨g, 0, none⟩) 1 1
/-- The region under way: p boundaries, each one a block of its own. -/
def Grow (w : World) (lo : Nat) (v : Value) (gs : List Nat) : Prop :=
  w.ownsRow lo 35 1 v gs.length (gs.map spotV) ∧ (∀ (i g : Nat), gs[i]? = some g → lo ≤ g ∧ w.heap[g]? = some (Obj.cells #[Value.int .i64 (i : Int)] 2 (0, 0))) ∧ gs.Nodup

theorem grow_step {w w1 w4 : World} {lo : Nat} {v v' : Value} {gs : List Nat} (h : Grow w lo v gs) (hlo : lo ≤ w.heap.size)
    (h1 : w1 = w.alloc (.cells #[.int .i64 (gs.length : Int)] 2)) (ho : w4.ownsRow lo 35 1 v' (gs.length + 1) (gs.map spotV ++ [spotV w.heap.size]))
    (hg : (w1.alloc (.cells #[spotV w.heap.size] 35)).grownBy w4 v.ownBlock) : Grow w4 lo v' (gs ++ [w.heap.size]) := by
  obtain ⟨h2, h3, h4⟩ := h
  have hal : Below w.heap.size w (w1.alloc (.cells #[spotV w.heap.size] 35)) := by rw [h1]; exact ((Below.refl _ _).alloc (Nat.le_refl _) _).alloc (by simp) _
  have hnew : (w1.alloc (.cells #[spotV w.heap.size] 35)).heap[w.heap.size]? = some (Obj.cells #[Value.int .i64 (gs.length : Int)] 2 (0, 0)) := by
    rw [h1, Below.heap_alloc _ _ _ (by simp)]
    exact heap_alloc_new w _
  have hoa := ownsRow_keep h2 hal
  refine ⟨by simpa using ho, fun i g hi => ?_, ?_⟩
  · by_cases hlt : i < gs.length
    · rw [List.getElem?_append_left hlt] at hi
      obtain ⟨k1, k2⟩ := h3 i g hi
      have k3 := (hal.block g (block_lt k2)).trans k2
      exact ⟨k1, (hg.block g (block_lt k3) (odd_far k3 hoa (by decide))).trans k3⟩
    · have hi' : i = gs.length := by
        have := (List.getElem?_eq_some_iff.1 hi).1
        simp at this
        omega
      subst hi'
      simp at hi
      subst hi
      exact ⟨hlo, (hg.block _ (block_lt hnew) (odd_far hnew hoa (by decide))).trans hnew⟩
  · rw [List.nodup_append]
    refine ⟨h4, by simp, fun a ha b hb => ?_⟩
    simp at hb
    subst hb
    obtain ⟨i, hi⟩ := List.mem_iff_getElem?.1 ha
    have := block_lt (h3 i a hi).2
    omega

def spotLf (g : Nat) : Lf := ⟨some ⟨g, 0, none⟩, 1⟩
theorem spots_total : ∀ gs : List Nat, total (gs.map spotLf) = gs.length
  | [] => rfl
  | g :: r => by simp [total, spots_total r, spotLf]; omega
theorem spots_apart {gs : List Nat} (h : gs.Nodup) : (gs.map spotLf).Pairwise Lf.apart := by
  rw [List.pairwise_map]
  refine h.imp (fun {a b} hab => ?_)
  rintro x o ⟨o1, e1, _⟩ ⟨o2, e2, _⟩
  simp [spotLf] at e1 e2
  omega

theorem grow_leaves {w : World} {lo : Nat} {a : Option Addr} {c : Nat} {gs : List Nat} (h : Grow w lo (.slice a gs.length c) gs) (hn : gs.length ≤ 6) : GameLeaves w lo a (startRows gs.length) (gs.map spotLf) := by
  obtain ⟨h2, h3, h4⟩ := h
  have hget : ∀ (i : Nat) (l : Lf), (gs.map spotLf)[i]? = some l → ∃ g, gs[i]? = some g ∧ l = spotLf g := by
    intro i l hi
    rw [List.getElem?_map] at hi
    obtain ⟨g, hg, rfl⟩ := Option.map_eq_some_iff.1 hi
    exact ⟨g, hg, rfl⟩
  refine ⟨by simp [startRows], fun hne => ?_, fun b off e => ?_, fun i l hi => ?_, spots_apart h4, by rw [spots_total]; omega⟩
  · have hpos : 0 < gs.length := by
      have := List.length_pos_iff.2 hne
      simpa using this
    rcases h2.2 with ⟨_, h0⟩ | ⟨g, cap, cur, hv, _⟩
    · omega
    · have hv' := hv
      simp only [Value.slice.injEq, true_and] at hv'
      obtain ⟨rfl, rfl⟩ := hv'
      refine ⟨g, 0, rfl, fun i l hi => ?_⟩
      obtain ⟨gi, hgi, rfl⟩ := hget i l hi
      have hlt := (List.getElem?_eq_some_iff.1 hgi).1
      refine ⟨1, ?_⟩
      rw [Nat.zero_add, h2.cellAt i (by omega), List.getElem?_map, hgi]
      rfl
  · rcases h2.2 with ⟨hv, _⟩ | ⟨g, cap, cur, hv, hlo, hh, _⟩
    · simp at hv
      rw [hv.1] at e
      cases e
    · simp only [Value.slice.injEq, true_and] at hv
      rw [hv.1] at e
      simp at e
      obtain ⟨rfl, _⟩ := e
      exact ⟨hlo, cur, hh⟩
  · obtain ⟨g, hg, rfl⟩ := hget i l hi
    have hlt := (List.getElem?_eq_some_iff.1 hg).1
    obtain ⟨hlo, hh⟩ := h3 i g hg
    refine ⟨[(i : Int)], startRows_get hlt, rfl, fun _ => ⟨g, 0, rfl, fun j hj => ?_⟩, .inr ⟨g, 0, _, rfl, hh, by simp [spotLf]⟩, fun _ => ⟨g, 0, rfl, hlo⟩⟩
    have : j = 0 := by simp at hj; exact hj
    subst this
    rw [cell_of_row w g (0 + 0) _ _ (0, 0) hh]
    rfl

/-- The one region in its slice. -/
theorem cube_one {w : World} {lo b : Nat} {a : Option Addr} {c : Nat} {xss : List (List Int)} {ls : List Lf} (h : GameLeaves w lo a xss ls) (hb : w.heap[b]? = some (.cells #[.slice a xss.length c] 42 (0, 0))) (hlo : lo ≤ b) : CubeLeaves w lo (some ⟨b, 0, none⟩) [xss] [ls] := by
  refine ⟨rfl, fun b' off e => ?_, fun _ => ⟨b, 0, rfl, fun i x hi => ?_⟩, by simpa using h.apart, by simpa using h.tot⟩
  · simp at e
    obtain ⟨rfl, _⟩ := e
    exact ⟨hlo, _, hb⟩
  · cases i with
    | zero =>
      simp at hi
      subst hi
      exact ⟨a, c, ls, rfl, by rw [cell_of_row w b (0 + 0) _ _ (0, 0) hb]; rfl, h⟩
    | succ i => simp at hi

set_option maxRecDepth 100000 in
set_option maxHeartbeats 2000000 in
theorem implStart_any (n : Int) (w : World) :
    Calls Try.prog 15 #[.int .i64 n] w (NewCubeC (startR n) w.heap.size w) := by
  obtain ⟨i1, hi1, hy0, hy1, hy2⟩ := info_parts Try.info35
  obtain ⟨r, hr⟩ : ∃ r, r = startR n := ⟨_, rfl⟩
  rw [← hr]
  unfold startR at hr
  have hB0 : Below w.heap.size w (w.alloc (.cells #[.int .i64 0, .slice none 0 0] 24)) := (Below.refl _ _).alloc (Nat.le_refl _) _
  have hR0 : (w.alloc (.cells #[.int .i64 0, .slice none 0 0] 24)).heap[w.heap.size]? = some (.cells #[.int .i64 0, .slice none 0 0] 24 (0, 0)) := heap_alloc_new w _
  have hno : ∀ w', Below w.heap.size w w' → NewCubeC (0, [], 2) w.heap.size w (.returned (.tuple #[.agg #[.int .i64 0, .slice none 0 0], .int .i64 2])) w' := fun w' h => ⟨none, 0, [], rfl, CubeLeaves.nil _ _, h⟩
  have HNO := hide hno
  clear hno
  by_cases hn : 1 ≤ n ∧ n ≤ 6
  · obtain ⟨hn1, hn6⟩ := hn
    rw [if_pos ⟨hn1, hn6⟩] at hr
    obtain ⟨k, rfl⟩ := Int.eq_ofNat_of_zero_le (show 0 ≤ n by omega)
    have hd1 : decide ((k : Int) < 1) = false := decide_eq_false (by omega)
    have hd6 : decide ((6 : Int) < (k : Int)) = false := decide_eq_false (by omega)
    have HR := hide hr
    clear hr
    go_enter Try.func15, Try.ntmps15
    go_wp2_with fail
    obtain ⟨W0, hW0⟩ : ∃ W0, W0 = w.alloc (.cells #[.int .i64 0, .slice none 0 0] 24) := ⟨_, rfl⟩
    rw [← hW0] at hB0 hR0 ⊢
    have hsz : w.heap.size + 1 ≤ W0.heap.size := by rw [hW0]; simp
    have hG0 : Hid (Grow W0 (w.heap.size + 1) (.slice none 0 0) []) := hide ⟨World.ownsRow_nil _ _ _ _, fun _ _ h => by simp at h, by simp⟩
    have hD0 := hide (Below.refl (w.heap.size + 1) W0)
    have HR0 := hide hR0
    clear hW0 hR0
    go_loopw [4, 14] (fun v i wr => ∃ (gs : List Nat) (v0 : Value), v0 = v ∧ gs.length ≤ k ∧ i = .int .i64 gs.length ∧ Grow wr (w.heap.size + 1) v gs ∧ Below (w.heap.size + 1) W0 wr) (fun _ i _ => k - (intOf i).toNat)
    case atStart => exact ⟨[], _, rfl, Nat.zero_le _, rfl, hG0.out, hD0.out⟩
    case round =>
      clear hG0 hD0
      obtain ⟨gs, v, rfl, hgk, rfl, hG, hD⟩ := hrel
      have hszr : w.heap.size + 1 ≤ wr.heap.size := Nat.le_trans hsz hD.size
      by_cases hlt : gs.length < k
      · have hown := hG.1
        have hnb : ((wr.alloc (.cells #[.int .i64 (gs.length : Int)] 2)).alloc (.cells #[.slice (some ⟨wr.heap.size, 0, none⟩) 1 1] 35)).heap[wr.heap.size + 1]? = some (.cells #[.slice (some ⟨wr.heap.size, 0, none⟩) 1 1] 35 (0, 0)) := by
          have := heap_alloc_new (wr.alloc (.cells #[.int .i64 (gs.length : Int)] 2)) (.cells #[.slice (some ⟨wr.heap.size, 0, none⟩) 1 1] 35 (0, 0))
          simpa using this
        have HNB := hide hnb
        have HG := hide hG
        have HD := hide hD
        clear hnb hG hD
        go_wp2_with (at_builtin; refine wpList_append_own _ rfl _ _ 42 rfl (w.heap.size + 1) 35 i1 (.slice none 0 0) 1 24 Try.underlying42 hi1 hy0 hy1 hy2 rfl (by decide) _ _ _ rfl ((hown.alloc _).alloc _) ⟨wr.heap.size + 1, 0, none⟩ 1 1 [.slice (some ⟨wr.heap.size, 0, none⟩) 1 1] rfl rfl (World.news_of_block HNB.out) (by simp [Value.oneCell']) (by unfold maxLen; omega) (by omega) (by simp; omega) ?_)
        intro v' w4 hown' hgrow _
        have hN : Hid (Grow w4 (w.heap.size + 1) v' (gs ++ [wr.heap.size]) ∧ Below (w.heap.size + 1) W0 w4) := by
          refine hide ⟨grow_step HG.out hszr rfl hown' hgrow, ?_⟩
          exact ((HD.out.alloc hszr _).alloc (by simp; omega) _).grown hgrow (by simp; omega) (fun j hj => (((hown.alloc (.cells #[.int .i64 (gs.length : Int)] 2)).alloc (.cells #[.slice (some ⟨wr.heap.size, 0, none⟩) 1 1] 35)).lt j hj).1)
        clear hown hown' hgrow
        go_wp2_with fail
        go_roundw
        case rel => exact ⟨gs ++ [wr.heap.size], _, rfl, by simp; omega, by simp, hN.out.1, hN.out.2⟩
        case measure => simp [intOf]; omega
      · obtain rfl : k = gs.length := by omega
        obtain ⟨a, c, rfl⟩ := own_form hG.1
        have hBr : Below w.heap.size w wr := hB0.trans (hD.mono (by omega))
        have hRr := (hD.block w.heap.size (by omega)).trans HR0.out
        have hc0 : wr.cell? ⟨w.heap.size, 0, none⟩ = some (.int .i64 0) := by rw [cell_of_row wr w.heap.size 0 _ _ (0, 0) hRr]; rfl
        have hc1 : wr.cell? ⟨w.heap.size, 1, none⟩ = some (.slice none 0 0) := by rw [cell_of_row wr w.heap.size 1 _ _ (0, 0) hRr]; rfl
        have hf0 : wr.frozen? ⟨w.heap.size, 0, none⟩ = false := frozen_of_row wr w.heap.size 0 _ _ hRr
        have hf1 : wr.frozen? ⟨w.heap.size, 1, none⟩ = false := frozen_of_row wr w.heap.size 1 _ _ hRr
        have hlt : w.heap.size < wr.heap.size := by omega
        have hfin : ∀ w', (∀ b, b ≠ w.heap.size → w'.heap[b]? = (wr.alloc (.cells #[.slice a gs.length c] 42)).heap[b]?) → Below w.heap.size w w' → NewCubeC r w.heap.size w (.returned (.tuple #[.agg #[.int .i64 gs.length, .slice (some ⟨wr.heap.size, 0, none⟩) 1 1], .int .i64 0])) w' := by
          intro w' hag hB
          have hg := ((grow_leaves hG (by omega)).keep ((Below.refl _ _).alloc (Nat.le_refl _) (.cells #[.slice a gs.length c] 42)))
          have hb := heap_alloc_new wr (.cells #[.slice a gs.length c] 42 (0, 0))
          rw [HR.out]
          have hl : (startRows gs.length).length = gs.length := by simp [startRows]
          have hcu := cube_one (b := wr.heap.size) (xss := startRows gs.length) (a := a) (c := c) hg (by rw [hl]; exact hb) hszr
          have hcu2 : CubeLeaves w' w.heap.size (some ⟨wr.heap.size, 0, none⟩) [startRows gs.length] [gs.map spotLf] := (hcu.agree (fun b hb' _ => hag b (by omega))).mono (by omega)
          exact ⟨some ⟨wr.heap.size, 0, none⟩, 1, [gs.map spotLf], rfl, hcu2, hB⟩
        have HF := hide hfin
        clear hfin hRr hG hD
        go_wp2_with fail
        exact bodyPost_ret (v := .tuple #[.agg #[.int .i64 gs.length, .slice (some ⟨wr.heap.size, 0, none⟩) 1 1], .int .i64 0]) (by simp [results, Try.results15, go_sem, hc0, hc1, hlt]) rfl
          (HF.out _ (fun b hb => by rw [alloc_setCell_agree _ _ _ _ _ hb, alloc_setCell_agree _ _ _ _ _ hb]) (((hBr.setCell (p := ⟨w.heap.size, 0, none⟩) (Nat.le_refl _) _).setCell (p := ⟨w.heap.size, 1, none⟩) (Nat.le_refl _) _).alloc (by simp [World.setCell]; omega) _))
  · rw [if_neg hn] at hr
    subst hr
    by_cases h1 : n < 1
    · clear hn
      go_enter Try.func15, Try.ntmps15
      go_wp2_with fail
      exact bodyPost_ret (v := .tuple #[.agg #[.int .i64 0, .slice none 0 0], .int .i64 2]) (by simp [results, Try.results15, go_sem]) rfl (HNO.out _ (by first | exact hB0 | exact (hB0.setCell (p := ⟨w.heap.size, 0, none⟩) (Nat.le_refl _) _).setCell (p := ⟨w.heap.size, 1, none⟩) (Nat.le_refl _) _))
    · have h6 : 6 < n := by omega
      clear hn
      go_enter Try.func15, Try.ntmps15
      go_wp2_with fail
      exact bodyPost_ret (v := .tuple #[.agg #[.int .i64 0, .slice none 0 0], .int .i64 2]) (by simp [results, Try.results15, go_sem]) rfl (HNO.out _ (by first | exact hB0 | exact (hB0.setCell (p := ⟨w.heap.size, 0, none⟩) (Nat.le_refl _) _).setCell (p := ⟨w.heap.size, 1, none⟩) (Nat.le_refl _) _))
end Go.Proofs.Ytfceiipfjfkehaa
