/-
  moveLists.game: the game of the lists, its rows in one block.
-/
import Derived.Test.YtlgogpphlnogoaaLists
import Derived.Test.YtlgogpphlnogoaaGameOut
namespace Go.Proofs.Ytlgogpphlnogoaa
open Go.RowKit

/-- Where the i-th list begins in the row. -/
def offOf (xss : List (List Int)) (i : Nat) : Nat := (xss.take i).flatten.length
def stopsOf (xss : List (List Int)) : List Int := (List.range xss.length).map fun i => ((offOf xss (i + 1) : Nat) : Int)
theorem offOf_zero (xss : List (List Int)) : offOf xss 0 = 0 := by simp [offOf]
theorem offOf_succ {xss : List (List Int)} {i : Nat} {zs : List Int} (h : xss[i]? = some zs) : offOf xss (i + 1) = offOf xss i + zs.length := by
  unfold offOf
  rw [List.take_add_one, h]
  simp
theorem offOf_le (xss : List (List Int)) (i : Nat) : offOf xss i ≤ xss.flatten.length := by
  unfold offOf
  have : xss.flatten.length = (xss.take i).flatten.length + (xss.drop i).flatten.length := by
    rw [← List.length_append, ← List.flatten_append, List.take_append_drop]
  omega
theorem offOf_mono (xss : List (List Int)) {i j : Nat} (h : i ≤ j) : offOf xss i ≤ offOf xss j := by
  unfold offOf
  have : xss.take i = (xss.take j).take i := by rw [List.take_take]; congr 1; omega
  rw [this]
  have h2 := offOf_le (xss.take j) i
  unfold offOf at h2
  exact h2
theorem flat_get {xss : List (List Int)} {i j : Nat} {zs : List Int} (h : xss[i]? = some zs) (hj : j < zs.length) : xss.flatten[offOf xss i + j]? = zs[j]? := by
  have e : xss.flatten = (xss.take i).flatten ++ (zs ++ (xss.drop (i + 1)).flatten) := by
    have hx := List.take_append_drop i xss
    rw [drop_of_get h] at hx
    conv => lhs; rw [← hx]
    simp
  rw [e]
  unfold offOf
  rw [List.getElem?_append_right (by omega), List.getElem?_append_left (by omega)]
  congr 1
  omega
theorem stopsOf_get {xss : List (List Int)} {i : Nat} (h : i < xss.length) : (stopsOf xss)[i]? = some ((offOf xss (i + 1) : Nat) : Int) := by simp [stopsOf, h]
theorem stopsOf_length (xss : List (List Int)) : (stopsOf xss).length = xss.length := by simp [stopsOf]
theorem stopsOf_snoc (xss : List (List Int)) (cur : List Int) : stopsOf (xss ++ [cur]) = stopsOf xss ++ [((xss.flatten ++ cur).length : Int)] := by
  unfold stopsOf
  rw [List.length_append, List.length_singleton, List.range_succ, List.map_append]
  congr 1
  · refine List.map_congr_left (fun i hi => ?_)
    have hi' := List.mem_range.1 hi
    unfold offOf
    rw [List.take_append_of_le_length (by omega)]
  · simp only [List.map_cons, List.map_nil, offOf]
    rw [List.take_of_length_le (by simp)]
    simp

/-- The i-th list's leaf, the row beginning at 'ar'. -/
def leafOf (ar : Option Addr) (xss : List (List Int)) (i : Nat) : Lf :=
  ⟨if (xss[i]?.getD []).length = 0 then ar else ar.map (fun x => ⟨x.block, offOf xss i, none⟩), (xss[i]?.getD []).length⟩
theorem leaf_apart {ar : Option Addr} {xss : List (List Int)} {i j : Nat} (h : i < j) : (leafOf ar xss i).apart (leafOf ar xss j) := by
  rintro b o ⟨o1, e1, h1, h2⟩ ⟨o2, e2, h3, h4⟩
  unfold leafOf at e1 e2 h2 h4
  dsimp only at e1 e2 h2 h4
  by_cases n1 : (xss[i]?.getD []).length = 0
  · omega
  by_cases n2 : (xss[j]?.getD []).length = 0
  · omega
  rw [if_neg n1] at e1
  rw [if_neg n2] at e2
  cases ar with
  | none => simp at e1
  | some x =>
    simp at e1 e2
    obtain ⟨_, rfl⟩ := e1
    obtain ⟨_, rfl⟩ := e2
    cases hz : xss[i]? with
    | none => rw [hz] at n1; simp at n1
    | some zs =>
      rw [hz] at h2
      simp at h2
      have := offOf_succ hz
      have := offOf_mono xss (show i + 1 ≤ j by omega)
      omega
theorem leaves_pairwise (ar : Option Addr) (xss : List (List Int)) : ∀ n, ((List.range n).map (leafOf ar xss)).Pairwise Lf.apart
  | 0 => by simp
  | n + 1 => by
    rw [List.range_succ, List.map_append, List.pairwise_append]
    refine ⟨leaves_pairwise ar xss n, by simp, fun l hl m hm => ?_⟩
    simp at hl hm
    obtain ⟨i, hi, rfl⟩ := hl
    subst hm
    exact leaf_apart hi
theorem leaves_total (ar : Option Addr) (xss : List (List Int)) : ∀ n, n ≤ xss.length → total ((List.range n).map (leafOf ar xss)) = offOf xss n
  | 0, _ => by simp [total, offOf]
  | n + 1, h => by
    rw [List.range_succ, List.map_append, total_append, leaves_total ar xss n (by omega)]
    have hg : xss[n]? = some xss[n] := List.getElem?_eq_getElem (by omega)
    rw [offOf_succ hg]
    simp [total, leafOf, hg]

/-- What the rounds of 'game' have put: k rows. -/
def gameRow (ar : Option Addr) (xss : List (List Int)) (k : Nat) : Nat → Value := fun i =>
  if i < k then .slice (leafOf ar xss i).a (leafOf ar xss i).n (leafOf ar xss i).n else .slice none 0 0
theorem gameRow_set {w : World} {b : Nat} {t : TypeId} {n : Nat} {ar : Option Addr} {xss : List (List Int)} {k : Nat} {u : Value} (h : w.rowIs b t n (gameRow ar xss k)) (hu : u = .slice (leafOf ar xss k).a (leafOf ar xss k).n (leafOf ar xss k).n) :
    (w.setCell ⟨b, k, none⟩ u).rowIs b t n (gameRow ar xss (k + 1)) := by
  refine (h.set k u).congr ?_
  intro i _
  unfold gameRow
  by_cases e : i = k
  · subst e; simp [hu]
  · simp only [e, if_false]
    by_cases h1 : i < k
    · rw [if_pos h1, if_pos (by omega)]
    · rw [if_neg h1, if_neg (by omega)]

def NewLeaves (xss : List (List Int)) (lo : Nat) (w : World) (e : Ending) (w' : World) : Prop :=
  ∃ a c ls, e = .returned (.agg #[.slice a xss.length c]) ∧ GameLeaves w' lo a xss ls ∧ Below w.heap.size w w'

/-- The rows of a list that is owned, cut at the stops. -/
theorem leaves_of {w : World} {lo M : Nat} {ar : Option Addr} {cr : Nat} {xss : List (List Int)} (hr : w.ownsRow lo 2 1 (.slice ar xss.flatten.length cr) xss.flatten.length (xss.flatten.map intV)) (hM : w.rowIs M 26 xss.length (gameRow ar xss xss.length)) (hlo : lo ≤ M) (ht : xss.flatten.length ≤ 1048576) :
    GameLeaves w lo (some ⟨M, 0, none⟩) xss ((List.range xss.length).map (leafOf ar xss)) := by
  have hget : ∀ i l, ((List.range xss.length).map (leafOf ar xss))[i]? = some l → i < xss.length ∧ l = leafOf ar xss i := by
    intro i l hi
    have hlt : i < xss.length := by
      have := (List.getElem?_eq_some_iff.1 hi).1
      simpa using this
    simp [hlt] at hi
    exact ⟨hlt, hi.symm⟩
  refine ⟨by simp, fun _ => ⟨M, 0, rfl, fun i l hi => ?_⟩, fun b off e => ?_, fun i l hi => ?_, leaves_pairwise ar xss _, ?_⟩
  · obtain ⟨hlt, rfl⟩ := hget i l hi
    refine ⟨(leafOf ar xss i).n, ?_⟩
    rw [Nat.zero_add, hM.cell hlt]
    unfold gameRow
    rw [if_pos hlt]
  · simp at e
    obtain ⟨rfl, _⟩ := e
    obtain ⟨c, hc, _⟩ := hM
    exact ⟨hlo, c, hc⟩
  · obtain ⟨hlt, rfl⟩ := hget i l hi
    have hg : xss[i]? = some xss[i] := List.getElem?_eq_getElem hlt
    obtain ⟨zs, hzs⟩ : ∃ zs, zs = xss[i] := ⟨_, rfl⟩
    rw [← hzs] at hg
    have hn : (leafOf ar xss i).n = zs.length := by unfold leafOf; rw [hg]; rfl
    refine ⟨zs, hg, hn, ?_, ?_, ?_⟩
    · intro hne
      have hpos : zs.length ≠ 0 := by
        have := List.length_pos_iff.2 hne
        simp at this
        omega
      rcases hr.2 with ⟨_, h0⟩ | ⟨g, cap, cur, hv, _, hh, _⟩
      · have := offOf_succ hg
        have := offOf_le xss (i + 1)
        omega
      · simp only [Value.slice.injEq, true_and] at hv
        obtain ⟨rfl, _⟩ := hv
        refine ⟨g, offOf xss i, by unfold leafOf; rw [hg]; simp [hpos], fun j hj => ?_⟩
        have hj' : j < zs.length := by simpa using hj
        have hle := offOf_le xss (i + 1)
        have hsu := offOf_succ hg
        rw [hr.cellAt (offOf xss i + j) (by omega)]
        simp only [List.getElem?_map]
        rw [flat_get hg hj']
    · by_cases h0 : zs.length = 0
      · exact .inl (by omega)
      · rcases hr.2 with ⟨_, h1⟩ | ⟨g, cap, cur, hv, _, hh, hcap, _, hsz, _⟩
        · have := offOf_succ hg
          have := offOf_le xss (i + 1)
          omega
        · simp only [Value.slice.injEq, true_and] at hv
          obtain ⟨rfl, rfl⟩ := hv
          have hle := offOf_le xss (i + 1)
          have hsu := offOf_succ hg
          refine .inr ⟨g, offOf xss i, cur, by unfold leafOf; rw [hg]; simp [h0], hh, by omega⟩
    · intro hpos
      rcases hr.2 with ⟨_, h1⟩ | ⟨g, cap, cur, hv, hlg, hh, _⟩
      · have := offOf_succ hg
        have := offOf_le xss (i + 1)
        omega
      · simp only [Value.slice.injEq, true_and] at hv
        obtain ⟨rfl, _⟩ := hv
        exact ⟨g, offOf xss i, by unfold leafOf; rw [hg]; simp; intro e; rw [hn] at hpos; simp [e] at hpos, hlg⟩
  · rw [leaves_total ar xss _ (Nat.le_refl _)]
    exact Nat.le_trans (offOf_le _ _) ht

set_option maxRecDepth 100000 in
set_option maxHeartbeats 2000000 in
theorem game_any (lo Bx : Nat) (xss : List (List Int)) (w : World) (h : Lists w lo Bx xss.flatten (stopsOf xss)) (hlo2 : lo ≤ w.heap.size) (hl : xss.length ≤ 1048576) (ht : xss.flatten.length ≤ 1048576) :
    Calls Try.prog 65 #[.pointer (some ⟨Bx, 0, none⟩)] w (NewLeaves xss lo w) := by
  obtain ⟨ar, cr, st, cs, hbox, hr, hs⟩ := h
  rw [stopsOf_length] at hbox hs
  have hbl : Bx < w.heap.size := block_lt hbox
  have hcap : xss.flatten.length ≤ cr := by
    rcases hr.2 with ⟨hv, h0⟩ | ⟨g, cap, cur, hv, _, _, hc, _⟩
    · omega
    · simp only [Value.slice.injEq, true_and] at hv
      omega
  have hc0 : w.cell? ⟨Bx, 0, none⟩ = some (.slice ar xss.flatten.length cr) := by rw [cell_of_row w Bx 0 _ _ (0, 0) hbox]; rfl
  have hc1 : w.cell? ⟨Bx, 1, none⟩ = some (.slice st xss.length cs) := by rw [cell_of_row w Bx 1 _ _ (0, 0) hbox]; rfl
  have hmk := run_make_row' (P := Try.prog) 22 26 (.slice none 0 0) 24 Try.underlying22 (by kernel_rfl) rfl .i64 .i64 xss.length (by omega) (by omega)
  have hst : IntsAt w st (stopsOf xss) := by
    have := intsAt_of_ownsRow (n := (stopsOf xss).length) (by rw [stopsOf_length]; exact hs)
    exact this
  obtain ⟨n, hn⟩ : ∃ n, n = xss.flatten.length := ⟨_, rfl⟩
  have har : ∀ o : Nat, ar.map (fun x => x.add o) = ar.map (fun x => (⟨x.block, o, none⟩ : Addr)) := by
    intro o
    rcases hr.2 with ⟨hv, _⟩ | ⟨g, cap, cur, hv, _⟩
    · simp at hv
      rw [hv.1]
      rfl
    · simp only [Value.slice.injEq, true_and] at hv
      rw [hv.1]
      simp only [Option.map_some, Option.some.injEq]
      unfold Addr.add
      split
      · rename_i e; subst e; rfl
      · simp
  have HAR := hide har
  have HR := hide hr
  have HN := hide hn
  rw [← hn] at hc0 hcap
  clear hbox hr hs hn har
  go_enter Try.func65, Try.ntmps65
  go_wp2_with fail
  have hr1 := World.rowIs_made (w.alloc (.cells #[.slice none 0 0] 29)) (.slice none 0 0) xss.length 26
  have hB1 : Below w.heap.size w ((w.alloc (.cells #[.slice none 0 0] 29)).alloc (.cells (madeCells #[.slice none 0 0] xss.length) 26)) := ((Below.refl _ _).alloc (Nat.le_refl _) _).alloc (by simp) _
  have hb1 : ((w.alloc (.cells #[.slice none 0 0] 29)).alloc (.cells (madeCells #[.slice none 0 0] xss.length) 26)).heap[w.heap.size]? = some (.cells #[.slice none 0 0] 29 (0, 0)) := by
    rw [Below.heap_alloc _ _ _ (by simp)]
    exact heap_alloc_new w _
  obtain ⟨W1, hW1⟩ : ∃ W1, W1 = (w.alloc (.cells #[.slice none 0 0] 29)).alloc (.cells (madeCells #[.slice none 0 0] xss.length) 26) := ⟨_, rfl⟩
  rw [← hW1] at hr1 hB1 hb1 ⊢
  simp only [World.size_alloc] at hr1
  have hr0 := hide (hr1.congr (g := gameRow ar xss 0) (fun i _ => by simp [gameRow]))
  have hBs := hide (Below.refl (w.heap.size + 1) W1)
  clear hW1 hr1 hmk
  go_loopw [4, 18] (fun v i wr => ∃ k : Nat, k ≤ xss.length ∧ v = .int .i64 (offOf xss k) ∧ i = .int .i64 k ∧ wr.rowIs (w.heap.size + 1) 26 xss.length (gameRow ar xss k) ∧ Below (w.heap.size + 1) W1 wr) (fun _ i _ => xss.length - (intOf i).toNat)
  case atStart => exact ⟨0, Nat.zero_le _, by rw [offOf_zero]; rfl, rfl, hr0.out, hBs.out⟩
  case round =>
    clear hr0 hBs
    obtain ⟨k, hk, rfl, rfl, hrk, hBk⟩ := hrel
    have hBw : Below w.heap.size w wr := hB1.trans (hBk.mono (by omega))
    by_cases hlt : k < xss.length
    · obtain ⟨zs, hzs⟩ : ∃ zs, xss[k]? = some zs := ⟨_, List.getElem?_eq_getElem hlt⟩
      obtain ⟨bz, oz, z, rfl, hcz, hz⟩ := (hst.keep hBw).one (k := k) (by rw [stopsOf_length]; exact hlt)
      obtain rfl : z = ((offOf xss (k + 1) : Nat) : Int) := by have := hz.out; rw [stopsOf_get hlt] at this; exact (Option.some.inj this).symm
      have hle : offOf xss (k + 1) ≤ n := by rw [HN.out]; exact offOf_le _ _
      have hsu := offOf_succ hzs
      have hlf : ∀ u, u = .slice (leafOf ar xss k).a (leafOf ar xss k).n (leafOf ar xss k).n → Hid ((wr.setCell ⟨w.heap.size + 1, k, none⟩ u).rowIs (w.heap.size + 1) 26 xss.length (gameRow ar xss (k + 1))) := fun u hu => hide (gameRow_set hrk hu)
      have HLF := hide hlf
      have hck := hrk.cell hlt
      have hfk := hrk.frozen k
      have h0k := cell_keep hBw hc0
      have h1k := cell_keep hBw hc1
      have hDk : Hid (∀ u, Below (w.heap.size + 1) W1 (wr.setCell ⟨w.heap.size + 1, k, none⟩ u)) := hide (fun u => hBk.setCell (p := ⟨w.heap.size + 1, k, none⟩) (Nat.le_refl _) u)
      have hlv : (leafOf ar xss k) = ⟨if zs.length = 0 then ar else ar.map (fun x => ⟨x.block, offOf xss k, none⟩), zs.length⟩ := by unfold leafOf; rw [hzs]; rfl
      have HLV := hide hlv
      obtain ⟨o, ho⟩ : ∃ o, o = offOf xss k := ⟨_, rfl⟩
      obtain ⟨s, hs⟩ : ∃ s, s = offOf xss (k + 1) := ⟨_, rfl⟩
      rw [← ho] at hsu ⊢
      rw [← hs] at hcz hsu hle
      have HO := hide ho
      have HS := hide hs
      by_cases h0 : zs.length = 0
      · obtain rfl : s = o := by omega
        clear ho hs hlf hlv hrk hBk hBw hc0 hc1 hst hsu hzs hz
        go_wp2_with fail
        go_roundw
        case rel => exact ⟨k + 1, by omega, by rw [← HS.out], by go_num, (HLF.out _ (by rw [HLV.out, if_pos h0, h0])).out, hDk.out _⟩
        case measure => simp [intOf]; omega
      · have hlt2 : o < s := by omega
        clear ho hs hlf hlv hrk hBk hBw hc0 hc1 hst hzs hz
        go_wp2_with fail
        go_roundw
        case rel => exact ⟨k + 1, by omega, by rw [← HS.out, hsu]; push_cast; rfl, by go_num, (HLF.out _ (by rw [HLV.out, if_neg h0, HAR.out, ← HO.out])).out, hDk.out _⟩
        case measure => simp [intOf]; omega
    · obtain rfl : k = xss.length := by omega
      have hcR : wr.cell? ⟨w.heap.size, 0, none⟩ = some (.slice none 0 0) := by
        rw [cell_of_row wr w.heap.size 0 _ _ (0, 0) ((hBk.block w.heap.size (by omega)).trans hb1)]
        rfl
      have hfR : wr.frozen? ⟨w.heap.size, 0, none⟩ = false := frozen_of_row wr w.heap.size 0 _ _ ((hBk.block w.heap.size (by omega)).trans hb1)
      have hBf := hBw.setCell (p := ⟨w.heap.size, 0, none⟩) (Nat.le_refl _) (.slice (some ⟨w.heap.size + 1, 0, none⟩) xss.length xss.length)
      have hMf : (wr.setCell ⟨w.heap.size, 0, none⟩ (.slice (some ⟨w.heap.size + 1, 0, none⟩) xss.length xss.length)).rowIs (w.heap.size + 1) 26 xss.length (gameRow ar xss xss.length) := hrk.of_block (Below.heap_setCell _ _ _ _ (by simp))
      have hfin : NewLeaves xss lo w (.returned (.agg #[.slice (some ⟨w.heap.size + 1, 0, none⟩) xss.length xss.length])) (wr.setCell ⟨w.heap.size, 0, none⟩ (.slice (some ⟨w.heap.size + 1, 0, none⟩) xss.length xss.length)) :=
        ⟨_, _, _, rfl, leaves_of (ownsRow_keep HR.out hBf) hMf (by omega) ht, hBf⟩
      have HFIN := hide hfin
      clear hfin hMf hBf hrk hBk hBw hB1 hb1 hst hc0 hc1
      go_wp2_with fail
      exact bodyPost_ret (v := .agg #[.slice (some ⟨w.heap.size + 1, 0, none⟩) xss.length xss.length]) (by simp [results, Try.results65, go_sem, hcR]) rfl HFIN.out
end Go.Proofs.Ytlgogpphlnogoaa
