/-
  Marks on rows of numbers that may share a block: the laws' helpers on [][]int64 and games by leaves.
-/
import Derived.Test.YtkekanllfpdeaabMk
import Derived.Test.YtkekanllfpdeaabRg
namespace Go.Proofs.Ytkekanllfpdeaab
open Go.RowKit

/-- A row of numbers: where it begins, and how many they are. -/
structure Lf where
  a : Option Addr
  n : Nat
def Lf.has (l : Lf) (b o : Nat) : Prop := ∃ off, l.a = some ⟨b, off, none⟩ ∧ off ≤ o ∧ o < off + l.n
def Lf.apart (l m : Lf) : Prop := ∀ b o, l.has b o → ¬ m.has b o
def total : List Lf → Nat
  | [] => 0
  | l :: r => l.n + total r
theorem total_append : ∀ (ls ms : List Lf), total (ls ++ ms) = total ls + total ms
  | [], ms => by simp [total]
  | l :: r, ms => by simp [total, total_append r ms]; omega
theorem total_take_le (ls : List Lf) (j : Nat) : total (ls.take j) ≤ total ls := by
  have := total_append (ls.take j) (ls.drop j)
  rw [List.take_append_drop] at this
  omega
theorem total_mem : ∀ {ls : List Lf} {l : Lf}, l ∈ ls → l.n ≤ total ls
  | x :: r, l, h => by
    rcases List.mem_cons.1 h with e | e
    · subst e; simp [total]
    · have := total_mem e; simp [total]; omega

/-- The leaves hold the marks from k on, one behind the other. -/
def LeafMarks (w : World) : Int → List Lf → Prop
  | _, [] => True
  | k, l :: r => IntsAt w l.a (marks k l.n) ∧ LeafMarks w (k + l.n) r
theorem leafMarks_append {w : World} : ∀ {k : Int} {ls ms : List Lf}, LeafMarks w k ls → LeafMarks w (k + total ls) ms → LeafMarks w k (ls ++ ms)
  | k, [], ms, _, h => by simpa [total] using h
  | k, l :: r, ms, h1, h2 => ⟨h1.1, leafMarks_append h1.2 (by rw [show (k + (l.n : Int) + (total r : Int)) = k + (total (l :: r) : Nat) by simp [total]; omega]; exact h2)⟩
theorem leafMarks_get {w : World} : ∀ {k : Int} {ls : List Lf} {i : Nat} {l : Lf}, LeafMarks w k ls → ls[i]? = some l → IntsAt w l.a (marks (k + total (ls.take i)) l.n)
  | k, x :: r, 0, l, h, hi => by simp at hi; subst hi; simpa [total] using h.1
  | k, x :: r, i + 1, l, h, hi => by
    have := leafMarks_get (i := i) h.2 (by simpa using hi)
    rw [List.take_succ_cons, show (k + ((total (x :: r.take i) : Nat) : Int)) = k + x.n + (total (r.take i) : Nat) by simp [total]; omega]
    exact this

/-- Beside the leaves all cells are as they were. -/
def CellsBut (ls : List Lf) (w w' : World) : Prop := ∀ b o, (∀ l ∈ ls, ¬ l.has b o) → w'.cell? ⟨b, o, none⟩ = w.cell? ⟨b, o, none⟩
theorem CellsBut.refl (ls : List Lf) (w : World) : CellsBut ls w w := fun _ _ _ => rfl
theorem CellsBut.trans {ls ms : List Lf} {a b c : World} (h : CellsBut ls a b) (k : CellsBut ms b c) : CellsBut (ls ++ ms) a c := fun x o hh =>
  (k x o (fun l hl => hh l (List.mem_append.2 (.inr hl)))).trans (h x o (fun l hl => hh l (List.mem_append.2 (.inl hl))))
theorem cellsAt_frame {w w' : World} {ls : List Lf} {a : Option Addr} {vs : List Value} (h : CellsAt w a vs) (hc : CellsBut ls w w') (hap : ∀ m ∈ ls, Lf.apart ⟨a, vs.length⟩ m) : CellsAt w' a vs := by
  intro hne
  obtain ⟨b, off, rfl, hi⟩ := h hne
  exact ⟨b, off, rfl, fun i hlt => (hc b (off + i) (fun m hm => hap m hm b (off + i) ⟨off, rfl, by omega, by simpa using hlt⟩)).trans (hi i hlt)⟩
theorem leafMarks_frame {w w' : World} {ms : List Lf} : ∀ {k : Int} {ls : List Lf}, LeafMarks w k ls → CellsBut ms w w' → (∀ l ∈ ls, ∀ m ∈ ms, l.apart m) → LeafMarks w' k ls
  | _, [], _, _, _ => trivial
  | k, l :: r, h, hc, hap => ⟨cellsAt_frame h.1 hc (fun m hm => by
      have := hap l (by simp) m hm
      simpa [marks] using this), leafMarks_frame h.2 hc (fun x hx m hm => hap x (by simp [hx]) m hm)⟩

theorem markPost_leaf {a : Option Addr} {n : Nat} {k : Int} {w w' : World} {e : Ending} (h : MarkPost a n k w e w') :
    CellsBut [⟨a, n⟩] w w' ∧ IntsAt w' a (marks k n) ∧ Marked (fun b => 0 < n ∧ ∃ off, a = some ⟨b, off, none⟩) w w' := by
  obtain ⟨_, ⟨rfl, rfl⟩ | ⟨b, off, cur, cur', hpos, rfl, hb, hb', hI, hM⟩⟩ := h
  · exact ⟨CellsBut.refl _ _, by simpa [marks, IntsAt] using CellsAt.nil _ _, Marked.refl _ _⟩
  · refine ⟨fun x o hh => ?_, fun _ => ⟨b, off, rfl, fun i hi => ?_⟩, hM.weaken (fun x e => by cases e; exact ⟨hpos, off, rfl⟩)⟩
    · by_cases e : x = b
      · subst e
        rw [cell_of_row w' x o cur' _ (0, 0) hb', cell_of_row w x o cur _ (0, 0) hb]
        refine hI.2.2 o ?_
        have := hh _ (List.mem_singleton.2 rfl)
        by_cases e1 : o < off
        · exact .inl e1
        · by_cases e2 : off + n ≤ o
          · exact .inr e2
          · exact absurd ⟨off, rfl, by omega, by show o < off + n; omega⟩ this
      · exact World.cell?_of_block (hM.block x e)
    · have hin : i < n := by simpa [marks] using hi
      rw [cell_of_row w' b (off + i) cur' _ (0, 0) hb', hI.2.1 i hin]
      simp [marks, hin, intV]

/-- The slice of slices at 'a' has the leaves in its cells. -/
def LeafRow (w : World) (a : Option Addr) (ls : List Lf) : Prop :=
  ls ≠ [] → ∃ b off, a = some ⟨b, off, none⟩ ∧ ∀ i l, ls[i]? = some l → ∃ c, w.cell? ⟨b, off + i, none⟩ = some (.slice l.a l.n c)
theorem LeafRow.keep {w w' : World} {a : Option Addr} {ls : List Lf} (h : LeafRow w a ls) (hb : Below w.heap.size w w') : LeafRow w' a ls := by
  intro hne
  obtain ⟨b, off, rfl, hi⟩ := h hne
  refine ⟨b, off, rfl, fun i l hl => ?_⟩
  obtain ⟨c, hc⟩ := hi i l hl
  exact ⟨c, cell_keep hb hc⟩
theorem LeafRow.one {w : World} {a : Option Addr} {ls : List Lf} (h : LeafRow w a ls) {k : Nat} (hk : k < ls.length) :
    ∃ b off la n c, a = some ⟨b, off, none⟩ ∧ w.cell? ⟨b, off + k, none⟩ = some (.slice la n c) ∧ Hid (ls[k]? = some ⟨la, n⟩) := by
  obtain ⟨b, off, ha, hi⟩ := h (by intro e; subst e; simp at hk)
  obtain ⟨c, hc⟩ := hi k ls[k] (List.getElem?_eq_getElem hk)
  exact ⟨b, off, _, _, c, ha, hc, List.getElem?_eq_getElem hk⟩

theorem LeafMarks.keep {w w' : World} : ∀ {k : Int} {ls : List Lf}, LeafMarks w k ls → Below w.heap.size w w' → LeafMarks w' k ls
  | _, [], _, _ => trivial
  | _, _ :: _, h, hb => ⟨h.1.keep hb, LeafMarks.keep h.2 hb⟩

theorem room_marked {S : Nat → Prop} {w w' : World} {a : Option Addr} {n : Nat} (h : Room w a n) (hM : Marked S w w') : Room w' a n := by
  rcases h with h0 | ⟨b, off, cur, rfl, hb, hs⟩
  · exact .inl h0
  · obtain ⟨cur', hb', hs'⟩ := hM.shape b cur _ hb
    exact .inr ⟨b, off, cur', rfl, hb', by omega⟩

/-- What a mark of leaves leaves behind. -/
def LeafPost (S : Nat → Prop) (ls : List Lf) (k : Int) (w w' : World) : Prop := LeafMarks w' k ls ∧ CellsBut ls w w' ∧ Marked S w w'

set_option maxHeartbeats 400000 in
theorem markInt64SS_leaves (a : Option Addr) (c : Nat) (ls : List Lf) (k : Int) (S : Nat → Prop) (w : World) (hr : LeafRow w a ls) (hroom : ∀ l ∈ ls, Room w l.a l.n)
    (hS : ∀ l ∈ ls, ∀ b off, l.a = some ⟨b, off, none⟩ → 0 < l.n → S b) (ho : ∀ b off, a = some ⟨b, off, none⟩ → ¬ S b) (hap : ls.Pairwise Lf.apart) (hn : ls.length ≤ 1048576) (hz : ∀ l ∈ ls, l.n ≤ 1048576) (hk0 : 0 ≤ k) (hk1 : k + total ls ≤ 4398046511104) :
    Calls Try.prog 16 #[.slice a ls.length c, .int .i64 k] w fun e w' => e = .returned (.int .i64 (k + total ls)) ∧ LeafPost S ls k w w' := by
  obtain ⟨b, off, hab⟩ : ∃ b off, ls ≠ [] → a = some ⟨b, off, none⟩ := by
    by_cases e : ls = []
    · exact ⟨0, 0, fun h => absurd e h⟩
    · obtain ⟨b, off, h, _⟩ := hr e
      exact ⟨b, off, fun _ => h⟩
  have HR := hide hr
  have HRM := hide hroom
  have HS := hide hS
  have HO := hide ho
  have HAP := hide hap
  have HZ := hide hz
  clear hr hroom hS ho hap hz hab
  go_enter Try.func16, Try.ntmps16
  go_wp2_with fail
  go_loopw [1, 5] (fun s i wr => ∃ (j : Nat) (t : Int), s = .int .i64 t ∧ j ≤ ls.length ∧ i = .int .i64 j ∧ Hid (t = k + total (ls.take j)) ∧ Hid (LeafPost S (ls.take j) k w wr)) (fun _ i _ => ls.length - (intOf i).toNat)
  case atStart => exact ⟨0, k, rfl, Nat.zero_le _, rfl, hide (by simp [total]), ⟨trivial, CellsBut.refl _ _, Marked.refl _ _⟩⟩
  case round =>
    obtain ⟨j, t, rfl, hj, rfl, HT, HP⟩ := hrel
    by_cases hlt : j < ls.length
    · obtain ⟨la, n, hln⟩ : ∃ la n, ls[j]? = some (Lf.mk la n) := ⟨ls[j].a, ls[j].n, List.getElem?_eq_getElem hlt⟩
      have hmem : (Lf.mk la n) ∈ ls := mem_of_get hln
      obtain ⟨b, off, rfl, hi⟩ := HR.out (by intro e; subst e; simp at hlt)
      obtain ⟨ci, hcell⟩ := hi j _ hln
      have hcellr : wr.cell? ⟨b, off + j, none⟩ = some (.slice la n ci) := (World.cell?_of_block (HP.out.2.2.block b (HO.out b off rfl))).trans hcell
      have hroom2 : Room wr la n := room_marked (HRM.out _ hmem) HP.out.2.2
      have hnz : n ≤ 1048576 := HZ.out _ hmem
      have htk : ls.take (j + 1) = ls.take j ++ [Lf.mk la n] := by rw [List.take_add_one, hln]; rfl
      have htot : total (ls.take (j + 1)) = total (ls.take j) + n := by rw [htk, total_append]; simp [total]
      have htle := total_take_le ls (j + 1)
      have ht := HT.out
      have ht0 : 0 ≤ t := by omega
      have ht1 : t ≤ 4398046511104 := by omega
      have hapart : ∀ l ∈ ls.take j, l.apart ⟨la, n⟩ := by
        have := HAP.out
        have h2 : (ls.take (j + 1)).Pairwise Lf.apart := this.sublist (List.take_sublist _ _)
        rw [htk, List.pairwise_append] at h2
        exact fun l hl => h2.2.2 l hl _ (List.mem_singleton.2 rfl)
      have hSb : ∀ x, (0 < n ∧ ∃ off, la = some ⟨x, off, none⟩) → S x := fun x ⟨h0, off, e⟩ => HS.out _ hmem x off e h0
      have HAPT := hide hapart
      have HSB := hide hSb
      have HTK := hide htk
      have HTOT := hide htot
      clear hln hmem hi hcell htk htot ht hapart hSb htle
      go_wp2_with fail
      refine (markInt64S_any _ _ _ _ _ hroom2 hnz ht0 ht1).mono ?_
      intro e w1 hpost
      obtain ⟨hcb, hints, hM⟩ := markPost_leaf hpost
      obtain ⟨rfl, _⟩ := hpost
      have hnew : Hid (LeafPost S (ls.take (j + 1)) k w w1) := by
        refine hide ?_
        obtain ⟨h1, h2, h3⟩ := HP.out
        rw [HTK.out]
        refine ⟨leafMarks_append (leafMarks_frame h1 hcb (fun l hl m hm => by rw [List.mem_singleton] at hm; subst hm; exact HAPT.out l hl)) ⟨?_, trivial⟩, h2.trans hcb, h3.trans (hM.weaken HSB.out)⟩
        rw [← HT.out]
        exact hints
      clear hcb hints hM hroom2 hcellr
      go_wp2_with fail
      go_roundw
      case rel => exact ⟨j + 1, _, rfl, by omega, by go_num, by have h1 := HTOT.out; have h2 := HT.out; show t + (n : Int) = k + (total (ls.take (j + 1)) : Nat); rw [h1, h2]; push_cast; omega, hnew⟩
      case measure => simp [intOf]; omega
    · obtain rfl : j = ls.length := by omega
      have hfin : t = k + total ls ∧ LeafPost S ls k w wr := by
        have h1 := HT.out
        have h2 := HP.out
        rw [List.take_length] at h1 h2
        exact ⟨h1, h2⟩
      have HF := hide hfin
      clear hfin
      go_wp2_with fail
      go_ret
      exact ⟨ret_int HF.out.1, HF.out.2⟩

set_option maxHeartbeats 400000 in
theorem heldInt64SS_leaves (a : Option Addr) (c : Nat) (ls : List Lf) (k : Int) (w : World) (hr : LeafRow w a ls) (hm : LeafMarks w k ls) (hn : ls.length ≤ 1048576) (hz : ∀ l ∈ ls, l.n ≤ 1048576) (hk0 : 0 ≤ k) (hk1 : k + total ls ≤ 4398046511104) :
    Calls Try.prog 17 #[.slice a ls.length c, .int .i64 k] w fun e w' => e = .returned (.int .i64 (k + total ls)) ∧ Quiet w w' := by
  have HM := hide hm
  have HZ := hide hz
  clear hm hz
  go_enter Try.func17, Try.ntmps17
  go_wp2_with fail
  go_loopw [1, 5] (fun s i wr => ∃ (j : Nat) (t : Int), s = .int .i64 t ∧ j ≤ ls.length ∧ i = .int .i64 j ∧ Hid (t = k + total (ls.take j)) ∧ Quiet w wr) (fun _ i _ => ls.length - (intOf i).toNat)
  case atStart => exact ⟨0, k, rfl, Nat.zero_le _, rfl, hide (by simp [total]), Quiet.refl _⟩
  case round =>
    obtain ⟨j, t, rfl, hj, rfl, HT, hq⟩ := hrel
    by_cases hlt : j < ls.length
    · obtain ⟨b, off, la, n, ci, rfl, hcell, hg⟩ := (hr.keep hq.below).one hlt
      have hmem := mem_of_get hg.out
      have hnz : n ≤ 1048576 := HZ.out _ hmem
      have htk : ls.take (j + 1) = ls.take j ++ [Lf.mk la n] := by rw [List.take_add_one, hg.out]; rfl
      have htot : total (ls.take (j + 1)) = total (ls.take j) + n := by rw [htk, total_append]; simp [total]
      have htle := total_take_le ls (j + 1)
      have ht := HT.out
      have ht0 : 0 ≤ t := by omega
      have ht1 : t ≤ 4398046511104 := by omega
      have hints : IntsAt wr la (marks t n) := by
        have := leafMarks_get HM.out hg.out
        rw [HT.out]
        exact IntsAt.keep this hq.below
      have hge : ¬ t + (n : Int) < 0 := by omega
      have HTOT := hide htot
      clear htk htot ht htle hr hmem
      go_wp2_with fail
      refine (heldInt64S_any _ _ _ _ _ hints hnz ht0 ht1).mono ?_
      rintro e w1 ⟨rfl, hq1⟩
      have hq2 := hq.trans hq1
      clear hq hq1 hints hcell
      go_wp2_with fail
      go_roundw
      case rel => exact ⟨j + 1, _, rfl, by omega, by go_num, by have h1 := HTOT.out; have h2 := HT.out; show t + (n : Int) = k + (total (ls.take (j + 1)) : Nat); rw [h1, h2]; push_cast; omega, hq2⟩
      case measure => simp [intOf]; omega
    · obtain rfl : j = ls.length := by omega
      have hfin : t = k + total ls := by
        have h1 := HT.out
        rw [List.take_length] at h1
        exact h1
      have HF := hide hfin
      clear hfin
      go_wp2_with fail
      go_ret
      exact ⟨ret_int HF.out, hq⟩
end Go.Proofs.Ytkekanllfpdeaab
