/-
  Lists of texts: what came in, a list of texts of one's own, and the laws' helpers on them.
-/
import Derived.Test.YtmoekjgnichgnaaDoorCo
import Derived.Test.YtmoekjgnichgnaaDoorMk
import Derived.Test.YtmoekjgnichgnaaDoorEnds0
import Derived.OpenShut
import Derived.ChangeOld
import Derived.SliceStrings
import Derived.Deep.LoopGhost
import Derived.Laws.BytesString
import Derived.Lib.SmallJoins
namespace Go.Proofs.YtmoekjgnichgnaaDoor
open Go.ChangeShapes Go.WideShapes Go.ChangeAt Go.RowKit Go.Deep Go.Joins
set_option linter.unusedVariables false

def strV (s : ByteArray) : Value := .string s
/-- The slice of texts at 'a' reads as 'ss'. -/
def StrsAt (w : World) (a : Option Addr) (ss : List ByteArray) : Prop := CellsAt w a (ss.map strV)
theorem StrsAt.keep {w w' : World} {a : Option Addr} {ss : List ByteArray} (h : StrsAt w a ss) (hb : Below w.heap.size w w') : StrsAt w' a ss := CellsAt.keep h hb
theorem StrsAt.one {w : World} {a : Option Addr} {ss : List ByteArray} (h : StrsAt w a ss) {k : Nat} (hk : k < ss.length) :
    ∃ b off s, a = some ⟨b, off, none⟩ ∧ w.cell? ⟨b, off + k, none⟩ = some (.string s) ∧ Hid (ss[k]? = some s) := by
  obtain ⟨b, off, ha, hc⟩ := h (by intro e; have := congrArg List.length e; simp at this; subst this; simp at hk)
  refine ⟨b, off, ss[k], ha, ?_, (List.getElem?_eq_getElem hk : ss[k]? = some ss[k])⟩
  rw [hc k (by simpa using hk)]
  simp [hk, strV]
theorem strsAt_of_ownsRow {w : World} {base : Nat} {e : TypeId} {a : Option Addr} {n c : Nat} {ss : List ByteArray} (h : w.ownsRow base e 1 (.slice a n c) n (ss.map strV)) : StrsAt w a ss := cellsAt_of_ownsRow h

section
variable {H : Type} {enc : TypeId × Value → H}
set_option maxRecDepth 100000 in
theorem open_texts {W : World} {base : Nat} {v : Value} {d : DataW H} {p : List MemPlace} (hv : Value.okWide Tryd.prog W .any base 22 v)
    (h : DataW.Trod enc Tryd.prog W 0 (fun _ => true) true 22 v d p) : ∃ a c ss, v = .slice a ss.length c ∧ StrsAt W a ss ∧ ss.length ≤ 9223372036854775807 ∧ ∀ s ∈ ss, s.size ≤ maxLen := by
  obtain ⟨a0, len0, cap0, rfl⟩ := okWide_slice Tryd.underlying22 hv
  obtain ⟨fuel, hf⟩ := h
  rcases open_strings Tryd.underlying22 Tryd.underlying9 (by kernel_rfl) hf with ⟨hcs, _⟩ | ⟨x, l, c, ss, hcs, _, hl, hm, hz, _, hcell, hsz⟩
  · simp [Value.cells] at hcs
    obtain ⟨rfl, rfl, rfl⟩ := hcs
    exact ⟨none, 0, [], rfl, CellsAt.nil _ _, by simp, by simp⟩
  · simp [Value.cells] at hcs
    obtain ⟨rfl, rfl, rfl⟩ := hcs
    simp only [if_true] at hz
    refine ⟨some x, cap0, ss.take len0, ?_, fun hne => ?_, ?_, fun s hs => hsz s (List.mem_of_mem_take hs)⟩
    · rw [List.length_take, Nat.min_eq_left (by omega)]
    · have hlen : 0 < len0 := by
        rcases Nat.eq_zero_or_pos len0 with e | e
        · subst e; simp at hne
        · exact e
      obtain ⟨b, off, spot⟩ := x
      have hc := hcell 0 (by omega)
      have hspot : spot = none := by simpa [Addr.add] using World.cell?_spot hc
      subst hspot
      refine ⟨b, off, rfl, fun i hi => ?_⟩
      have hi' : i < len0 := by simp at hi; omega
      have := hcell i (by omega)
      have h2 : ((ss.take len0).map strV)[i]? = some (.string (ss.getD i ByteArray.empty)) := by
        simp [hi', strV, show i < ss.length by omega]
      rw [h2, ← this]
      simp only [Addr.add]
      split
      · rename_i e; subst e; simp
      · simp
    · rw [List.length_take]; unfold maxLen at *; omega
end

section
variable {H : Type} {enc : TypeId × Value → H}
/-- A list of numbers. -/
theorem open_row {W : World} {base fuel : Nat} {cs : List Value} {x : DataW H × List MemPlace}
    (h : DataW.trod enc Tryd.prog W base (fun _ => true) true fuel 39 cs = some x) : ∃ a c zs, cs = [.slice a zs.length c] ∧ IntsAt W a zs ∧ zs.length ≤ 9223372036854775807 := by
  rcases open_ints Tryd.underlying39 Tryd.underlying2 (by kernel_rfl) h with ⟨hcs, _⟩ | ⟨x, l, c, zs, hcs, _, hl, hm, hz, _, hcell, hwz⟩
  · exact ⟨none, 0, [], hcs, CellsAt.nil _ _, by simp⟩
  · have h := intsAt_of_row (.inr ⟨_, rfl, hl, hm, by simpa using hz, hcell, hwz⟩)
    refine ⟨some x, c, _, ?_, h.1, by have := h.2.1; have := h.2.2; unfold maxLen at *; omega⟩
    rw [h.2.1]
    exact hcs
set_option maxRecDepth 100000 in
theorem open_list {W : World} {base : Nat} {v : Value} {d : DataW H} {p : List MemPlace} (hv : Value.okWide Tryd.prog W .any base 39 v)
    (h : DataW.Trod enc Tryd.prog W 0 (fun _ => true) true 39 v d p) : ∃ a c zs, v = .slice a zs.length c ∧ IntsAt W a zs ∧ zs.length ≤ 9223372036854775807 := by
  obtain ⟨a0, len0, cap0, rfl⟩ := okWide_slice Tryd.underlying39 hv
  obtain ⟨fuel, hf⟩ := h
  obtain ⟨a, c, zs, he, hr, hn⟩ := open_row hf
  simp [Value.cells] at he
  obtain ⟨rfl, rfl, rfl⟩ := he
  exact ⟨_, _, zs, rfl, hr, hn⟩
end

theorem own_cap {w : World} {base : Nat} {e : TypeId} {g : Nat} {n c : Nat} {xs : List Value} (h : w.ownsRow base e 1 (.slice (some ⟨g, 0, none⟩) n c) n xs) : n ≤ c := by
  rcases h.2 with ⟨h0, _⟩ | ⟨g', cap, cur, hv, _, _, r1, _⟩
  · cases h0
  · simp only [Value.slice.injEq] at hv
    omega
/-- What the laws' bound leaves of a list of texts. -/
def szT : List ByteArray → Int → Int
  | [], l => l
  | s :: r, l => if l - (s.size : Int) < 0 then -1 else szT r (l - (s.size : Int))
def szS (ss : List ByteArray) : Int := if 1048576 - (ss.length : Int) < 0 then -1 else szT ss (1048576 - (ss.length : Int))
theorem szT_le : ∀ (ss : List ByteArray) (l : Int), 0 ≤ l → ¬ szT ss l < 0 → ∀ s ∈ ss, (s.size : Int) ≤ l
  | [], _, _, _, s, hs => by cases hs
  | x :: r, l, h0, h, s, hs => by
    unfold szT at h
    by_cases e : l - (x.size : Int) < 0
    · rw [if_pos e] at h; omega
    · rw [if_neg e] at h
      rcases List.mem_cons.1 hs with rfl | hs
      · omega
      · have := szT_le r _ (by omega) h s hs; omega
theorem szS_le {ss : List ByteArray} (h : ¬ szS ss < 0) : ss.length ≤ 1048576 ∧ ∀ s ∈ ss, s.size ≤ 1048576 := by
  unfold szS at h
  by_cases e : 1048576 - (ss.length : Int) < 0
  · rw [if_pos e] at h; omega
  · rw [if_neg e] at h
    exact ⟨by omega, fun s hs => by have := szT_le ss _ (by omega) h s hs; omega⟩

/-- A list of texts of the call's own. -/
def NewTexts (ss : List ByteArray) (w : World) (e : Ending) (w' : World) : Prop :=
  ∃ g c, e = .returned (.slice (some ⟨g, 0, none⟩) ss.length c) ∧ w'.ownsRow w.heap.size 9 1 (.slice (some ⟨g, 0, none⟩) ss.length c) ss.length (ss.map strV) ∧ Below w.heap.size w w'

set_option maxHeartbeats 400000 in
theorem szStringS_any (a : Option Addr) (c : Nat) (ss : List ByteArray) (w : World) (ha : StrsAt w a ss) (hn : ss.length ≤ 9223372036854775807) (hz : ∀ s ∈ ss, s.size ≤ maxLen) :
    Calls Tryd.prog 15 #[.slice a ss.length c, .int .i64 1048576] w fun e w' => e = .returned (.int .i64 (szS ss)) ∧ w = w' := by
  obtain ⟨n, hnn⟩ : ∃ n, n = ss.length := ⟨_, rfl⟩
  by_cases h : 1048576 - (n : Int) < 0
  · have HS : Hid (szS ss = -1) := hide (by unfold szS; rw [← hnn, if_pos h])
    rw [HS.out]
    rw [← hnn] at hn ⊢
    clear hnn hz ha
    go_enter Tryd.func15, Tryd.ntmps15
    go_wp2
    go_ret
    exact ⟨rfl, rfl⟩
  · have HS : Hid (szS ss = szT ss (1048576 - (n : Int))) := hide (by unfold szS; rw [← hnn, if_neg h])
    rw [HS.out]
    obtain ⟨R, hR⟩ : ∃ R, R = szT ss (1048576 - (n : Int)) := ⟨_, rfl⟩
    have HR := hide hR
    have HN := hide hnn
    have HZ := hide hz
    rw [← hR]
    rw [← hnn] at hn ⊢
    clear hnn hR hz
    go_enter Tryd.func15, Tryd.ntmps15
    go_wp2
    go_loop [1, 5] (fun v1 v5 => ∃ (k : Nat) (t : Int), v1 = .int .i64 t ∧ k ≤ n ∧ v5 = .int .i64 k ∧ 0 ≤ t ∧ t ≤ 1048576 ∧ Hid (szT (ss.drop k) t = R)) (fun _ i => n - (intOf i).toNat)
    case atStart => exact ⟨0, _, rfl, Nat.zero_le _, rfl, by omega, by omega, by rw [List.drop_zero]; exact HR.out.symm⟩
    case round =>
      obtain ⟨k, t, rfl, hk, rfl, h0, h1, hT⟩ := hrel
      by_cases hlt : k < n
      · obtain ⟨b1, o1, s, rfl, hc, hg⟩ := ha.one (k := k) (by rw [← HN.out]; exact hlt)
        have hsz := HZ.out s (List.mem_of_getElem? hg.out)
        have hsz2 : s.size ≤ 9223372036854775807 := by unfold maxLen at hsz; omega
        have hT2 : Hid ((if t - (s.size : Int) < 0 then -1 else szT (ss.drop (k + 1)) (t - (s.size : Int))) = R) := hide (by
          rw [← hT.out, drop_of_get hg.out]
          rfl)
        clear ha hT hg hsz
        by_cases hneg : t - (s.size : Int) < 0
        · have hRv : Hid (R = -1) := hide (by rw [← hT2.out, if_pos hneg])
          go_wp2
          go_ret
          exact ⟨by rw [hRv.out]; rfl, rfl⟩
        · have hRv : Hid (szT (ss.drop (k + 1)) (t - (s.size : Int)) = R) := hide (by rw [← hT2.out, if_neg hneg])
          go_wp2
          go_round
          case rel => exact ⟨k + 1, _, rfl, by omega, by go_num, by omega, by omega, hRv⟩
          case measure => simp [intOf]; omega
      · have hfin : Hid (R = t) := hide (by
          rw [← hT.out, List.drop_eq_nil_of_le (by rw [← HN.out]; omega)]
          rfl)
        go_wp2
        go_ret
        exact ⟨by rw [hfin.out]; rfl, rfl⟩

def copiedS (ss : List ByteArray) (k : Nat) : Nat → Value := fun i => if i < k then .string (ss[i]?.getD ByteArray.empty) else .string ⟨#[]⟩
theorem copiedS_set {w : World} {b : Nat} {t : TypeId} {ss : List ByteArray} {k : Nat} {z : ByteArray} (h : w.rowIs b t ss.length (copiedS ss k)) (hz : ss[k]? = some z) :
    (w.setCell ⟨b, k, none⟩ (.string z)).rowIs b t ss.length (copiedS ss (k + 1)) := by
  refine (h.set k (.string z)).congr ?_
  intro i _
  unfold copiedS
  by_cases e : i = k
  · subst e; simp [hz]
  · simp only [e, if_false]
    by_cases h1 : i < k
    · rw [if_pos h1, if_pos (by omega)]
    · rw [if_neg h1, if_neg (by omega)]
theorem infoStr : (Tryd.prog.info? 9).map (fun i => (i.zero, i.size, i.bytes)) = some (some (.string ⟨#[]⟩), 1, 16) := by kernel_rfl

set_option maxHeartbeats 400000 in
theorem toStringS_any (a : Option Addr) (c : Nat) (ss : List ByteArray) (w : World) (ha : StrsAt w a ss) (hl : ss.length ≤ 1048576) :
    Calls Tryd.prog 17 #[.slice a ss.length c] w (NewTexts ss w) := by
  have hmk := run_make_row' (P := Tryd.prog) 22 9 (.string ⟨#[]⟩) 16 Tryd.underlying22 infoStr rfl .i64 .i64 ss.length (by omega) (by omega)
  have h0 := World.rowIs_made w (.string ⟨#[]⟩) ss.length 9
  go_enter Tryd.func17, Tryd.ntmps17
  go_wp2
  go_loopw [4] (fun i wr => ∃ k : Nat, k ≤ ss.length ∧ i = .int .i64 k ∧ wr.rowIs w.heap.size 9 ss.length (copiedS ss k) ∧ Below w.heap.size w wr) (fun i _ => ss.length - (intOf i).toNat)
  case atStart => exact ⟨0, Nat.zero_le _, rfl, h0.congr (fun i _ => by simp [copiedS]), (Below.refl _ _).alloc (Nat.le_refl _) _⟩
  case round =>
    clear h0
    obtain ⟨k, hk, rfl, hr, hB⟩ := hrel
    by_cases hlt : k < ss.length
    · obtain ⟨b1, o1, z, rfl, h1, hz⟩ := (ha.keep hB).one hlt
      clear ha
      have hce := hr.cell hlt
      have hfr := hr.frozen k
      have hn := copiedS_set hr hz.out
      have hB' := hB.setCell (p := ⟨w.heap.size, k, none⟩) (Nat.le_refl _) (.string z)
      go_wp2
      go_roundw
      case rel => exact ⟨k + 1, by omega, by go_num, hn, hB'⟩
      case measure => simp [intOf]; omega
    · obtain rfl : k = ss.length := by omega
      have hfin : NewTexts ss w (.returned (.slice (some ⟨w.heap.size, 0, none⟩) ss.length ss.length)) wr :=
        ⟨w.heap.size, ss.length, rfl, rowIs_owns hr (Nat.le_refl _) (by unfold maxLen; omega) (by simp) (fun i hi => by simp [copiedS, hi, strV]), hB⟩
      go_wp2
      go_ret
      exact hfin

set_option maxHeartbeats 400000 in
theorem eqStringS_same (a b : Option Addr) (c d : Nat) (ss : List ByteArray) (w : World) (ha : StrsAt w a ss) (hb : StrsAt w b ss) (hl : ss.length ≤ 1048576) :
    Calls Tryd.prog 19 #[.slice a ss.length c, .slice b ss.length d] w fun e w' => e = .returned (.bool true) ∧ Below w.heap.size w w' := by
  go_enter Tryd.func19, Tryd.ntmps19
  go_wp2
  go_loopw [5] (fun i wr => ∃ k : Nat, k ≤ ss.length ∧ i = .int .i64 k ∧ Hid (∃ m, wr = w.drewN m)) (fun i _ => ss.length - (intOf i).toNat)
  case atStart => exact ⟨0, Nat.zero_le _, rfl, 0, rfl⟩
  case round =>
    obtain ⟨k, hk, rfl, m, rfl⟩ := hrel
    by_cases hlt : k < ss.length
    · obtain ⟨b1, o1, z, rfl, h1, g1⟩ := ha.one hlt
      obtain ⟨b2, o2, z', rfl, h2, g2⟩ := hb.one hlt
      have e : z' = z := by have h1 := g1.out; have h2 := g2.out; rw [h1] at h2; exact (Option.some.inj h2).symm
      subst e
      clear ha hb g1 g2
      go_wp2
      go_quiet (fail)
      go_wp2
      go_roundw
      case rel => exact ⟨k + 1, by omega, by go_num, _, rfl⟩
      case measure => simp [intOf]; omega
    · go_wp2
      go_ret
      exact ⟨rfl, quiet_below ⟨m, rfl⟩⟩
end Go.Proofs.YtmoekjgnichgnaaDoor
