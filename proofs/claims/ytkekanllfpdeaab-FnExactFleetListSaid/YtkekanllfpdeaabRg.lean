/-
  Slices of slices of int64: what reads as a list of lists; the laws' helper on them.
-/
import Derived.Test.YtkekanllfpdeaabCo
namespace Go.Proofs.Ytkekanllfpdeaab
open Go.RowKit

/-- The slice of slices at 'a' reads as 'xss'. -/
def RowsAt (w : World) (a : Option Addr) (xss : List (List Int)) : Prop :=
  xss ≠ [] → ∃ b off, a = some ⟨b, off, none⟩ ∧ ∀ i zs, xss[i]? = some zs → ∃ ai ci, w.cell? ⟨b, off + i, none⟩ = some (.slice ai zs.length ci) ∧ IntsAt w ai zs

theorem RowsAt.nil (w : World) (a : Option Addr) : RowsAt w a [] := fun h => absurd rfl h

theorem RowsAt.keep {w w' : World} {a : Option Addr} {xss : List (List Int)} (h : RowsAt w a xss) (hb : Below w.heap.size w w') : RowsAt w' a xss := by
  intro hne
  obtain ⟨b, off, rfl, hc⟩ := h hne
  refine ⟨b, off, rfl, fun i zs hi => ?_⟩
  obtain ⟨ai, ci, hcell, hz⟩ := hc i zs hi
  exact ⟨ai, ci, by rw [hb.cell (p := ⟨b, off + i, none⟩) (World.block_lt_of_cell? w _ hcell)]; exact hcell, hz.keep hb⟩

/-- One row, under names of its own. -/
theorem RowsAt.one {w : World} {a : Option Addr} {xss : List (List Int)} (h : RowsAt w a xss) {k : Nat} (hk : k < xss.length) :
    ∃ b off ai ci zs, a = some ⟨b, off, none⟩ ∧ w.cell? ⟨b, off + k, none⟩ = some (.slice ai zs.length ci) ∧ IntsAt w ai zs ∧ Hid (xss[k]? = some zs) := by
  obtain ⟨b, off, ha, hc⟩ := h (by intro e; subst e; simp at hk)
  obtain ⟨ai, ci, hcell, hz⟩ := hc k xss[k] (List.getElem?_eq_getElem hk)
  exact ⟨b, off, ai, ci, _, ha, hcell, hz, List.getElem?_eq_getElem hk⟩

def Small (xss : List (List Int)) : Prop := xss.length ≤ 1048576 ∧ ∀ zs ∈ xss, zs.length ≤ 1048576
theorem Try.info22 : (Try.prog.info? 22).map (fun i => (i.zero, i.size, i.bytes)) = some (some (.slice none 0 0), 1, 24) := by kernel_rfl

set_option maxHeartbeats 400000 in
theorem eqInt64SS_same (a b : Option Addr) (c d : Nat) (xss : List (List Int)) (w : World) (ha : RowsAt w a xss) (hb : RowsAt w b xss) (hs : Small xss) :
    Calls Try.prog 13 #[.slice a xss.length c, .slice b xss.length d] w fun e w' => e = .returned (.bool true) ∧ Quiet w w' := by
  have hl := hs.1
  go_enter Try.func13, Try.ntmps13
  go_wp2_with fail
  go_loopw [5] (fun i wr => ∃ k : Nat, k ≤ xss.length ∧ i = .int .i64 k ∧ Quiet w wr) (fun i _ => xss.length - (intOf i).toNat)
  case atStart => exact ⟨0, Nat.zero_le _, rfl, Quiet.refl _⟩
  case round =>
    obtain ⟨k, hk, rfl, hq⟩ := hrel
    by_cases hlt : k < xss.length
    · obtain ⟨b1, o1, a1, c1, zs, rfl, hc1, hz1, hg1⟩ := (ha.keep hq.below).one hlt
      obtain ⟨b2, o2, a2, c2, zs', rfl, hc2, hz2, hg2⟩ := (hb.keep hq.below).one hlt
      have e : zs' = zs := by have h1 := hg1.out; have h2 := hg2.out; rw [h1] at h2; exact (Option.some.inj h2).symm
      subst e
      have hzs : zs'.length ≤ 1048576 := hs.2 _ (mem_of_get hg1.out)
      clear ha hb hs
      go_wp2_with fail
      go_quiet ((go_at_call 21; exact Calls.quiet_of (eqInt64S_quiet _ _ _ _ zs' _ hz1 hz2 hzs)))
      go_wp2_with fail
      go_roundw
      case rel => exact ⟨k + 1, by omega, by go_num, hq.drewN _⟩
      case measure => simp [intOf]; omega
    · go_wp2_with fail
      go_ret
      exact ⟨rfl, hq⟩

end Go.Proofs.Ytkekanllfpdeaab
