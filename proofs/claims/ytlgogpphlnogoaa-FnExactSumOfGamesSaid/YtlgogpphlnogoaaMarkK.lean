/-
  A mark of a game's copy that begins at any number, and a copy that such a mark leaves alone.
-/
import Derived.Test.YtlgogpphlnogoaaMarks
namespace Go.Proofs.Ytlgogpphlnogoaa
open Go.RowKit

theorem Marked.gridOwn {S : Nat → Prop} {w w' : World} {lo hi : Nat} {a : Option Addr} {c : Nat} {xss : List (List Int)} (h : Marked S w w') (hg : GridOwn w lo hi a c xss) (hS : ∀ k, S k → k < lo) : GridOwn w' lo hi a c xss := by
  obtain ⟨g, vs, ha, hg, hl, ho, hr⟩ := hg
  refine ⟨g, vs, ha, hg, hl, h.owns ho (fun g' e hs => ?_), fun i zs hi => ?_⟩
  · have h1 := hS g' hs
    have h2 := (ho.lt g' (by rw [e]; rfl)).1
    omega
  · obtain ⟨gi, ci, h1, h2, h3⟩ := hr i zs hi
    refine ⟨gi, ci, h1, h2, h.owns h3 (fun g' e hs => ?_)⟩
    have h1 := hS g' hs
    have h2 := (h3.lt g' (by cases e; rfl)).1
    omega

def MarkGridPostK (w : World) (lo hi n : Nat) (k : Int) (e : Ending) (w' : World) : Prop := ∃ t : Int, e = .returned (.int .i64 t) ∧ 0 ≤ t ∧ t ≤ k + (n : Int) * 1048576 ∧ Marked (NumRows w lo hi) w w'

set_option maxHeartbeats 400000 in
theorem markInt64SS_k (a : Option Addr) (c : Nat) (xss : List (List Int)) (k : Int) (lo hi : Nat) (w : World) (hg : GridOwn w lo hi a c xss) (hs : Small xss) (hk0 : 0 ≤ k) (hk1 : k ≤ 2199023255552) :
    Calls Try.prog 57 #[.slice a xss.length c, .int .i64 k] w (MarkGridPostK w lo hi xss.length k) := by
  have hl := hs.1
  obtain ⟨g, vs, rfl, hghi, hvl, ho, hr⟩ := hg
  have hout : ∀ k, NumRows w lo hi k → k ≠ g := by
    rintro k ⟨_, _, cur, hk⟩ rfl
    rcases ho.2 with ⟨h', _⟩ | ⟨g', cap, cur', hv, _, hh, _⟩
    · simp at h'
    · simp only [Value.slice.injEq, Option.some.injEq, Addr.mk.injEq, and_true, true_and] at hv
      obtain ⟨rfl, _⟩ := hv
      rw [hk] at hh
      simp at hh
  have HO := hide hout
  have HR := hide hr
  clear hout hr
  go_enter Try.func57, Try.ntmps57
  go_wp2_with fail
  go_loopw [1, 5] (fun s i wr => ∃ (j : Nat) (t : Int), s = .int .i64 t ∧ j ≤ xss.length ∧ i = .int .i64 j ∧ 0 ≤ t ∧ t ≤ k + (j : Int) * 1048576 ∧ Marked (NumRows w lo hi) w wr) (fun _ i _ => xss.length - (intOf i).toNat)
  case atStart => exact ⟨0, k, rfl, Nat.zero_le _, rfl, by omega, by omega, Marked.refl _ _⟩
  case round =>
    obtain ⟨j, t, rfl, hj, rfl, ht0, ht1, hM⟩ := hrel
    by_cases hlt : j < xss.length
    · obtain ⟨gi, ci, hgi, hv, hoi⟩ := HR.out j xss[j] (List.getElem?_eq_getElem hlt)
      have hzs : xss[j].length ≤ 1048576 := hs.2 _ (List.getElem_mem hlt)
      obtain ⟨zs, hzz⟩ : ∃ zs, zs = xss[j] := ⟨_, rfl⟩
      rw [← hzz] at hv hoi hzs
      clear hzz
      have ho' := hM.owns ho (fun g' e hS => by cases e; exact HO.out _ hS rfl)
      have hcell : wr.cell? ⟨g, j, none⟩ = some (.slice (some ⟨gi, 0, none⟩) zs.length ci) := by rw [ho'.cellAt j (by omega)]; exact hv
      have hroom : Room wr (some ⟨gi, 0, none⟩) zs.length ∧ (zs.length = 0 ∨ NumRows w lo hi gi) := by
        by_cases e0 : zs.length = 0
        · exact ⟨.inl e0, .inl e0⟩
        · rcases hoi.2 with ⟨_, h0⟩ | ⟨g', cap, cur, hv', hlo, hh, hcap, _, hsz, _⟩
          · exact absurd h0 e0
          · simp only [Value.slice.injEq, Option.some.injEq, Addr.mk.injEq, and_true, true_and] at hv'
            obtain ⟨rfl, rfl⟩ := hv'
            obtain ⟨cur', hh', hs'⟩ := hM.shape _ _ _ hh
            exact ⟨.inr ⟨gi, 0, cur', rfl, hh', by omega⟩, .inr ⟨hlo, hgi, cur, hh⟩⟩
      obtain ⟨hroom, hnum⟩ := hroom
      have HN := hide hnum
      clear hnum ho ho' hoi hv hs
      go_wp2_with fail
      refine (markInt64S_any _ _ _ _ _ hroom hzs (by omega) (by omega)).mono ?_
      rintro e w1 ⟨rfl, hpost⟩
      have hM1 : Marked (NumRows w lo hi) w w1 := by
        rcases hpost with ⟨_, rfl⟩ | ⟨b, off, cur, cur', hpos, hb, _, _, _, hM'⟩
        · exact hM
        · cases hb
          rcases HN.out with e0 | hN
          · omega
          · exact hM.trans (hM'.weaken (fun k e => by cases e; exact hN))
      clear hpost hM
      go_wp2_with fail
      go_roundw
      case rel => exact ⟨j + 1, _, rfl, by omega, by go_num, by omega, by omega, hM1⟩
      case measure => simp [intOf]; omega
    · obtain rfl : j = xss.length := by omega
      have hfin : MarkGridPostK w lo hi xss.length k (.returned (.int .i64 t)) wr := ⟨t, rfl, ht0, ht1, hM⟩
      clear hM ho
      go_wp2_with fail
      go_ret
      exact hfin

set_option maxHeartbeats 400000 in
theorem markGame_k (a : Option Addr) (c : Nat) (xss : List (List Int)) (k : Int) (lo hi : Nat) (w : World) (hg : GridOwn w lo hi a c xss) (hs : Small xss) (hhi : hi ≤ w.heap.size) (hk0 : 0 ≤ k) (hk1 : k ≤ 2199023255552) :
    Calls Try.prog 16 #[.agg #[.slice a xss.length c], .int .i64 k] w fun e w' => ∃ t : Int, e = .returned (.int .i64 t) ∧ 0 ≤ t ∧ t ≤ k + (xss.length : Int) * 1048576 ∧ Marked (NumRows w lo hi) (w.alloc (.cells #[.slice a xss.length c] 29)) w' := by
  have hB : Below w.heap.size w (w.alloc (.cells #[.slice a xss.length c] 29)) := (Below.refl _ _).alloc (Nat.le_refl _) _
  go_enter Try.func16, Try.ntmps16
  go_wp2_with fail
  refine (markInt64SS_k _ _ xss k lo hi _ (hg.keep hB) hs hk0 hk1).mono ?_
  rintro e w1 ⟨t, rfl, ht, ht2, hM⟩
  have hM2 : Marked (NumRows w lo hi) (w.alloc (.cells #[.slice a xss.length c] 29)) w1 :=
    hM.weaken (fun k ⟨h1, h2, cur, h3⟩ => ⟨h1, h2, cur, by rw [← h3]; exact (hB.block k (by omega)).symm⟩)
  clear hM hg
  go_wp2_with fail
  go_ret
  exact ⟨t, rfl, ht, ht2, hM2⟩
end Go.Proofs.Ytlgogpphlnogoaa
