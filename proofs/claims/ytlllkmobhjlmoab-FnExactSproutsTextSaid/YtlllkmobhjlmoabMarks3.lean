/-
  The laws' marks on an argument's copy: markInt64SSS, markSprouts, and what they turn.
-/
import Derived.Test.YtlllkmobhjlmoabCube
namespace Go.Proofs.Ytlllkmobhjlmoab
open Go.RowKit

theorem tot_append (xss yss : List (List Int)) : tot (xss ++ yss) = tot xss + tot yss := by
  induction xss with
  | nil => simp [tot]
  | cons x r ih => simp [tot, ih]; omega
theorem tot_take_le (xss : List (List Int)) (j : Nat) : tot (xss.take j) ≤ tot xss := by
  have := tot_append (xss.take j) (xss.drop j)
  rw [List.take_append_drop] at this
  omega
theorem tot_succ {xss : List (List Int)} {j : Nat} {zs : List Int} (h : xss[j]? = some zs) : tot (xss.take (j + 1)) = tot (xss.take j) + zs.length := by
  rw [List.take_add_one, h, tot_append]
  simp [tot]
theorem tot3_append (X Y : List (List (List Int))) : tot3 (X ++ Y) = tot3 X + tot3 Y := by
  induction X with
  | nil => simp [tot3]
  | cons x r ih => simp [tot3, ih]; omega
theorem tot3_take_le (X : List (List (List Int))) (j : Nat) : tot3 (X.take j) ≤ tot3 X := by
  have := tot3_append (X.take j) (X.drop j)
  rw [List.take_append_drop] at this
  omega
theorem tot3_succ {X : List (List (List Int))} {j : Nat} {xss : List (List Int)} (h : X[j]? = some xss) : tot3 (X.take (j + 1)) = tot3 (X.take j) + tot xss := by
  rw [List.take_add_one, h, tot3_append]
  simp [tot3]
theorem tot_mem {xss : List (List Int)} {zs : List Int} (h : zs ∈ xss) : zs.length ≤ tot xss := by
  induction xss with
  | nil => cases h
  | cons x r ih =>
    rcases List.mem_cons.1 h with e | e
    · subst e; simp [tot]
    · have := ih e; simp [tot]; omega

/-- What a mark of an argument's copy leaves: the numbers' rows alone have turned. -/
def MarkNums (w : World) (lo hi : Nat) (k : Int) (n : Nat) (e : Ending) (w' : World) : Prop := e = .returned (.int .i64 (k + n)) ∧ Marked (NumRows w lo hi) w w'

theorem numRows_marked {w w' : World} {lo hi : Nat} {S : Nat → Prop} (h : Marked S w w') (k : Nat) (hk : NumRows w' lo hi k) : NumRows w lo hi k ∨ ¬ ∃ cur t, w.heap[k]? = some (.cells cur t (0, 0)) := by
  obtain ⟨h1, h2, cur, h3⟩ := hk
  by_cases e : ∃ cur t, w.heap[k]? = some (.cells cur t (0, 0))
  · obtain ⟨cur0, t, h0⟩ := e
    obtain ⟨cur', h', _⟩ := h.shape k cur0 t h0
    rw [h3] at h'
    simp at h'
    obtain ⟨_, rfl⟩ := h'
    exact .inl ⟨h1, h2, cur0, h0⟩
  · exact .inr e

set_option maxHeartbeats 400000 in
theorem markInt64SS_num (a : Option Addr) (c : Nat) (xss : List (List Int)) (k : Int) (lo hi : Nat) (w0 w : World) (hg : GridOwn w0 lo hi a c xss) (hM0 : Marked (NumRows w0 lo hi) w0 w) (hl : xss.length ≤ 1048576) (hz : tot xss ≤ 1048576) (hk0 : 0 ≤ k) (hk1 : k ≤ 2199023255552) :
    Calls Try.prog 36 #[.slice a xss.length c, .int .i64 k] w fun e w' => e = .returned (.int .i64 (k + tot xss)) ∧ Marked (NumRows w0 lo hi) w0 w' := by
  obtain ⟨g, vs, rfl, hghi, hvl, ho, hr⟩ := hg
  have hout : ∀ k, NumRows w0 lo hi k → k ≠ g := by
    rintro k ⟨_, _, cur, hk⟩ rfl
    rcases ho.2 with ⟨h', _⟩ | ⟨g', cap, cur', hv, _, hh, _⟩
    · simp at h'
    · simp only [Value.slice.injEq, Option.some.injEq, Addr.mk.injEq, and_true, true_and] at hv
      obtain ⟨rfl, _⟩ := hv
      rw [hk] at hh
      simp at hh
  have HO := hide hout
  have HR := hide hr
  have HW := hide ho
  have HM0 := hide hM0
  clear hout hr ho hM0
  go_enter Try.func36, Try.ntmps36
  go_wp2_with fail
  go_loopw [1, 5] (fun s i wr => ∃ (j : Nat) (t : Int), s = .int .i64 t ∧ j ≤ xss.length ∧ i = .int .i64 j ∧ Hid (t = k + tot (xss.take j)) ∧ Hid (Marked (NumRows w0 lo hi) w0 wr)) (fun _ i _ => xss.length - (intOf i).toNat)
  case atStart => exact ⟨0, k, rfl, Nat.zero_le _, rfl, hide (by simp [tot]), HM0⟩
  case round =>
    obtain ⟨j, t, rfl, hj, rfl, HT, HM⟩ := hrel
    by_cases hlt : j < xss.length
    · obtain ⟨gi, ci, hgi, hv, hoi⟩ := HR.out j xss[j] (List.getElem?_eq_getElem hlt)
      have hmem : xss[j] ∈ xss := List.getElem_mem hlt
      have hjz : xss[j]? = some xss[j] := List.getElem?_eq_getElem hlt
      obtain ⟨zs, hzz⟩ : ∃ zs, zs = xss[j] := ⟨_, rfl⟩
      rw [← hzz] at hv hoi hmem hjz
      have hzs : zs.length ≤ 1048576 := Nat.le_trans (tot_mem hmem) hz
      have hts := hide (tot_succ hjz)
      have htl := tot_take_le xss j
      have ht := HT.out
      have ht0 : 0 ≤ t := by omega
      have ht1 : t ≤ 4398046511104 := by omega
      have ho' := HM.out.owns HW.out (fun g' e hS => by cases e; exact HO.out _ hS rfl)
      have hcell : wr.cell? ⟨g, j, none⟩ = some (.slice (some ⟨gi, 0, none⟩) zs.length ci) := by rw [ho'.cellAt j (by omega)]; exact hv
      have hroom : Room wr (some ⟨gi, 0, none⟩) zs.length ∧ (zs.length = 0 ∨ NumRows w0 lo hi gi) := by
        by_cases e0 : zs.length = 0
        · exact ⟨.inl e0, .inl e0⟩
        · rcases hoi.2 with ⟨_, h0⟩ | ⟨g', cap, cur, hv', hlo, hh, hcap, _, hsz, _⟩
          · exact absurd h0 e0
          · simp only [Value.slice.injEq, Option.some.injEq, Addr.mk.injEq, and_true, true_and] at hv'
            obtain ⟨rfl, rfl⟩ := hv'
            obtain ⟨cur', hh', hs'⟩ := HM.out.shape _ _ _ hh
            exact ⟨.inr ⟨gi, 0, cur', rfl, hh', by omega⟩, .inr ⟨hlo, hgi, cur, hh⟩⟩
      obtain ⟨hroom, hnum⟩ := hroom
      have HN := hide hnum
      clear hnum ho' hoi hv ht hzz hjz hmem htl
      go_wp2_with fail
      refine (markInt64S_any _ _ _ _ _ hroom hzs ht0 ht1).mono ?_
      rintro e w1 ⟨rfl, hpost⟩
      have hM1 : Hid (Marked (NumRows w0 lo hi) w0 w1) := by
        refine hide ?_
        rcases hpost with ⟨_, rfl⟩ | ⟨b, off, cur, cur', hpos, hb, _, _, _, hM'⟩
        · exact HM.out
        · cases hb
          rcases HN.out with e0 | hN
          · omega
          · exact HM.out.trans (hM'.weaken (fun k e => by cases e; exact hN))
      clear hpost
      go_wp2_with fail
      go_roundw
      case rel => exact ⟨j + 1, _, rfl, by omega, by go_num, by have h1 := hts.out; have h2 := HT.out; show t + (zs.length : Int) = k + (tot (xss.take (j + 1)) : Nat); rw [h1, h2]; push_cast; omega, hM1⟩
      case measure => simp [intOf]; omega
    · obtain rfl : j = xss.length := by omega
      have hfin : t = k + tot xss := by
        have h1 := HT.out
        rw [List.take_length] at h1
        exact h1
      have HF := hide hfin
      clear hfin
      go_wp2_with fail
      go_ret
      exact ⟨ret_int HF.out, HM.out⟩

set_option maxHeartbeats 400000 in
theorem markInt64SSS_num (a : Option Addr) (c : Nat) (X : List (List (List Int))) (k : Int) (lo hi : Nat) (w : World) (hg : CubeOwn w lo hi a c X) (hs : Small3 X) (hk0 : 0 ≤ k) (hk1 : k ≤ 1099511627776) :
    Calls Try.prog 25 #[.slice a X.length c, .int .i64 k] w (MarkNums w lo hi k (tot3 X)) := by
  obtain ⟨hl, ht3, hsm⟩ := hs
  obtain ⟨g, vs, rfl, hghi, hvl, ho, hr⟩ := hg
  have hout : ∀ k, NumRows w lo hi k → k ≠ g := by
    rintro k ⟨_, _, cur, hk⟩ rfl
    rcases ho.2 with ⟨h', _⟩ | ⟨g', cap, cur', hv, _, hh, _⟩
    · simp at h'
    · simp only [Value.slice.injEq, Option.some.injEq, Addr.mk.injEq, and_true, true_and] at hv
      obtain ⟨rfl, _⟩ := hv
      rw [hk] at hh
      simp at hh
  have HO := hide hout
  have HR := hide hr
  have HW := hide ho
  have HSM := hide hsm
  clear hout hr ho hsm
  go_enter Try.func25, Try.ntmps25
  go_wp2_with fail
  go_loopw [1, 5] (fun s i wr => ∃ (j : Nat) (t : Int), s = .int .i64 t ∧ j ≤ X.length ∧ i = .int .i64 j ∧ Hid (t = k + tot3 (X.take j)) ∧ Hid (Marked (NumRows w lo hi) w wr)) (fun _ i _ => X.length - (intOf i).toNat)
  case atStart => exact ⟨0, k, rfl, Nat.zero_le _, rfl, hide (by simp [tot3]), Marked.refl _ _⟩
  case round =>
    obtain ⟨j, t, rfl, hj, rfl, HT, HM⟩ := hrel
    by_cases hlt : j < X.length
    · obtain ⟨ai, ci, hv, hoi⟩ := HR.out j X[j] (List.getElem?_eq_getElem hlt)
      have hmem : X[j] ∈ X := List.getElem_mem hlt
      have hjz : X[j]? = some X[j] := List.getElem?_eq_getElem hlt
      obtain ⟨xss, hzz⟩ : ∃ xss, xss = X[j] := ⟨_, rfl⟩
      rw [← hzz] at hv hoi hmem hjz
      have hxs := (HSM.out xss hmem).1
      have hts := tot3_succ hjz
      have htl := tot3_take_le X (j + 1)
      have htx : tot xss ≤ 1048576 := by omega
      have ht := HT.out
      have ht0 : 0 ≤ t := by omega
      have ht1 : t ≤ 2199023255552 := by omega
      have HTS := hide hts
      have ho' := HM.out.owns HW.out (fun g' e hS => by cases e; exact HO.out _ hS rfl)
      have hcell : wr.cell? ⟨g, j, none⟩ = some (.slice ai xss.length ci) := by rw [ho'.cellAt j (by omega)]; exact hv
      have HOI := hide hoi
      clear ho' hoi hv ht hzz hjz hmem htl hts
      go_wp2_with fail
      refine (markInt64SS_num _ _ xss t lo hi w _ HOI.out HM.out hxs htx ht0 ht1).mono ?_
      rintro e w1 ⟨rfl, hM1⟩
      have HM1 := hide hM1
      clear hM1
      go_wp2_with fail
      go_roundw
      case rel => exact ⟨j + 1, _, rfl, by omega, by go_num, by have h1 := HTS.out; have h2 := HT.out; show t + (tot xss : Int) = k + (tot3 (X.take (j + 1)) : Nat); rw [h1, h2]; push_cast; omega, HM1⟩
      case measure => simp [intOf]; omega
    · obtain rfl : j = X.length := by omega
      have hfin : t = k + tot3 X := by
        have h1 := HT.out
        rw [List.take_length] at h1
        exact h1
      have HF := hide hfin
      clear hfin
      go_wp2_with fail
      go_ret
      exact ⟨ret_int HF.out, HM.out⟩
end Go.Proofs.Ytlllkmobhjlmoab
