/-
  The rule of the numbers of moves: movesBy$1 over slices.Min and slices.Max.
-/
import Derived.Test.YtdimmlpnfghndaaFa
import Derived.Test.YtdimmlpnfghndaaFt
import Derived.Deep.LoopGhost
namespace Go.Proofs.Ytdimmlpnfghndaa
open Go.RowKit Go.Maps
set_option linter.unusedVariables false

def lvI (up : List Int → Int) (N L game : Int) (R B pl : Int) : Lit := .int .i64 (left up N L R B game pl)
def leftAt (up : List Int → Int) (N L game : Int) (R B pl : Int) : Int := left up N L R B game pl
/-- What the rule does behind the values of the moves, whatever stands where ext says stands. -/
def RuleI (up : List Int → Int) (pb : Nat) (ext : List (Nat × Obj)) : Prop :=
  ∀ (a : Option Addr) (c : Nat) (bs : List Int) (V : World), (∀ p ∈ ext, V.heap[p.1]? = some p.2) → IntsAt V a bs → bs.length ≤ 8 → (∀ y ∈ bs, 0 ≤ y ∧ y ≤ 8) →
    Calls Try.prog 79 #[.slice a bs.length c, .pointer (some ⟨pb, 0, none⟩)] V (RetB (.int .i64 (up bs)) V)

def mxL : List Int → Int
  | [] => 0
  | x :: r => r.foldl (fun a b => if a < b then b else a) x
theorem mxL_take {l : List Int} {k : Nat} {y : Int} (h : l[k]? = some y) (hk : 0 < k) : mxL (l.take (k + 1)) = if mxL (l.take k) < y then y else mxL (l.take k) := by
  cases l with
  | nil => simp at h
  | cons x r =>
    obtain ⟨j, rfl⟩ : ∃ j, k = j + 1 := ⟨k - 1, by omega⟩
    have h' : r[j]? = some y := by simpa using h
    simp only [List.take_succ_cons, mxL]
    rw [List.take_add_one, h']
    rw [List.foldl_append]
    rfl
theorem mxL_up (l : List Int) (h : l ≠ []) : upMax l = mxL l + 1 := by
  cases l with
  | nil => exact absurd rfl h
  | cons x r => rfl
theorem mxL_mem : ∀ (l : List Int), l ≠ [] → mxL l ∈ l := by
  intro l h
  cases l with
  | nil => exact absurd rfl h
  | cons x r =>
    have : ∀ (r : List Int) (x : Int), r.foldl (fun a b => if a < b then b else a) x = x ∨ r.foldl (fun a b => if a < b then b else a) x ∈ r := by
      intro r
      induction r with
      | nil => exact fun x => Or.inl rfl
      | cons y s ih =>
        intro x
        simp only [List.foldl_cons]
        split
        · rcases ih y with e | e
          · exact Or.inr (by rw [e]; exact List.mem_cons_self)
          · exact Or.inr (List.mem_cons_of_mem _ e)
        · rcases ih x with e | e
          · exact Or.inl e
          · exact Or.inr (List.mem_cons_of_mem _ e)
    rcases this r x with e | e
    · show r.foldl _ x ∈ _
      rw [e]; exact List.mem_cons_self
    · exact List.mem_cons_of_mem _ e

set_option maxRecDepth 100000 in
set_option maxHeartbeats 1000000 in
theorem max_any (a : Option Addr) (c : Nat) (zs : List Int) (W : World) (ha : IntsAt W a zs) (h0 : 0 < zs.length) (hl : zs.length ≤ 1048576) :
    Calls Try.prog 71 #[.slice a zs.length c] W (RetB (.int .i64 (mxL zs)) W) := by
  obtain ⟨n, hn⟩ : ∃ n, n = zs.length := ⟨_, rfl⟩
  rw [← hn] at h0 hl ⊢
  have HN := hide hn
  obtain ⟨b, off, rfl, hcs⟩ := ha.get (k := 0) (by rw [← hn]; exact h0)
  obtain ⟨z, hz⟩ : ∃ z, zs[0]? = some z := ⟨_, List.getElem?_eq_getElem (by rw [← hn]; exact h0)⟩
  have c0 := hcs 0 (by rw [← hn]; exact h0)
  rw [hz] at c0
  simp only [Option.getD_some, Nat.add_zero] at c0
  have HCS := hide hcs
  have HZ := hide hz
  have hn1 : ¬ ((n : Int) < 1) := by omega
  clear hn hz ha hcs
  go_enter Try.func71, Try.ntmps71
  go_wp2
  go_loop [3, 4] (fun m i => ∃ k : Nat, 1 ≤ k ∧ k ≤ n ∧ i = .int .i64 k ∧ m = .int .i64 (mxL (zs.take k))) (fun _ i => n - (intOf i).toNat)
  case atStart => exact ⟨1, Nat.le_refl _, by omega, rfl, by
    have hz1 : zs.take 1 = [z] := by rw [List.take_add_one, HZ.out]; simp
    rw [hz1]
    rfl⟩
  case round =>
    clear c0 hn1
    obtain ⟨k, hk1, hk, rfl, rfl⟩ := hrel
    obtain ⟨m, hm⟩ : ∃ m, m = mxL (zs.take k) := ⟨_, rfl⟩
    rw [← hm]
    have HM := hide hm
    clear hm
    by_cases hlt : k < n
    · obtain ⟨y, hy⟩ : ∃ y, zs[k]? = some y := ⟨_, List.getElem?_eq_getElem (by rw [← HN.out]; exact hlt)⟩
      have cy := HCS.out k (by rw [← HN.out]; exact hlt)
      rw [hy] at cy
      simp only [Option.getD_some] at cy
      have hstep := mxL_take hy (by omega)
      rw [← HM.out] at hstep
      have HS := hide hstep
      clear hy hstep
      by_cases hmy : m < y
      · have hn : Hid (mxL (zs.take (k + 1)) = y) := hide (by rw [HS.out, if_pos hmy])
        go_wp2
        go_round
        case rel => exact ⟨k + 1, by omega, by omega, by go_num, by rw [hn.out]⟩
        case measure => simp [intOf]; omega
      · have hn : Hid (mxL (zs.take (k + 1)) = m) := hide (by rw [HS.out, if_neg hmy])
        go_wp2
        go_round
        case rel => exact ⟨k + 1, by omega, by omega, by go_num, by rw [hn.out]⟩
        case measure => simp [intOf]; omega
    · obtain rfl : k = n := by omega
      have hf : Hid (m = mxL zs) := hide (by rw [HM.out, HN.out, List.take_length])
      go_wp2
      go_ret
      exact ⟨by rw [hf.out]; rfl, Below.refl _ _⟩

set_option maxRecDepth 100000 in
set_option maxHeartbeats 1000000 in
theorem max_rule (pb : Nat) : RuleI upMax pb [(pb, .cells #[.func (.func 71) #[] #[]] 85 (0, 0))] := by
  intro a c bs V hext ha hl hr
  have hb : V.cell? ⟨pb, 0, none⟩ = some (.func (.func 71) #[] #[]) := (cell_of_row _ _ 0 _ _ (0, 0) (hext _ List.mem_cons_self)).trans rfl
  clear hext
  by_cases h0 : bs = []
  · subst h0
    go_enter Try.func79, Try.ntmps79
    go_wp2
    go_ret
    exact ⟨rfl, Below.refl _ _⟩
  · have hp : 0 < bs.length := List.length_pos_iff.2 h0
    obtain ⟨r0, r1⟩ := hr _ (mxL_mem bs h0)
    have HV : Hid (upMax bs = mxL bs + 1) := hide (mxL_up bs h0)
    have HPK : Hid (∀ W : World, Below V.heap.size V W → Calls Try.prog 71 #[.slice a bs.length c] W (RetB (.int .i64 (mxL bs)) W)) := hide (fun W hW => max_any a c bs W (ha.keep hW) hp (by omega))
    rw [HV.out]
    obtain ⟨n, hn⟩ : ∃ n, n = bs.length := ⟨_, rfl⟩
    obtain ⟨m, hm⟩ : ∃ m, m = mxL bs := ⟨_, rfl⟩
    rw [← hn] at hl hp HPK ⊢
    rw [← hm] at r0 r1 HPK ⊢
    have hne : ((n : Int) == 0) = false := by simp; omega
    clear hn hm h0 ha hr HV
    go_enter Try.func79, Try.ntmps79
    go_wp2_with fail
    refine (HPK.out _ (Below.refl _ _)).mono ?_
    rintro e w1 ⟨rfl, hB1⟩
    go_wp2_with fail
    go_ret
    exact ⟨by (rw [Int.add_comm m 1]; rfl), hB1⟩

def mnL : List Int → Int
  | [] => 0
  | x :: r => r.foldl (fun a b => if b < a then b else a) x
theorem mnL_take {l : List Int} {k : Nat} {y : Int} (h : l[k]? = some y) (hk : 0 < k) : mnL (l.take (k + 1)) = if y < mnL (l.take k) then y else mnL (l.take k) := by
  cases l with
  | nil => simp at h
  | cons x r =>
    obtain ⟨j, rfl⟩ : ∃ j, k = j + 1 := ⟨k - 1, by omega⟩
    have h' : r[j]? = some y := by simpa using h
    simp only [List.take_succ_cons, mnL]
    rw [List.take_add_one, h']
    rw [List.foldl_append]
    rfl
theorem mnL_up (l : List Int) (h : l ≠ []) : upMin l = mnL l + 1 := by
  cases l with
  | nil => exact absurd rfl h
  | cons x r => rfl
theorem mnL_mem : ∀ (l : List Int), l ≠ [] → mnL l ∈ l := by
  intro l h
  cases l with
  | nil => exact absurd rfl h
  | cons x r =>
    have : ∀ (r : List Int) (x : Int), r.foldl (fun a b => if b < a then b else a) x = x ∨ r.foldl (fun a b => if b < a then b else a) x ∈ r := by
      intro r
      induction r with
      | nil => exact fun x => Or.inl rfl
      | cons y s ih =>
        intro x
        simp only [List.foldl_cons]
        split
        · rcases ih y with e | e
          · exact Or.inr (by rw [e]; exact List.mem_cons_self)
          · exact Or.inr (List.mem_cons_of_mem _ e)
        · rcases ih x with e | e
          · exact Or.inl e
          · exact Or.inr (List.mem_cons_of_mem _ e)
    rcases this r x with e | e
    · show r.foldl _ x ∈ _
      rw [e]; exact List.mem_cons_self
    · exact List.mem_cons_of_mem _ e

set_option maxRecDepth 100000 in
set_option maxHeartbeats 1000000 in
theorem min_any (a : Option Addr) (c : Nat) (zs : List Int) (W : World) (ha : IntsAt W a zs) (h0 : 0 < zs.length) (hl : zs.length ≤ 1048576) :
    Calls Try.prog 70 #[.slice a zs.length c] W (RetB (.int .i64 (mnL zs)) W) := by
  obtain ⟨n, hn⟩ : ∃ n, n = zs.length := ⟨_, rfl⟩
  rw [← hn] at h0 hl ⊢
  have HN := hide hn
  obtain ⟨b, off, rfl, hcs⟩ := ha.get (k := 0) (by rw [← hn]; exact h0)
  obtain ⟨z, hz⟩ : ∃ z, zs[0]? = some z := ⟨_, List.getElem?_eq_getElem (by rw [← hn]; exact h0)⟩
  have c0 := hcs 0 (by rw [← hn]; exact h0)
  rw [hz] at c0
  simp only [Option.getD_some, Nat.add_zero] at c0
  have HCS := hide hcs
  have HZ := hide hz
  have hn1 : ¬ ((n : Int) < 1) := by omega
  clear hn hz ha hcs
  go_enter Try.func70, Try.ntmps70
  go_wp2
  go_loop [3, 4] (fun m i => ∃ k : Nat, 1 ≤ k ∧ k ≤ n ∧ i = .int .i64 k ∧ m = .int .i64 (mnL (zs.take k))) (fun _ i => n - (intOf i).toNat)
  case atStart => exact ⟨1, Nat.le_refl _, by omega, rfl, by
    have hz1 : zs.take 1 = [z] := by rw [List.take_add_one, HZ.out]; simp
    rw [hz1]
    rfl⟩
  case round =>
    clear c0 hn1
    obtain ⟨k, hk1, hk, rfl, rfl⟩ := hrel
    obtain ⟨m, hm⟩ : ∃ m, m = mnL (zs.take k) := ⟨_, rfl⟩
    rw [← hm]
    have HM := hide hm
    clear hm
    by_cases hlt : k < n
    · obtain ⟨y, hy⟩ : ∃ y, zs[k]? = some y := ⟨_, List.getElem?_eq_getElem (by rw [← HN.out]; exact hlt)⟩
      have cy := HCS.out k (by rw [← HN.out]; exact hlt)
      rw [hy] at cy
      simp only [Option.getD_some] at cy
      have hstep := mnL_take hy (by omega)
      rw [← HM.out] at hstep
      have HS := hide hstep
      clear hy hstep
      by_cases hmy : y < m
      · have hn : Hid (mnL (zs.take (k + 1)) = y) := hide (by rw [HS.out, if_pos hmy])
        go_wp2
        go_round
        case rel => exact ⟨k + 1, by omega, by omega, by go_num, by rw [hn.out]⟩
        case measure => simp [intOf]; omega
      · have hn : Hid (mnL (zs.take (k + 1)) = m) := hide (by rw [HS.out, if_neg hmy])
        go_wp2
        go_round
        case rel => exact ⟨k + 1, by omega, by omega, by go_num, by rw [hn.out]⟩
        case measure => simp [intOf]; omega
    · obtain rfl : k = n := by omega
      have hf : Hid (m = mnL zs) := hide (by rw [HM.out, HN.out, List.take_length])
      go_wp2
      go_ret
      exact ⟨by rw [hf.out]; rfl, Below.refl _ _⟩

set_option maxRecDepth 100000 in
set_option maxHeartbeats 1000000 in
theorem min_rule (pb : Nat) : RuleI upMin pb [(pb, .cells #[.func (.func 70) #[] #[]] 85 (0, 0))] := by
  intro a c bs V hext ha hl hr
  have hb : V.cell? ⟨pb, 0, none⟩ = some (.func (.func 70) #[] #[]) := (cell_of_row _ _ 0 _ _ (0, 0) (hext _ List.mem_cons_self)).trans rfl
  clear hext
  by_cases h0 : bs = []
  · subst h0
    go_enter Try.func79, Try.ntmps79
    go_wp2
    go_ret
    exact ⟨rfl, Below.refl _ _⟩
  · have hp : 0 < bs.length := List.length_pos_iff.2 h0
    obtain ⟨r0, r1⟩ := hr _ (mnL_mem bs h0)
    have HV : Hid (upMin bs = mnL bs + 1) := hide (mnL_up bs h0)
    have HPK : Hid (∀ W : World, Below V.heap.size V W → Calls Try.prog 70 #[.slice a bs.length c] W (RetB (.int .i64 (mnL bs)) W)) := hide (fun W hW => min_any a c bs W (ha.keep hW) hp (by omega))
    rw [HV.out]
    obtain ⟨n, hn⟩ : ∃ n, n = bs.length := ⟨_, rfl⟩
    obtain ⟨m, hm⟩ : ∃ m, m = mnL bs := ⟨_, rfl⟩
    rw [← hn] at hl hp HPK ⊢
    rw [← hm] at r0 r1 HPK ⊢
    have hne : ((n : Int) == 0) = false := by simp; omega
    clear hn hm h0 ha hr HV
    go_enter Try.func79, Try.ntmps79
    go_wp2_with fail
    refine (HPK.out _ (Below.refl _ _)).mono ?_
    rintro e w1 ⟨rfl, hB1⟩
    go_wp2_with fail
    go_ret
    exact ⟨by (rw [Int.add_comm m 1]; rfl), hB1⟩

end Go.Proofs.Ytdimmlpnfghndaa
