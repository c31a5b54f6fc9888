/-
  Col and snort: the places of a table over all colourings; all colourings listed. No walk stands here.
-/
import Derived.Test.YtdimmlpnfghndaaFp
namespace Go.Proofs.Ytdimmlpnfghndaa
open Go.RowKit
set_option linter.unusedVariables false

/-- The place of the first k points' colours. -/
def plc3 (R B : Int) : Nat → Int
  | 0 => 0
  | k + 1 => plc3 R B k * 3 + dg R k + 2 * dg B k
def place (n R B pl : Int) : Int := plc3 R B n.toNat * 2 + pl
def pow3 : Nat → Int
  | 0 => 1
  | k + 1 => pow3 k * 3
theorem pow3_pos : ∀ k, 1 ≤ pow3 k
  | 0 => by simp [pow3]
  | k + 1 => by have := pow3_pos k; simp only [pow3]; omega
theorem pow3_mono {a b : Nat} (h : a ≤ b) : pow3 a ≤ pow3 b := by
  induction b with
  | zero => rw [show a = 0 by omega]; exact Int.le_refl _
  | succ b ih =>
    by_cases e : a = b + 1
    · rw [e]; exact Int.le_refl _
    · have := ih (by omega)
      have h2 := pow3_pos b
      simp only [pow3]
      omega
theorem pow3_8 {n : Nat} (h : n ≤ 8) : pow3 n ≤ 6561 := pow3_mono (b := 8) h
/-- No point is both: as the digits say it. -/
def Apart (R B : Int) : Prop := ∀ i : Nat, dg R i + 2 * dg B i ≤ 2
theorem okF_apart {n L R B : Int} (h : okF n L R B = true) : Apart R B := by
  obtain ⟨_, _, ⟨r0, _⟩, ⟨b0, _⟩, h5⟩ := okF_parts h
  intro i
  rw [cl_sum r0 b0 (by omega) h5]
  have := cl_range R B i
  omega
theorem plc3_range {R B : Int} (h : Apart R B) : ∀ k, 0 ≤ plc3 R B k ∧ plc3 R B k < pow3 k
  | 0 => by simp [plc3, pow3]
  | k + 1 => by
    have ih := plc3_range h k
    have h1 := h k
    have h2 := dg_01 R k
    have h3 := dg_01 B k
    simp only [plc3, pow3]
    omega
theorem plc3_inj {R B R' B' : Int} (h : Apart R B) (h' : Apart R' B') : ∀ k, plc3 R B k = plc3 R' B' k → ∀ i : Nat, i < k → dg R i = dg R' i ∧ dg B i = dg B' i
  | 0, _, i, hi => by omega
  | k + 1, he, i, hi => by
    have h1 := h k
    have h2 := dg_01 R k
    have h3 := dg_01 B k
    have h1' := h' k
    have h2' := dg_01 R' k
    have h3' := dg_01 B' k
    simp only [plc3] at he
    have e : plc3 R B k = plc3 R' B' k ∧ dg R k = dg R' k ∧ dg B k = dg B' k := by omega
    by_cases e2 : i = k
    · subst e2; exact e.2
    · exact plc3_inj h h' k e.1 i (by omega)
theorem eq_of_dg {n : Nat} {x y : Int} (h0 : 0 ≤ x) (h1 : x < 2 ^ n) (k0 : 0 ≤ y) (k1 : y < 2 ^ n) (h : ∀ i : Nat, i < n → dg x i = dg y i) : x = y := by
  obtain ⟨a, rfl⟩ := Int.eq_ofNat_of_zero_le h0
  obtain ⟨b, rfl⟩ := Int.eq_ofNat_of_zero_le k0
  have ha : a < 2 ^ n := by exact_mod_cast h1
  have hb : b < 2 ^ n := by exact_mod_cast k1
  congr 1
  apply Nat.eq_of_testBit_eq
  intro i
  by_cases hi : i < n
  · have := h i hi
    rw [dg_nat, dg_nat] at this
    cases h2 : a.testBit i <;> cases h3 : b.testBit i <;> simp [h2, h3] at this ⊢
  · rw [Nat.testBit_lt_two_pow (Nat.lt_of_lt_of_le ha (Nat.pow_le_pow_right (by omega) (by omega))), Nat.testBit_lt_two_pow (Nat.lt_of_lt_of_le hb (Nat.pow_le_pow_right (by omega) (by omega)))]
theorem place_range {n L R B pl : Int} (h : okF n L R B = true) (hp : 0 ≤ pl ∧ pl ≤ 1) : 0 ≤ place n R B pl ∧ place n R B pl < 2 * pow3 n.toNat := by
  have := plc3_range (okF_apart h) n.toNat
  unfold place
  omega
theorem place_inj {n L R B pl R' B' pl' : Int} (h : okF n L R B = true) (hp : 0 ≤ pl ∧ pl ≤ 1) (h' : okF n L R' B' = true) (hp' : 0 ≤ pl' ∧ pl' ≤ 1) (e : place n R B pl = place n R' B' pl') : R = R' ∧ B = B' ∧ pl = pl' := by
  unfold place at e
  have e1 : plc3 R B n.toNat = plc3 R' B' n.toNat ∧ pl = pl' := by omega
  obtain ⟨_, _, r, b, _⟩ := okF_parts h
  obtain ⟨_, _, r', b', _⟩ := okF_parts h'
  have k := plc3_inj (okF_apart h) (okF_apart h') _ e1.1
  exact ⟨eq_of_dg r.1 r.2 r'.1 r'.2 (fun i hi => (k i hi).1), eq_of_dg b.1 b.2 b'.1 b'.2 (fun i hi => (k i hi).2), e1.2⟩

/-! ### all turns -/
def allTurns : List (Int × Int × Int) := (List.range 256).flatMap fun r : Nat => (List.range 256).flatMap fun b : Nat => [((r : Int), (b : Int), (0 : Int)), ((r : Int), (b : Int), (1 : Int))]
theorem flatMap_le {α β : Type} {f : α → List β} {c : Nat} : ∀ (l : List α), (∀ a ∈ l, (f a).length ≤ c) → (l.flatMap f).length ≤ l.length * c
  | [], _ => by simp
  | a :: r, h => by
    have ih := flatMap_le r (fun x hx => h x (by simp [hx]))
    have := h a (by simp)
    rw [List.flatMap_cons, List.length_append, List.length_cons, Nat.add_mul, Nat.one_mul]
    omega
theorem allTurns_len : allTurns.length ≤ 131072 := by
  have h1 : allTurns.length ≤ (List.range 256).length * 512 := flatMap_le _ (fun r _ => by
    have h2 := flatMap_le (c := 2) (f := fun b : Nat => [((r : Int), (b : Int), (0 : Int)), ((r : Int), (b : Int), (1 : Int))]) (List.range 256) (fun b _ => by simp)
    simpa using h2)
  simpa using h1
theorem mem_allTurns {r b pl : Int} (hr : 0 ≤ r ∧ r < 256) (hb : 0 ≤ b ∧ b < 256) (hp : 0 ≤ pl ∧ pl ≤ 1) : (r, b, pl) ∈ allTurns := by
  obtain ⟨x, rfl⟩ := Int.eq_ofNat_of_zero_le hr.1
  obtain ⟨y, rfl⟩ := Int.eq_ofNat_of_zero_le hb.1
  simp only [allTurns, List.mem_flatMap, List.mem_range]
  refine ⟨x, by omega, y, by omega, ?_⟩
  rcases (by omega : pl = 0 ∨ pl = 1) with rfl | rfl <;> simp
theorem nodup_le {α : Type} : ∀ (l m : List α), l.Pairwise (fun p q => p ≠ q) → (∀ x ∈ l, x ∈ m) → l.length ≤ m.length
  | [], m, _, _ => Nat.zero_le _
  | x :: r, m, hn, hs => by
    haveI : DecidableEq α := fun a b => Classical.propDecidable (a = b)
    obtain ⟨h1, h2⟩ := List.pairwise_cons.1 hn
    have hx := hs x (by simp)
    have h3 := nodup_le r (m.erase x) h2 (fun y hy => (List.mem_erase_of_ne (fun e => h1 y hy e.symm)).2 (hs y (by simp [hy])))
    rw [List.length_erase_of_mem hx] at h3
    have := List.length_pos_of_mem hx
    simp only [List.length_cons]
    omega
/-- The numbers of moves are small. -/
theorem foldl_le {f : Int → Int → Int} {lo hi : Int} (hf : ∀ a b, f a b = a ∨ f a b = b) : ∀ (l : List Int) (a : Int), (lo ≤ a ∧ a ≤ hi) → (∀ x ∈ l, lo ≤ x ∧ x ≤ hi) → lo ≤ l.foldl f a ∧ l.foldl f a ≤ hi
  | [], a, ha, _ => ha
  | x :: r, a, ha, h => by
    refine foldl_le hf r (f a x) ?_ (fun y hy => h y (by simp [hy]))
    rcases hf a x with e | e <;> rw [e]
    · exact ha
    · exact h x (by simp)
/-- A pick of a list, one more. -/
def UpOk (up : List Int → Int) : Prop := up [] = 0 ∧ ∀ (l : List Int) (hi : Int), l ≠ [] → (∀ x ∈ l, 0 ≤ x ∧ x ≤ hi) → 1 ≤ up l ∧ up l ≤ hi + 1
theorem upMin_ok : UpOk upMin := ⟨rfl, fun l hi hne h => by
  cases l with
  | nil => exact absurd rfl hne
  | cons a r =>
    have := foldl_le (f := fun m x : Int => if x < m then x else m) (lo := 0) (hi := hi) (fun a b => by by_cases e : b < a <;> simp [e]) r a (h a (by simp)) (fun x hx => h x (by simp [hx]))
    simp only [upMin]
    omega⟩
theorem upMax_ok : UpOk upMax := ⟨rfl, fun l hi hne h => by
  cases l with
  | nil => exact absurd rfl hne
  | cons a r =>
    have := foldl_le (f := fun m x : Int => if m < x then x else m) (lo := 0) (hi := hi) (fun a b => by by_cases e : a < b <;> simp [e]) r a (h a (by simp)) (fun x hx => h x (by simp [hx]))
    simp only [upMax]
    omega⟩
theorem left_range {up : List Int → Int} (hu : UpOk up) {n L game : Int} : ∀ (k : Nat) {R B pl : Int}, okF n L R B = true → freeN n R B = k → 0 ≤ left up n L R B game pl ∧ left up n L R B game pl ≤ k
  | 0, R, B, pl, hok, hk => by
    rw [left_step up hok, pts_zero hk]
    simp [hu.1]
  | k + 1, R, B, pl, hok, hk => by
    rw [left_step up hok]
    by_cases hn : pts n L R B game pl = []
    · rw [hn]; simp [hu.1]; omega
    · have := hu.2 ((pts n L R B game pl).map fun i => left up n L (mvR R pl i) (mvB B pl i) game (1 - pl)) (k : Int) (by simpa using hn) (fun x hx => by
        obtain ⟨i, hi, rfl⟩ := List.mem_map.1 hx
        obtain ⟨h1, _, h3⟩ := move_of_pts hok hi
        exact left_range hu k h1 (by omega))
      omega
theorem left_8 {up : List Int → Int} (hu : UpOk up) {n L R B game pl : Int} (hok : okF n L R B = true) : 0 ≤ left up n L R B game pl ∧ left up n L R B game pl ≤ 8 := by
  have h1 := left_range hu (game := game) (pl := pl) _ hok rfl
  have h2 := freeN_le n R B
  obtain ⟨h3, h4, _⟩ := okF_nums hok
  omega
end Go.Proofs.Ytdimmlpnfghndaa
