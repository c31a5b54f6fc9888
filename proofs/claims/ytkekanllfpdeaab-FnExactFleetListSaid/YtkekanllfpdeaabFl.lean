/-
  Seas, plain: fleets; in which order both texts list them. No walk stands here.
-/
import Derived.Test.YtkekanllfpdeaabPc
namespace Go.Proofs.Ytkekanllfpdeaab
open Go.RowKit
set_option linter.unusedVariables false

/-- The cells that ships have. -/
def setL (f : List Int) : Int := f.foldl orI 0
theorem setL_snoc (f : List Int) (z : Int) : setL (f ++ [z]) = orI (setL f) z := by unfold setL; rw [List.foldl_append]; rfl
theorem orI_zero {x : Int} (h : 0 ≤ x) : orI x 0 = x := by
  obtain ⟨a, rfl⟩ := Int.eq_ofNat_of_zero_le h
  unfold orI
  simp
theorem orI_nonneg (x y : Int) : 0 ≤ orI x y := by unfold orI; omega
theorem foldl_orI_range {f : List Int} {a : Int} (h0 : 0 ≤ a) (h1 : a < 33554432) (h : ∀ z ∈ f, 0 ≤ z ∧ z < 33554432) : 0 ≤ f.foldl orI a ∧ f.foldl orI a < 33554432 := by
  induction f generalizing a with
  | nil => exact ⟨h0, h1⟩
  | cons x xs ih =>
    have hx := h x (List.mem_cons_self ..)
    have := orI_range (n := 25) h0 (by simpa using h1) hx.1 (by simpa using hx.2)
    exact ih this.1 (by simpa using this.2) (fun z hz => h z (List.mem_cons_of_mem _ hz))
theorem setL_range {f : List Int} (h : ∀ z ∈ f, 0 ≤ z ∧ z < 33554432) : 0 ≤ setL f ∧ setL f < 33554432 := foldl_orI_range (by decide) (by decide) h
theorem foldl_orI_zeros {f : List Int} {a : Int} (h0 : 0 ≤ a) (h : ∀ z ∈ f, z = 0) : f.foldl orI a = a := by
  induction f generalizing a with
  | nil => rfl
  | cons x xs ih =>
    obtain rfl := h x (List.mem_cons_self ..)
    show xs.foldl orI (orI a 0) = a
    rw [orI_zero h0]
    exact ih h0 (fun z hz => h z (List.mem_cons_of_mem _ hz))

section
variable (W H : Int) (ss : List Int)
def plAt (i : Nat) : List Int := plc W H (ss.getD i 0).toNat
/-- May a placement stand behind these ships? -/
def okNext (f : List Int) (z : Int) : Bool := decide (andI z (setL f) = 0) && !(decide (0 < f.length) && (decide (ss.getD f.length 0 = ss.getD (f.length - 1) 0) && decide (z < f.getD (f.length - 1) 0)))
def extF (f : List Int) : List (List Int) := ((plAt W H ss f.length).filter (okNext ss f)).map (fun z => f ++ [z])
/-- All fleets that go on with these ships, r ships more. -/
def allF : Nat → List Int → List (List Int)
  | 0, f => [f]
  | r + 1, f => (extF W H ss f).flatMap (allF r)
/-- Level by level. -/
def levF : Nat → List (List Int) → List (List Int)
  | 0, L => L
  | r + 1, L => levF r (L.flatMap (extF W H ss))
theorem levF_all (r : Nat) (L : List (List Int)) : levF W H ss r L = L.flatMap (allF W H ss r) := by
  induction r generalizing L with
  | zero => simp [levF, allF]
  | succ r ih => rw [levF, ih, List.flatMap_assoc]; rfl
def stepB (f : List Int) (i : Nat) : Bool := (plAt W H ss i).contains (f.getD i 0) && okNext ss (f.take i) (f.getD i 0)
def fleetB (f : List Int) : Bool := decide (f.length = ss.length) && (List.range f.length).all (stepB W H ss f)

theorem mem_extF {f g : List Int} : g ∈ extF W H ss f ↔ ∃ z, g = f ++ [z] ∧ z ∈ plAt W H ss f.length ∧ okNext ss f z = true := by
  unfold extF
  simp only [List.mem_map, List.mem_filter]
  constructor
  · rintro ⟨z, ⟨h1, h2⟩, rfl⟩; exact ⟨z, rfl, h1, h2⟩
  · rintro ⟨z, rfl, h1, h2⟩; exact ⟨z, ⟨h1, h2⟩, rfl⟩
theorem mem_allF {r : Nat} {g f : List Int} : f ∈ allF W H ss r g ↔ f.length = g.length + r ∧ f.take g.length = g ∧ ∀ i, g.length ≤ i → i < f.length → stepB W H ss f i = true := by
  induction r generalizing g with
  | zero =>
    simp only [allF, List.mem_singleton]
    constructor
    · rintro rfl
      exact ⟨rfl, List.take_length, fun i h1 h2 => absurd h2 (by omega)⟩
    · rintro ⟨h1, h2, _⟩
      rw [← h2, List.take_of_length_le (by omega)]
  | succ r ih =>
    simp only [allF, List.mem_flatMap, mem_extF]
    constructor
    · rintro ⟨g', ⟨z, rfl, hz, ho⟩, hf⟩
      obtain ⟨h1, h2, h3⟩ := ih.1 hf
      rw [List.length_append] at h1 h2 h3
      have hg : f.take g.length = g := by
        have h4 := congrArg (List.take g.length) h2
        rw [List.take_take, Nat.min_eq_left (by omega), List.take_left] at h4
        exact h4
      refine ⟨by simp at h1; omega, hg, fun i hi hl => ?_⟩
      by_cases he : i = g.length
      · subst he
        have hgz : f.getD g.length 0 = z := by
          have h4 : (f.take (g.length + [z].length))[g.length]? = (g ++ [z])[g.length]? := by rw [h2]
          rw [List.getElem?_take_of_lt (by simp), List.getElem?_append_right (Nat.le_refl _)] at h4
          rw [List.getD_eq_getElem?_getD, h4]
          simp
        unfold stepB
        rw [hgz, hg, ho, Bool.and_true]
        exact List.contains_iff_mem.2 hz
      · exact h3 i (by simp; omega) hl
    · rintro ⟨h1, h2, h3⟩
      have hlt : g.length < f.length := by omega
      have hs := h3 g.length (Nat.le_refl _) hlt
      unfold stepB at hs
      rw [h2, Bool.and_eq_true] at hs
      refine ⟨g ++ [f.getD g.length 0], ⟨_, rfl, List.contains_iff_mem.1 hs.1, hs.2⟩, ih.2 ⟨by simp; omega, ?_, fun i hi hl => h3 i (by simp at hi; omega) hl⟩⟩
      rw [List.length_append, List.length_singleton, List.take_add_one, h2, List.getD_eq_getElem?_getD, List.getElem?_eq_getElem hlt]
      rfl
theorem fleetB_iff {f : List Int} : fleetB W H ss f = true ↔ f ∈ allF W H ss ss.length [] := by
  rw [mem_allF]
  simp only [fleetB, Bool.and_eq_true, decide_eq_true_eq, List.all_eq_true, List.mem_range, List.length_nil, List.take_zero]
  constructor
  · rintro ⟨h1, h2⟩; exact ⟨by omega, trivial, fun i _ hi => h2 i hi⟩
  · rintro ⟨h1, _, h2⟩; exact ⟨by omega, fun i hi => h2 i (Nat.zero_le _) hi⟩
theorem okNext_nil (z : Int) : okNext ss [] z = true := by
  have : andI z 0 = 0 := by unfold andI; simp
  simp [okNext, setL, this]
theorem extF_nil : extF W H ss [] = (plAt W H ss 0).map (fun z => [z]) := by
  unfold extF
  rw [List.filter_eq_self.2 (fun z _ => okNext_nil ss z)]
  rfl
/-- The program's list: for each placement of the first ship, level by level. -/
theorem all_fleets {r : Nat} (h : ss.length = r + 1) : (plAt W H ss 0).flatMap (fun z => levF W H ss r [[z]]) = allF W H ss ss.length [] := by
  rw [h]
  show _ = (extF W H ss []).flatMap (allF W H ss r)
  rw [extF_nil, List.flatMap_map]
  congr 1
  funext z
  rw [levF_all]
  simp
/-- What the program asks of a list. -/
theorem fleet_prog {r : Nat} {f : List Int} (h : ss.length = r + 1) (hl : f.length = ss.length) : fleetB W H ss f = ((plAt W H ss 0).contains (f.getD 0 0) && (levF W H ss r [[f.getD 0 0]]).contains f) := by
  rw [Bool.eq_iff_iff, fleetB_iff, ← all_fleets W H ss h, Bool.and_eq_true, List.contains_iff_mem, List.contains_iff_mem, List.mem_flatMap]
  constructor
  · rintro ⟨z, hz, hf⟩
    have h2 := hf
    rw [levF_all, List.flatMap_cons, List.flatMap_nil, List.append_nil, mem_allF] at h2
    have : f.getD 0 0 = z := by
      have h4 := h2.2.1
      match f, h4 with
      | [], h4 => simp at h4
      | x :: xs, h4 => simp at h4; simpa using h4
    rw [this]
    exact ⟨hz, hf⟩
  · rintro ⟨h1, h2⟩; exact ⟨_, h1, h2⟩

/-- The numbers of a fleet are sets of cells. -/
theorem mem_levF_length {r : Nat} {z : Int} {f : List Int} (h : f ∈ levF W H ss r [[z]]) : f.length = r + 1 := by
  rw [levF_all, List.flatMap_cons, List.flatMap_nil, List.append_nil, mem_allF] at h
  have := h.1
  simp at this; omega
end
end Go.Proofs.Ytkekanllfpdeaab
