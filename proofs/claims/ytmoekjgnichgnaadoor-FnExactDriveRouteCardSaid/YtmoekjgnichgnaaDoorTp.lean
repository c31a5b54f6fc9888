/-
  Tracks, plain: what a track is; squares; crossed squares; moves.
-/
import Derived.Test.YtmoekjgnichgnaaDoorTl
namespace Go.Proofs.YtmoekjgnichgnaaDoor
open Go.RowKit
set_option linter.unusedVariables false

/-! ### what a track is -/
def bts (ss : List ByteArray) : List UInt8 := ss.flatMap (·.data.toList)
def sqOk (b : UInt8) : Bool := b == 46 || b == 35 || b == 83 || b == 71
def rowOk (n : Nat) (s : ByteArray) : Bool := decide (s.size = n) && decide (1 ≤ s.size) && decide (s.size ≤ 16)
def wid (ss : List ByteArray) : Nat := (ss.getD 0 ByteArray.empty).size
def shp (ss : List ByteArray) : Bool := decide (1 ≤ ss.length) && decide (ss.length ≤ 16) && ss.all (rowOk (wid ss))
def trk (ss : List ByteArray) : Bool := shp ss && ((bts ss).all sqOk && (decide ((bts ss).count 83 = 1) && decide (1 ≤ (bts ss).count 71)))
theorem rowOk_iff {n : Nat} {s : ByteArray} : rowOk n s = true ↔ s.size = n ∧ 1 ≤ s.size ∧ s.size ≤ 16 := by
  simp [rowOk, and_assoc]
theorem shp_parts {ss : List ByteArray} (h : shp ss = true) : 1 ≤ ss.length ∧ ss.length ≤ 16 ∧ (1 ≤ wid ss ∧ wid ss ≤ 16) ∧ ∀ s ∈ ss, s.size = wid ss := by
  unfold shp at h
  simp only [Bool.and_eq_true, decide_eq_true_eq, List.all_eq_true] at h
  obtain ⟨⟨h1, h2⟩, h3⟩ := h
  have h0 : ss.getD 0 ByteArray.empty ∈ ss := by
    rw [List.getD_eq_getElem?_getD, List.getElem?_eq_getElem (by omega)]
    exact List.getElem_mem _
  have h4 := rowOk_iff.1 (h3 _ h0)
  exact ⟨h1, h2, ⟨h4.2.1, h4.2.2⟩, fun s hs => (rowOk_iff.1 (h3 s hs)).1⟩
theorem shp_row {ss : List ByteArray} (h : shp ss = true) {k : Nat} {s : ByteArray} (hk : ss[k]? = some s) : s.size = wid ss ∧ 1 ≤ s.size ∧ s.size ≤ 16 := by
  obtain ⟨_, _, h3, h4⟩ := shp_parts h
  have := h4 s (List.mem_of_getElem? hk)
  omega
theorem shp_bad {ss : List ByteArray} {k : Nat} {s : ByteArray} (hk : ss[k]? = some s) (h : rowOk (wid ss) s = false) : shp ss = false := by
  unfold shp
  have h1 : ss.all (rowOk (wid ss)) = false := by
    rw [List.all_eq_false]
    exact ⟨s, List.mem_of_getElem? hk, by rw [h]; simp⟩
  rw [h1, Bool.and_false]
theorem shp_len {ss : List ByteArray} (h : ¬ (1 ≤ ss.length ∧ ss.length ≤ 16)) : shp ss = false := by
  unfold shp
  by_cases h1 : 1 ≤ ss.length
  · have : ¬ ss.length ≤ 16 := fun h2 => h ⟨h1, h2⟩
    simp [this]
  · simp [h1]
theorem shp_all {ss : List ByteArray} (h1 : 1 ≤ ss.length) (h2 : ss.length ≤ 16) (h : ∀ s ∈ ss, rowOk (wid ss) s = true) : shp ss = true := by
  unfold shp
  simp only [Bool.and_eq_true, decide_eq_true_eq, List.all_eq_true]
  exact ⟨⟨h1, h2⟩, h⟩
theorem trk_shp {ss : List ByteArray} (h : trk ss = true) : shp ss = true := by
  unfold trk at h
  rw [Bool.and_eq_true] at h
  exact h.1
theorem trk_no {ss : List ByteArray} (h : shp ss = false) : trk ss = false := by
  unfold trk
  rw [h, Bool.false_and]
theorem trk_parts {ss : List ByteArray} (h : trk ss = true) : (bts ss).all sqOk = true ∧ (bts ss).count 83 = 1 ∧ 1 ≤ (bts ss).count 71 := by
  unfold trk at h
  simp only [Bool.and_eq_true, decide_eq_true_eq] at h
  exact h.2
theorem trk_of {ss : List ByteArray} (h : shp ss = true) : trk ss = ((bts ss).all sqOk && (decide ((bts ss).count 83 = 1) && decide (1 ≤ (bts ss).count 71))) := by
  unfold trk
  rw [h, Bool.true_and]
theorem bts_take {ss : List ByteArray} {k : Nat} {s : ByteArray} (hk : ss[k]? = some s) : bts (ss.take (k + 1)) = bts (ss.take k) ++ s.data.toList := by
  unfold bts
  rw [List.take_add_one, hk, List.flatMap_append]
  simp
theorem bts_len {ss : List ByteArray} {n : Nat} (h : ∀ s ∈ ss, s.size ≤ n) : (bts ss).length ≤ ss.length * n := by
  induction ss with
  | nil => simp [bts]
  | cons x r ih =>
    have h1 := ih (fun s hs => h s (List.mem_cons_of_mem _ hs))
    have h2 := h x List.mem_cons_self
    have h3 : x.data.toList.length = x.size := rfl
    simp only [bts, List.flatMap_cons, List.length_append, List.length_cons, Nat.add_mul, Nat.one_mul] at h1 ⊢
    omega
theorem bts_mem {ss : List ByteArray} {k : Nat} {s : ByteArray} (hk : ss[k]? = some s) {b : UInt8} (hb : b ∈ s.data.toList) : b ∈ bts ss := List.mem_flatMap.2 ⟨s, List.mem_of_getElem? hk, hb⟩

/-! ### squares -/
def byte (s : ByteArray) (x : Int) : UInt8 := s.data.toList.getD x.toNat 0
def at8 (ss : List ByteArray) (x y : Int) : UInt8 := byte (ss.getD y.toNat ByteArray.empty) x
def inI (n lo hi : Int) : Bool := decide (lo ≤ n) && decide (n ≤ hi)
def onB (ss : List ByteArray) (x y : Int) : Bool := inI y 0 ((ss.length : Int) - 1) && inI x 0 ((wid ss : Int) - 1)
def freeB (ss : List ByteArray) (x y : Int) : Bool := onB ss x y && (at8 ss x y != 35)

/-! ### moves -/
def spd (u v : Int) : Int := max u (max (-u) (max v (-v)))
/-- The k-th square under way, reckoned from the car. -/
def stp (k u m : Int) : Int := (2 * (k * u) + m) / (2 * m)
def crs (x y u v : Int) : List (Int × Int) := (List.range (spd u v - 1).toNat).map fun (j : Nat) => (x + stp ((j : Int) + 1) u (spd u v), y + stp ((j : Int) + 1) v (spd u v))
def okSpeed (u : Int) : Bool := inI u (-5) 5
structure Cr where
  x : Int
  y : Int
  u : Int
  v : Int
deriving DecidableEq
def Cr.zero : Cr := ⟨0, 0, 0, 0⟩
def Cr.nu (c : Cr) (mv : Int) : Int := c.u + mv / 3 - 1
def Cr.nv (c : Cr) (mv : Int) : Int := c.v + mv % 3 - 1
def Cr.go (c : Cr) (mv : Int) : Cr := ⟨c.x + c.nu mv, c.y + c.nv mv, c.nu mv, c.nv mv⟩
def okCr (ss : List ByteArray) (c : Cr) : Bool := freeB ss c.x c.y && (okSpeed c.u && okSpeed c.v)
def opn (ss : List ByteArray) (c : Cr) (mv : Int) : Bool := okCr ss (c.go mv) && (crs c.x c.y (c.nu mv) (c.nv mv)).all fun p => freeB ss p.1 p.2
def opens (ss : List ByteArray) (c : Cr) : List Int := ((List.range 9).map fun (k : Nat) => (k : Int)).filter fun mv => opn ss c mv
/-- The first start: its row, and its place in it. -/
def sRow (ss : List ByteArray) : Nat := ss.findIdx (fun s => s.data.toList.contains 83)
def sCol (ss : List ByteArray) : Nat := (ss.getD (sRow ss) ByteArray.empty).data.toList.findIdx (fun b => b == 83)
def fstC (ss : List ByteArray) : Cr := ⟨sCol ss, sRow ss, 0, 0⟩
end Go.Proofs.YtmoekjgnichgnaaDoor
