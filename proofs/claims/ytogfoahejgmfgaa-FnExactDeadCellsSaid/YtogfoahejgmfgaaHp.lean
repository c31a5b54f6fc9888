/-
  Boards of hexagons: plain functions on numbers and lists. No walk stands here.
-/
import Derived.Test.YtogfoahejgmfgaaCo
namespace Go.Proofs.Ytogfoahejgmfgaa
open Go.RowKit
set_option linter.unusedVariables false

/-! ### those of the first k numbers -/
def pre (p : Int → Bool) (k : Nat) : List Int := ((List.range k).filter (fun i : Nat => p (i : Int))).map (fun i : Nat => (i : Int))
theorem pre_yes {p : Int → Bool} {k : Nat} (h : p (k : Int) = true) : pre p (k + 1) = pre p k ++ [(k : Int)] := by simp [pre, List.range_succ, h]
theorem pre_no {p : Int → Bool} {k : Nat} (h : p (k : Int) = false) : pre p (k + 1) = pre p k := by simp [pre, List.range_succ, h]
theorem pre_zero (p : Int → Bool) : pre p 0 = [] := rfl
theorem pre_le (p : Int → Bool) (k : Nat) : (pre p k).length ≤ k := by
  unfold pre
  rw [List.length_map]
  exact Nat.le_trans (List.length_filter_le _ _) (by simp)
theorem pre_mem {p : Int → Bool} {k : Nat} {z : Int} (h : z ∈ pre p k) : 0 ≤ z ∧ z < k ∧ p z = true := by
  simp only [pre, List.mem_map, List.mem_filter, List.mem_range] at h
  obtain ⟨i, ⟨h1, h2⟩, rfl⟩ := h
  exact ⟨by omega, by omega, h2⟩
theorem pre_congr {p q : Int → Bool} {k : Nat} (h : ∀ i : Nat, i < k → p (i : Int) = q (i : Int)) : pre p k = pre q k := by
  unfold pre
  congr 1
  exact List.filter_congr fun i hi => h i (List.mem_range.1 hi)

/-! ### boards -/
def okH (n : Int) (cs : List Int) : Bool := decide (1 ≤ n) && decide (n ≤ 8) && decide ((cs.length : Int) = n * n) && cs.all fun z => decide (0 ≤ z) && decide (z ≤ 2)
theorem okH_yes {n : Int} {cs : List Int} (h : okH n cs = true) : 1 ≤ n ∧ n ≤ 8 ∧ (cs.length : Int) = n * n ∧ ∀ z ∈ cs, 0 ≤ z ∧ z ≤ 2 := by
  simp only [okH, Bool.and_eq_true, decide_eq_true_eq, List.all_eq_true] at h
  exact ⟨h.1.1.1, h.1.1.2, h.1.2, h.2⟩
theorem okH_mk {n : Int} {cs : List Int} (h1 : 1 ≤ n) (h2 : n ≤ 8) (h3 : (cs.length : Int) = n * n) (h4 : ∀ z ∈ cs, 0 ≤ z ∧ z ≤ 2) : okH n cs = true := by
  simp only [okH, Bool.and_eq_true, decide_eq_true_eq, List.all_eq_true]
  exact ⟨⟨⟨h1, h2⟩, h3⟩, h4⟩
theorem sq_nums {n : Int} (h1 : 1 ≤ n) (h2 : n ≤ 8) : 1 ≤ n * n ∧ n * n ≤ 64 ∧ n ≤ n * n := by
  have : n = 1 ∨ n = 2 ∨ n = 3 ∨ n = 4 ∨ n = 5 ∨ n = 6 ∨ n = 7 ∨ n = 8 := by omega
  rcases this with rfl | rfl | rfl | rfl | rfl | rfl | rfl | rfl <;> omega
theorem okH_len {n : Int} {cs : List Int} (h : okH n cs = true) : 1 ≤ cs.length ∧ cs.length ≤ 64 := by
  obtain ⟨h1, h2, h3, _⟩ := okH_yes h
  have := sq_nums h1 h2
  omega
def hexAt (cs : List Int) (c : Int) : Int := cs.getD c.toNat 0
theorem hexAt_get {cs : List Int} {k : Nat} {z : Int} (h : cs[k]? = some z) : hexAt cs (k : Int) = z := by simp [hexAt, h]
theorem hexAt_mem {cs : List Int} {c : Int} (h : c.toNat < cs.length) : hexAt cs c ∈ cs := by
  unfold hexAt
  rw [List.getD_eq_getElem?_getD, List.getElem?_eq_getElem h]
  exact List.getElem_mem h

/-- The cells of a player (or the empty ones). -/
def cellsP (cs : List Int) (p : Int) : List Int := pre (fun c => hexAt cs c == p) cs.length
theorem cellsP_len (cs : List Int) (p : Int) : (cellsP cs p).length ≤ cs.length := pre_le _ _
def cntP (cs : List Int) (p : Int) : Int := ((cellsP cs p).length : Int)

/-! ### neighbours -/
def stepH : List (Int × Int) := [(-1, 0), (-1, 1), (0, -1), (0, 1), (1, -1), (1, 0)]
def onH (n y x : Int) : Bool := decide (0 ≤ y) && decide (0 ≤ x) && (decide (y < n) && decide (x < n))
theorem onH_yes {n y x : Int} (h : onH n y x = true) : 0 ≤ y ∧ 0 ≤ x ∧ y < n ∧ x < n := by
  simp only [onH, Bool.and_eq_true, decide_eq_true_eq] at h
  exact ⟨h.1.1, h.1.2, h.2.1, h.2.2⟩
theorem onH_mk {n y x : Int} (h1 : 0 ≤ y) (h2 : 0 ≤ x) (h3 : y < n) (h4 : x < n) : onH n y x = true := by simp [onH, h1, h2, h3, h4]
theorem onH_no {n y x : Int} (h : onH n y x = false) : ¬ (0 ≤ y ∧ 0 ≤ x ∧ y < n ∧ x < n) := by
  rintro ⟨h1, h2, h3, h4⟩
  rw [onH_mk h1 h2 h3 h4] at h
  cases h
def nearTo (n r c : Int) (k : Nat) : List Int := ((stepH.take k).filter fun s => onH n (r + s.1) (c + s.2)).map fun s => n * (r + s.1) + (c + s.2)
theorem take_more {α : Type} {l : List α} {k : Nat} {x : α} (h : l[k]? = some x) : l.take (k + 1) = l.take k ++ [x] := by rw [List.take_add_one, h]; rfl
theorem nearTo_zero (n r c : Int) : nearTo n r c 0 = [] := rfl
theorem nearTo_yes {n r c : Int} {k : Nat} {s : Int × Int} (hs : stepH[k]? = some s) (h : onH n (r + s.1) (c + s.2) = true) : nearTo n r c (k + 1) = nearTo n r c k ++ [n * (r + s.1) + (c + s.2)] := by
  simp [nearTo, take_more hs, h]
theorem nearTo_no {n r c : Int} {k : Nat} {s : Int × Int} (hs : stepH[k]? = some s) (h : onH n (r + s.1) (c + s.2) = false) : nearTo n r c (k + 1) = nearTo n r c k := by
  simp [nearTo, take_more hs, h]
theorem nearTo_len (n r c : Int) (k : Nat) : (nearTo n r c k).length ≤ k := by
  unfold nearTo
  rw [List.length_map]
  exact Nat.le_trans (List.length_filter_le _ _) (by simp; omega)
def near (n a : Int) : List Int := nearTo n (a / n) (a % n) 6
theorem near_len (n a : Int) : (near n a).length ≤ 6 := nearTo_len _ _ _ _
theorem div_row {n y x : Int} (h0 : 0 ≤ x) (h1 : x < n) : (n * y + x) / n = y := by
  rw [Int.add_comm, Int.add_mul_ediv_left _ _ (by omega), Int.ediv_eq_zero_of_lt h0 h1]
  omega
theorem mod_row {n y x : Int} (h0 : 0 ≤ x) (h1 : x < n) : (n * y + x) % n = x := by
  rw [Int.add_comm, Int.add_mul_emod_self_left, Int.emod_eq_of_lt h0 h1]
theorem row_lt {n y x : Int} (h0 : 0 ≤ y) (h1 : y < n) (h2 : 0 ≤ x) (h3 : x < n) : 0 ≤ n * y + x ∧ n * y + x < n * n := by
  have h4 : 0 ≤ n * y := Int.mul_nonneg (by omega) h0
  have h5 : n * y ≤ n * (n - 1) := Int.mul_le_mul_of_nonneg_left (by omega) (by omega)
  rw [Int.mul_sub] at h5
  omega
theorem cell_rc {n a : Int} (hn : 1 ≤ n) (h0 : 0 ≤ a) (h1 : a < n * n) : 0 ≤ a / n ∧ a / n < n ∧ 0 ≤ a % n ∧ a % n < n ∧ n * (a / n) + a % n = a :=
  ⟨Int.ediv_nonneg h0 (by omega), Int.ediv_lt_of_lt_mul (by omega) h1, Int.emod_nonneg _ (by omega), Int.emod_lt_of_pos _ (by omega), Int.mul_ediv_add_emod a n⟩
theorem mem_near {n a b : Int} (hn : 1 ≤ n) (h0 : 0 ≤ a) (h1 : a < n * n) : b ∈ near n a ↔ 0 ≤ b ∧ b < n * n ∧ (b / n - a / n, b % n - a % n) ∈ stepH := by
  have hs : stepH.take 6 = stepH := rfl
  simp only [near, nearTo, hs, List.mem_map, List.mem_filter]
  constructor
  · rintro ⟨s, ⟨hs, ho⟩, rfl⟩
    obtain ⟨o1, o2, o3, o4⟩ := onH_yes ho
    obtain ⟨r1, r2⟩ := row_lt o1 o3 o2 o4
    refine ⟨r1, r2, ?_⟩
    rw [div_row o2 o4, mod_row o2 o4]
    have e1 : a / n + s.1 - a / n = s.1 := by omega
    have e2 : a % n + s.2 - a % n = s.2 := by omega
    rw [e1, e2]
    exact hs
  · rintro ⟨hb0, hb1, hm⟩
    obtain ⟨k1, k2, k3, k4, k5⟩ := cell_rc hn hb0 hb1
    have e1 : a / n + (b / n - a / n) = b / n := by omega
    have e2 : a % n + (b % n - a % n) = b % n := by omega
    exact ⟨_, ⟨hm, by rw [e1, e2]; exact onH_mk k1 k3 k2 k4⟩, by rw [e1, e2]; exact k5⟩
theorem stepH_neg : ∀ s ∈ stepH, (-s.1, -s.2) ∈ stepH := by decide
theorem stepH_swap : ∀ s ∈ stepH, (s.2, s.1) ∈ stepH := by decide
theorem near_in {n a b : Int} (hn : 1 ≤ n) (h0 : 0 ≤ a) (h1 : a < n * n) (h : b ∈ near n a) : 0 ≤ b ∧ b < n * n := by
  have := (mem_near hn h0 h1).1 h
  exact ⟨this.1, this.2.1⟩
theorem near_sym {n a b : Int} (hn : 1 ≤ n) (h0 : 0 ≤ a) (h1 : a < n * n) (h : b ∈ near n a) : a ∈ near n b := by
  obtain ⟨b0, b1, hm⟩ := (mem_near hn h0 h1).1 h
  refine (mem_near hn b0 b1).2 ⟨h0, h1, ?_⟩
  have := stepH_neg _ hm
  have e1 : -(b / n - a / n) = a / n - b / n := by omega
  have e2 : -(b % n - a % n) = a % n - b % n := by omega
  simp only [e1, e2] at this
  exact this

/-! ### mirrored boards -/
def trH (n a : Int) : Int := n * (a % n) + a / n
def swP (o : Int) : Int := if o = 0 then 0 else 3 - o
def mirH (n : Int) (cs : List Int) : List Int := (List.range cs.length).map fun i : Nat => swP (hexAt cs (trH n (i : Int)))
theorem mirH_len (n : Int) (cs : List Int) : (mirH n cs).length = cs.length := by simp [mirH]
theorem mirH_get {n : Int} {cs : List Int} {k : Nat} (h : k < cs.length) : (mirH n cs)[k]? = some (swP (hexAt cs (trH n (k : Int)))) := by simp [mirH, h]
theorem mirH_at {n : Int} {cs : List Int} {a : Int} (h0 : 0 ≤ a) (h : a < cs.length) : hexAt (mirH n cs) a = swP (hexAt cs (trH n a)) := by
  obtain ⟨k, rfl⟩ := Int.eq_ofNat_of_zero_le h0
  exact hexAt_get (mirH_get (by omega))
theorem trH_in {n a : Int} (hn : 1 ≤ n) (h0 : 0 ≤ a) (h1 : a < n * n) : 0 ≤ trH n a ∧ trH n a < n * n := by
  obtain ⟨k1, k2, k3, k4, _⟩ := cell_rc hn h0 h1
  exact row_lt k3 k4 k1 k2
theorem trH_div {n a : Int} (hn : 1 ≤ n) (h0 : 0 ≤ a) (h1 : a < n * n) : trH n a / n = a % n ∧ trH n a % n = a / n := by
  obtain ⟨k1, k2, k3, k4, _⟩ := cell_rc hn h0 h1
  exact ⟨div_row k1 k2, mod_row k1 k2⟩
theorem trH_trH {n a : Int} (hn : 1 ≤ n) (h0 : 0 ≤ a) (h1 : a < n * n) : trH n (trH n a) = a := by
  obtain ⟨e1, e2⟩ := trH_div hn h0 h1
  obtain ⟨_, _, _, _, k5⟩ := cell_rc hn h0 h1
  unfold trH at e1 e2 ⊢
  rw [e1, e2]
  exact k5
theorem near_tr {n a b : Int} (hn : 1 ≤ n) (h0 : 0 ≤ a) (h1 : a < n * n) (h : b ∈ near n a) : trH n b ∈ near n (trH n a) := by
  obtain ⟨b0, b1, hm⟩ := (mem_near hn h0 h1).1 h
  obtain ⟨t0, t1⟩ := trH_in hn h0 h1
  obtain ⟨u0, u1⟩ := trH_in hn b0 b1
  refine (mem_near hn t0 t1).2 ⟨u0, u1, ?_⟩
  rw [(trH_div hn h0 h1).1, (trH_div hn h0 h1).2, (trH_div hn b0 b1).1, (trH_div hn b0 b1).2]
  exact stepH_swap _ hm
theorem swP_range {o : Int} (h0 : 0 ≤ o) (h2 : o ≤ 2) : 0 ≤ swP o ∧ swP o ≤ 2 := by
  unfold swP
  split <;> omega

/-! ### triangles -/
def tS (r : Nat) : Nat := r * (r + 1) / 2
theorem tS_succ (r : Nat) : tS (r + 1) = tS r + (r + 1) := by
  unfold tS
  have : (r + 1) * (r + 1 + 1) = r * (r + 1) + 2 * (r + 1) := by
    rw [← Nat.add_mul, Nat.mul_comm]
  rw [this]
  omega
theorem tS_zero : tS 0 = 0 := rfl
theorem tS_mono {r s : Nat} (h : r ≤ s) : tS r ≤ tS s := by
  induction s with
  | zero => obtain rfl : r = 0 := by omega
            exact Nat.le_refl _
  | succ s ih =>
    by_cases e : r = s + 1
    · subst e; exact Nat.le_refl _
    · have := ih (by omega)
      rw [tS_succ]
      omega
theorem tS_nums {n : Nat} (h1 : n ≤ 8) : tS n ≤ 36 := by
  have := tS_mono h1
  exact this
theorem tS_int {n : Int} (h0 : 0 ≤ n) : n * (n + 1) / 2 = (tS n.toNat : Int) := by
  obtain ⟨k, rfl⟩ := Int.eq_ofNat_of_zero_le h0
  unfold tS
  simp
def okT (n lo : Int) (cs : List Int) : Int := if lo ≤ n ∧ 1 ≤ n ∧ n ≤ 8 then (if (cs.length : Int) = n * (n + 1) / 2 ∧ ∀ z ∈ cs, 1 ≤ z ∧ z ≤ 2 then 0 else 1) else 2
def most (a b c : Int) : Int := if b = c then b else a
def red1 (cs : List Int) (r c : Nat) : Int := most (hexAt cs ((tS r + c : Nat) : Int)) (hexAt cs ((tS (r + 1) + c : Nat) : Int)) (hexAt cs ((tS (r + 1) + c + 1 : Nat) : Int))
def redRow (cs : List Int) (r : Nat) : Nat → List Int
  | 0 => []
  | k + 1 => redRow cs r k ++ [red1 cs r k]
def redTo (cs : List Int) : Nat → List Int
  | 0 => []
  | r + 1 => redTo cs r ++ redRow cs r (r + 1)
theorem redRow_len (cs : List Int) (r : Nat) : ∀ k, (redRow cs r k).length = k
  | 0 => rfl
  | k + 1 => by rw [redRow, List.length_append, redRow_len cs r k]; rfl
theorem redTo_len (cs : List Int) : ∀ r, (redTo cs r).length = tS r
  | 0 => rfl
  | r + 1 => by rw [redTo, List.length_append, redRow_len, redTo_len cs r, tS_succ]
theorem most_12 {a b c : Int} (ha : 1 ≤ a ∧ a ≤ 2) (hb : 1 ≤ b ∧ b ≤ 2) : 1 ≤ most a b c ∧ most a b c ≤ 2 := by
  unfold most
  split <;> omega
theorem most_sum {a b c : Int} (ha : 1 ≤ a ∧ a ≤ 2) (hb : 1 ≤ b ∧ b ≤ 2) (hc : 1 ≤ c ∧ c ≤ 2) : most a b c = if a + b + c < 5 then 1 else 2 := by
  unfold most
  split <;> split <;> omega
theorem hexAt_12 {cs : List Int} (h : ∀ z ∈ cs, 1 ≤ z ∧ z ≤ 2) {k : Nat} (hk : k < cs.length) : 1 ≤ hexAt cs (k : Int) ∧ hexAt cs (k : Int) ≤ 2 := h _ (hexAt_mem (by simpa using hk))
theorem redRow_12 {cs : List Int} (h : ∀ z ∈ cs, 1 ≤ z ∧ z ≤ 2) {r : Nat} (hr : tS (r + 2) ≤ cs.length) : ∀ k, k ≤ r + 1 → ∀ z ∈ redRow cs r k, 1 ≤ z ∧ z ≤ 2
  | 0, _, z, hz => by simp [redRow] at hz
  | k + 1, hk, z, hz => by
    rw [redRow, List.mem_append] at hz
    rcases hz with hz | hz
    · exact redRow_12 h hr k (by omega) z hz
    · have h1 := tS_succ r
      have h2 : tS (r + 2) = tS (r + 1) + (r + 1 + 1) := tS_succ (r + 1)
      simp only [List.mem_singleton] at hz
      subst hz
      exact most_12 (hexAt_12 h (by omega)) (hexAt_12 h (by omega))
theorem redTo_12 {cs : List Int} (h : ∀ z ∈ cs, 1 ≤ z ∧ z ≤ 2) : ∀ r, tS (r + 1) ≤ cs.length → ∀ z ∈ redTo cs r, 1 ≤ z ∧ z ≤ 2
  | 0, _, z, hz => by simp [redTo] at hz
  | r + 1, hr, z, hz => by
    rw [redTo, List.mem_append] at hz
    rcases hz with hz | hz
    · exact redTo_12 h r (Nat.le_trans (tS_mono (by omega)) hr) z hz
    · exact redRow_12 h hr _ (Nat.le_refl _) z hz
/-- What a triangle of the side m + 1 is reduced to at last. -/
def ownT : Nat → List Int → Int
  | 0, cs => hexAt cs 0
  | m + 1, cs => ownT m (redTo cs (m + 1))
end Go.Proofs.Ytogfoahejgmfgaa
