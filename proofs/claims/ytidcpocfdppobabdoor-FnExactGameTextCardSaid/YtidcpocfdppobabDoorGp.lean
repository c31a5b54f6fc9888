/-
  Texts of games, plain.
-/
import Derived.Test.YtidcpocfdppobabDoorIsGame
import Derived.Test.YtidcpocfdppobabDoorCo
import Derived.Lib.Join
namespace Go.Proofs.YtidcpocfdppobabDoor
open Go.RowKit
set_option linter.unusedVariables false

def dgt (n : Int) : UInt8 := UInt8.ofNat (48 + n.toNat)
/-- A number below 100 in decimal. -/
def decL (n : Int) : List UInt8 := if n < 10 then [dgt n] else [dgt (n / 10), dgt (n % 10)]
theorem decL_le (n : Int) : (decL n).length ≤ 2 := by unfold decL; split <;> simp
theorem join_snoc (sep : List UInt8) (l : List (List UInt8)) (x : List UInt8) : Lib.join (l ++ [x]) sep = (if l.length = 0 then Lib.join l sep else Lib.join l sep ++ sep) ++ x := by
  cases l with
  | nil => simp [Lib.join_nil, Lib.join_one]
  | cons a r =>
    simp only [List.length_cons, Nat.add_eq_zero_iff, Nat.one_ne_zero, and_false, if_false, List.cons_append]
    simp only [Lib.join_cons]
    unfold Lib.joinTail
    simp [List.append_assoc]
/-- A list of moves; a game. -/
def rowT (l : List Int) : List UInt8 := Lib.join (l.map decL) [46]
def gameT (xss : List (List Int)) : List UInt8 := Lib.join (xss.map rowT) [44]
theorem rowT_nil : rowT [] = [] := rfl
theorem gameT_nil : gameT [] = [] := rfl
theorem rowT_one (z : Int) : rowT [z] = decL z := by simp [rowT, Lib.join_one]
theorem rowT_take {l : List Int} {k : Nat} {z : Int} (hk : k ≠ 0) (h : l[k]? = some z) : rowT (l.take (k + 1)) = (rowT (l.take k) ++ [46]) ++ decL z := by
  have hkl := (List.getElem?_eq_some_iff.1 h).1
  unfold rowT
  rw [List.take_add_one, h]
  simp only [Option.toList_some, List.map_append, List.map_cons, List.map_nil]
  rw [join_snoc, if_neg (by rw [List.length_map, List.length_take]; omega)]
theorem rowT_first {l : List Int} {z : Int} (h : l[0]? = some z) : rowT (l.take 1) = decL z := by
  rw [show (1 : Nat) = 0 + 1 from rfl, List.take_add_one, h]
  simp [rowT, Lib.join_one]
theorem gameT_take {l : List (List Int)} {k : Nat} {z : List Int} (hk : k ≠ 0) (h : l[k]? = some z) : gameT (l.take (k + 1)) = (gameT (l.take k) ++ [44]) ++ rowT z := by
  have hkl := (List.getElem?_eq_some_iff.1 h).1
  unfold gameT
  rw [List.take_add_one, h]
  simp only [Option.toList_some, List.map_append, List.map_cons, List.map_nil]
  rw [join_snoc, if_neg (by rw [List.length_map, List.length_take]; omega)]
theorem gameT_first {l : List (List Int)} {z : List Int} (h : l[0]? = some z) : gameT (l.take 1) = rowT z := by
  rw [show (1 : Nat) = 0 + 1 from rfl, List.take_add_one, h]
  simp [gameT, Lib.join_one]
theorem join_le (sep : List UInt8) (hs : sep.length = 1) (m : Nat) : ∀ (n : Nat) (l : List (List UInt8)), l.length = n → (∀ x ∈ l, x.length ≤ m) → (Lib.join l sep).length ≤ (m + 1) * n := by
  intro n
  induction n with
  | zero => intro l hl _; rw [List.eq_nil_of_length_eq_zero hl]; simp [Lib.join_nil]
  | succ n ih =>
    intro l hl hm
    have hne : l ≠ [] := by intro e; subst e; simp at hl
    rw [← List.dropLast_concat_getLast hne, join_snoc]
    have h1 := ih l.dropLast (by simp; omega) (fun x hx => hm x (List.dropLast_subset l hx))
    have h2 := hm (l.getLast hne) (List.getLast_mem hne)
    rw [Nat.mul_succ]
    split
    · rw [List.length_append]; omega
    · rw [List.length_append, List.length_append, hs]; omega
theorem rowT_le (l : List Int) : (rowT l).length ≤ 3 * l.length := by
  have := join_le [46] rfl 2 l.length (l.map decL) (by simp) (fun x hx => by
    rw [List.mem_map] at hx
    obtain ⟨n, _, rfl⟩ := hx
    exact decL_le n)
  exact this
theorem gameT_le {l : List (List Int)} (h : ∀ x ∈ l, x.length ≤ 40) : (gameT l).length ≤ 121 * l.length := by
  have := join_le [44] rfl 120 l.length (l.map rowT) (by simp) (fun x hx => by
    rw [List.mem_map] at hx
    obtain ⟨n, hn, rfl⟩ := hx
    have := h n hn
    have := rowT_le n
    omega)
  exact this
theorem ascB_mem : ∀ (l : List Int) (low high : Int), ascB low high l = true → (∀ q ∈ l, low ≤ q ∧ q ≤ high) ∧ (l = [] ∨ (l.length : Int) ≤ high - low + 1)
  | [], _, _, _ => ⟨fun q h => by simp at h, .inl rfl⟩
  | x :: r, low, high, h => by
    rw [ascB] at h
    split at h
    · cases h
    · rename_i hn
      obtain ⟨h1, h2⟩ := ascB_mem r (x + 1) high h
      refine ⟨fun q hq => ?_, .inr ?_⟩
      · rcases List.mem_cons.1 hq with rfl | hq
        · omega
        · have := h1 q hq; omega
      · rcases h2 with rfl | h2
        · simp; omega
        · rw [List.length_cons]; push_cast; omega
theorem rowsB_get : ∀ (xss : List (List Int)) (p n : Int), rowsB p n xss = true → ∀ (k : Nat) (zs : List Int), xss[k]? = some zs → ascB (p + k + 1) (n - 1) zs = true
  | [], _, _, _, k, zs, h => by simp at h
  | x :: r, p, n, hb, 0, zs, h => by
    simp at h
    subst h
    rw [rowsB, Bool.and_eq_true] at hb
    simpa using hb.1
  | x :: r, p, n, hb, k + 1, zs, h => by
    rw [rowsB, Bool.and_eq_true] at hb
    have := rowsB_get r (p + 1) n hb.2 k zs (by simpa using h)
    rw [show p + ((k + 1 : Nat) : Int) + 1 = p + 1 + (k : Int) + 1 by push_cast; omega]
    exact this
/-- What a game's rows are. -/
theorem game_rows {xss : List (List Int)} (h : isGameB xss = true) : 1 ≤ xss.length ∧ xss.length ≤ 40 ∧ ∀ (k : Nat) (zs : List Int), xss[k]? = some zs → zs.length ≤ 40 ∧ ∀ q ∈ zs, 0 ≤ q ∧ q < 40 := by
  unfold isGameB at h
  rw [Bool.and_eq_true, Bool.and_eq_true, decide_eq_true_eq, decide_eq_true_eq] at h
  obtain ⟨⟨h1, h2⟩, h3⟩ := h
  refine ⟨h1, h2, fun k zs hz => ?_⟩
  obtain ⟨h4, h5⟩ := ascB_mem _ _ _ (rowsB_get xss 0 xss.length h3 k zs hz)
  refine ⟨?_, fun q hq => ?_⟩
  · rcases h5 with rfl | h5
    · simp
    · omega
  · have := h4 q hq; omega
theorem take_le40 {xss : List (List Int)} (h : isGameB xss = true) (k : Nat) : (gameT (xss.take k)).length ≤ 4840 := by
  obtain ⟨h1, h2, h3⟩ := game_rows h
  have := gameT_le (l := xss.take k) (fun x hx => by
    obtain ⟨j, hj⟩ := List.getElem?_of_mem (List.mem_of_mem_take hx)
    exact (h3 j x hj).1)
  have hl : (xss.take k).length ≤ 40 := by rw [List.length_take]; omega
  omega
theorem rowtake_le (l : List Int) (h : l.length ≤ 40) (k : Nat) : (rowT (l.take k)).length ≤ 120 := by
  have := rowT_le (l.take k)
  have hl : (l.take k).length ≤ 40 := by rw [List.length_take]; omega
  omega
/-- The answer. -/
def txtR (xss : List (List Int)) : List UInt8 × Int := if isGameB xss = true then (gameT xss, 0) else ([], 1)
def txtV (r : List UInt8 × Int) : Value := .tuple #[.string ⟨r.1.toArray⟩, .int .i64 r.2]
end Go.Proofs.YtidcpocfdppobabDoor
