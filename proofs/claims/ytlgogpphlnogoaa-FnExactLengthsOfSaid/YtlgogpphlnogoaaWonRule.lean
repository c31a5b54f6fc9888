/-
  The rule of won places.
-/
import Derived.Test.YtlgogpphlnogoaaValsB
import Derived.Test.YtlgogpphlnogoaaEnds0
namespace Go.Proofs.Ytlgogpphlnogoaa.B
open Go.RowKit Go.Shelf

theorem stL_zero {β : Type} {z : β} {R : List β → β} {xss : List (List Int)} {n : Nat} : ∀ (k : Nat) (h : k ≤ n) (i : Nat), i < n - k → stL z R xss (downs n k h) i = z
  | 0, _, _, _ => rfl
  | k + 1, h, i, hi => by
    rw [downs, stL_snoc]
    unfold upd
    have : ¬ i = n - 1 - k := by omega
    show (if i = n - 1 - k then _ else _) = z
    rw [if_neg this]
    exact stL_zero k (by omega) i (by omega)
theorem afterOf_snoc {β : Type} (st : Nat → β) {zs : List Int} {j q : Nat} (h : zs[j]? = some (q : Int)) : afterOf st (zs.take (j + 1)) = afterOf st (zs.take j) ++ [st q] := by
  rw [List.take_add_one, h]
  simp [afterOf]

def hasF (vs : List Bool) : Bool := decide (false ∈ vs)
theorem hasF_snoc (vs : List Bool) (v : Bool) : hasF (vs ++ [v]) = (hasF vs || !v) := by
  unfold hasF
  cases v <;> simp
def wonV (ends : Bool) (vs : List Bool) : Bool := if vs = [] then ends else hasF vs

def IdxPost (vs : List Bool) (w : World) (e : Ending) (w' : World) : Prop := ∃ r : Int, e = .returned (.int .i64 r) ∧ decide (0 ≤ r) = hasF vs ∧ w = w'

set_option maxRecDepth 100000 in
set_option maxHeartbeats 1000000 in
theorem index_any (a : Option Addr) (c : Nat) (vs : List Bool) (w : World) (ha : BoolsAt w a vs) (hl : vs.length ≤ 1048576) :
    Calls Try.prog 103 #[.slice a vs.length c, .bool false] w (IdxPost vs w) := by
  go_enter Try.func103, Try.ntmps103
  go_wp2
  go_loop [8] (fun i => ∃ k : Nat, k ≤ vs.length ∧ i = .int .i64 k ∧ Hid (false ∉ vs.take k)) (fun i => vs.length - (intOf i).toNat)
  case atStart => exact ⟨0, Nat.zero_le _, rfl, by intro h; simp at h⟩
  case round =>
    obtain ⟨k, hk, rfl, hN⟩ := hrel
    by_cases hlt : k < vs.length
    · obtain ⟨b1, o1, z, rfl, h1, hz⟩ := ha.one hlt
      cases z
      · have hfin : IdxPost vs w (.returned (.int .i64 k)) w := ⟨k, rfl, by unfold hasF; rw [decide_eq_true (by omega), decide_eq_true (List.mem_of_getElem? hz.out)], rfl⟩
        have HF := hide hfin
        clear ha hfin
        go_wp2
        go_ret
        exact HF.out
      · have hN2 : Hid (false ∉ vs.take (k + 1)) := by
          refine hide ?_
          rw [List.take_add_one, hz.out]
          simp only [Option.toList, List.mem_append, List.mem_singleton]
          rintro (h | h)
          · exact hN.out h
          · cases h
        clear ha hN
        go_wp2
        go_round
        case rel => exact ⟨k + 1, by omega, by go_num, hN2⟩
        case measure => simp [intOf]; omega
    · obtain rfl : k = vs.length := by omega
      have hfin : IdxPost vs w (.returned (.int .i64 (-1))) w := ⟨-1, rfl, by
        unfold hasF
        have := hN.out
        rw [List.take_length] at this
        rw [decide_eq_false this]; rfl, rfl⟩
      have HF := hide hfin
      clear ha hfin hN
      go_wp2
      go_ret
      exact HF.out

set_option maxRecDepth 100000 in
theorem contains_any (a : Option Addr) (c : Nat) (vs : List Bool) (w : World) (ha : BoolsAt w a vs) (hl : vs.length ≤ 1048576) :
    Calls Try.prog 97 #[.slice a vs.length c, .bool false] w fun e w' => e = .returned (.bool (hasF vs)) ∧ w = w' := by
  go_enter Try.func97, Try.ntmps97
  go_wp2_with fail
  refine (index_any _ _ vs _ ha hl).mono ?_
  rintro e w1 ⟨r, rfl, hr, rfl⟩
  have HR := hide hr
  clear hr
  go_wp2_with fail
  go_ret
  exact ⟨ret_bool HR.out, rfl⟩

set_option maxRecDepth 100000 in
theorem wonRule_any (a : Option Addr) (c : Nat) (vs : List Bool) (w : World) (ha : BoolsAt w a vs) (hl : vs.length ≤ 40) :
    Calls Try.prog 77 #[.slice a vs.length c] w fun e w' => e = .returned (.bool (wonV false vs)) ∧ Below w.heap.size w w' := by
  have hw : wonV false vs = hasF vs := by
    unfold wonV
    split
    · rename_i h; subst h; rfl
    · rfl
  rw [hw]
  clear hw
  go_enter Try.func77, Try.ntmps77
  go_wp2_with fail
  refine (contains_any _ _ vs _ ha (by omega)).mono ?_
  rintro e w1 ⟨rfl, rfl⟩
  go_wp2_with fail
  go_ret
  exact ⟨rfl, Below.refl _ _⟩

end Go.Proofs.Ytlgogpphlnogoaa.B
