/-
  Sprouts positions: their text, plain; a builder that holds letters; a letter.
-/
import Derived.Test.YtlllkmobhjlmoabTc
import Derived.Test.YtlllkmobhjlmoabSh
import Derived.Deep.LoopGhost
namespace Go.Proofs.Ytlllkmobhjlmoab
open Go.RowKit
set_option linter.unusedVariables false

def ltr (z : Int) : UInt8 := UInt8.ofNat (97 + z).toNat
theorem ltr_nat {z : Int} (h0 : 0 ≤ z) (h1 : z < 20) : ((ltr z).toNat : Int) = 97 + z := by
  obtain ⟨k, rfl⟩ : ∃ k : Nat, z = k := ⟨z.toNat, by omega⟩
  have hk : k < 20 := by omega
  unfold ltr
  rw [show (97 + (k : Int)).toNat = 97 + k by omega, UInt8.toNat_ofNat', Nat.mod_eq_of_lt (by omega)]
  omega
/-- A boundary's letters, a region's, a position's. -/
def bT (zs : List Int) : List UInt8 := zs.map ltr
def rT (xss : List (List Int)) : Nat → List UInt8
  | 0 => []
  | k + 1 => rT xss k ++ ((if k = 0 then [] else [44]) ++ bT (xss.getD k []))
def gT (X : List (List (List Int))) : Nat → List UInt8
  | 0 => []
  | k + 1 => gT X k ++ ((if k = 0 then [] else [47]) ++ rT (X.getD k []) (X.getD k []).length)
theorem getD_of {α : Type} {l : List α} {k : Nat} {x d : α} (h : l[k]? = some x) : l.getD k d = x := by
  rw [List.getD_eq_getElem?_getD, h]
  rfl
theorem bT_snoc {zs : List Int} {p : Nat} {z : Int} (h : zs[p]? = some z) : bT (zs.take (p + 1)) = bT (zs.take p) ++ [ltr z] := by
  unfold bT
  rw [List.take_add_one, h]
  simp
theorem bT_len (zs : List Int) (p : Nat) : (bT (zs.take p)).length ≤ zs.length := by
  unfold bT
  rw [List.length_map, List.length_take]
  omega
theorem rT_zero (xss : List (List Int)) : rT xss 0 = [] := rfl
theorem rT_first {xss : List (List Int)} {k : Nat} {zs : List Int} (hk : k = 0) (h : xss[k]? = some zs) : rT xss (k + 1) = rT xss k ++ bT zs := by
  rw [rT, if_pos hk, getD_of h, List.nil_append]
theorem rT_next {xss : List (List Int)} {k : Nat} {zs : List Int} (hk : ¬ k = 0) (h : xss[k]? = some zs) : rT xss (k + 1) = (rT xss k ++ [44]) ++ bT zs := by
  rw [rT, if_neg hk, getD_of h, List.append_assoc]
theorem gT_first {X : List (List (List Int))} {k : Nat} {xss : List (List Int)} (hk : k = 0) (h : X[k]? = some xss) : gT X (k + 1) = gT X k ++ rT xss xss.length := by
  rw [gT, if_pos hk, getD_of h, List.nil_append]
theorem gT_next {X : List (List (List Int))} {k : Nat} {xss : List (List Int)} (hk : ¬ k = 0) (h : X[k]? = some xss) : gT X (k + 1) = (gT X k ++ [47]) ++ rT xss xss.length := by
  rw [gT, if_neg hk, getD_of h, List.append_assoc]
theorem rT_len {xss : List (List Int)} (hg : ∀ zs ∈ xss, 1 ≤ zs.length) : ∀ k, k ≤ xss.length → (rT xss k).length ≤ 2 * tot (xss.take k)
  | 0, _ => by simp [rT]
  | k + 1, h => by
    have ih := rT_len hg k (by omega)
    have hx : xss[k]? = some xss[k] := List.getElem?_eq_getElem (by omega)
    have h1 := hg xss[k] (List.getElem_mem (by omega))
    have h2 := tot_succ hx
    rw [rT, List.length_append, List.length_append, getD_of hx]
    unfold bT
    rw [List.length_map]
    split <;> simp <;> omega
theorem gT_len {X : List (List (List Int))} (hg : ∀ zs ∈ X.flatten, 1 ≤ zs.length) : ∀ k, k ≤ X.length → (gT X k).length ≤ k + 2 * tot3 (X.take k)
  | 0, _ => by simp [gT]
  | k + 1, h => by
    have ih := gT_len hg k (by omega)
    have hx : X[k]? = some X[k] := List.getElem?_eq_getElem (by omega)
    have h1 := rT_len (xss := X[k]) (fun zs hz => hg zs (List.mem_flatten.2 ⟨_, List.getElem_mem (by omega), hz⟩)) X[k].length (Nat.le_refl _)
    rw [List.take_length] at h1
    have h2 := tot3_succ hx
    rw [gT, List.length_append, List.length_append, getD_of hx]
    split <;> simp <;> omega
/-- A position whose text is told: no boundary is empty, no spot has no letter. -/
def Told (X : List (List (List Int))) : Prop := ∀ zs ∈ X.flatten, 1 ≤ zs.length ∧ ∀ z ∈ zs, 0 ≤ z ∧ z < 20
theorem told_of {S : Int} {X : List (List (List Int))} {st : Cts} (h : sprC S X = some st) : Told X := by
  have h1 := sprC_le h
  obtain ⟨s, rfl⟩ : ∃ s : Nat, S = s := ⟨S.toNat, by omega⟩
  intro zs hz
  obtain ⟨h2, h3⟩ := spr_good h hz
  exact ⟨h2, fun z hz => ⟨(h3 z hz).1, by have := (h3 z hz).2; omega⟩⟩
/-- All prefixes of the text are short. -/
theorem pk_len {X : List (List (List Int))} (hs : Small3 X) (ht : Told X) {j : Nat} {xss : List (List Int)} (hx : X[j]? = some xss) {q : Nat} (hq : q ≤ xss.length) : (gT X j).length + (rT xss q).length + 2 * tot (xss.drop q) ≤ 3145728 := by
  have hj : j < X.length := (List.getElem?_eq_some_iff.1 hx).1
  have h1 := gT_len (X := X) (fun zs hz => (ht zs hz).1) j (by omega)
  have h2 := rT_len (xss := xss) (fun zs hz => (ht zs (List.mem_flatten.2 ⟨_, List.mem_of_getElem? hx, hz⟩)).1) q hq
  have h3 := tot3_succ hx
  have h4 := tot3_take_le X (j + 1)
  have h5 : tot xss = tot (xss.take q) + tot (xss.drop q) := by rw [← tot_append, List.take_append_drop]
  have h6 := hs.1
  have h7 := hs.2.1
  omega
theorem drop_len {xss : List (List Int)} {q : Nat} {zs : List Int} (h : xss[q]? = some zs) : zs.length ≤ tot (xss.drop q) := by
  refine tot_mem ?_
  rw [drop_of_get h]
  exact List.mem_cons_self
/-- The answer. -/
def sprT (s : Int) (X : List (List (List Int))) : List UInt8 × Int := if isSprB s X = true then (gT X X.length, 0) else ([], 1)

/-- A builder of the call's own that holds the letters l, and what was below it is as it was. -/
structure BAt (B b : Nat) (W0 w : World) (l : List UInt8) : Prop where
  is : IsB B b (Lib.byteCells l) w
  old : Below B W0 w
  size : B ≤ w.heap.size
theorem BAt.byte {B b : Nat} {W0 w w' : World} {l : List UInt8} {c : Int} {u : UInt8} (h : BAt B b W0 w l) (hu : (u.toNat : Int) = c) (hi : IsB B b (Lib.byteCells l ++ [.int .u8 c]) w') (hb : Below B w w') : BAt B b W0 w' (l ++ [u]) :=
  ⟨by have : Lib.byteCells (l ++ [u]) = Lib.byteCells l ++ [.int .u8 c] := by simp [Lib.byteCells, ← hu]
      rw [IsB, this]; exact hi, h.old.trans hb, Nat.le_trans h.size hb.size⟩
theorem BAt.keep {B b : Nat} {W0 w w' : World} {l : List UInt8} (h : BAt B b W0 w l) (hb : Below w.heap.size w w') : BAt B b W0 w' l := by
  refine ⟨?_, h.old.trans (hb.mono h.size), Nat.le_trans h.size hb.size⟩
  have hkeep : ∀ p : Value, Lib.BuilderAt 63 5 B b p (Lib.byteCells l) w → Lib.BuilderAt 63 5 B b p (Lib.byteCells l) w' := fun p hp => by
    obtain ⟨hB, v, hbk, hown, hne⟩ := hp
    exact ⟨hB, v, (hb.block _ (block_lt hbk)).trans hbk, ownsRow_keep hown hb, hne⟩
  rcases h.is with h1 | h1
  · exact .inl (hkeep _ h1)
  · exact .inr (hkeep _ h1)
theorem byteCells_len (l : List UInt8) : (Lib.byteCells l).length = l.length := by simp [Lib.byteCells]

set_option maxRecDepth 100000 in
theorem sign_any (z : Int) (h0 : 0 ≤ z) (h1 : z < 20) (W : World) : Calls Try.prog 30 #[.int .i64 z] W (RetB (.int .u8 (97 + z)) W) := by
  go_enter Try.func30, Try.ntmps30
  go_wp2_with fail
  go_ret
  exact ⟨by first | rfl | (congr 2; simp; omega), Below.refl _ _⟩
end Go.Proofs.Ytlllkmobhjlmoab
