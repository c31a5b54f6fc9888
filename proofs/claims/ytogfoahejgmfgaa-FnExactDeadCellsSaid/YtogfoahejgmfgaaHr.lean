/-
  Boards of hexagons: ReduceTriangle and TriangleOwner, both texts.
-/
import Derived.Test.YtogfoahejgmfgaaHv
namespace Go.Proofs.Ytogfoahejgmfgaa
open Go.RowKit
set_option linter.unusedVariables false

theorem own_cap {w : World} {base n c : Nat} {e : TypeId} {a : Option Addr} {xs : List Value} (h : w.ownsRow base e 1 (.slice a n c) n xs) : n ≤ c := by
  rcases h.2 with ⟨h2, h3⟩ | ⟨g, cap, cur, hv, _, _, r, _⟩
  · omega
  · simp only [Value.slice.injEq] at hv
    omega
def rdR (n : Int) (cs : List Int) : List Int × Int := if trC n 2 cs = 0 then (redTo cs (n.toNat - 1), 0) else ([], trC n 2 cs)
theorem rdR_le (n : Int) (cs : List Int) : (rdR n cs).1.length ≤ 1048576 := by
  unfold rdR
  split
  · rename_i h
    obtain ⟨k1, k2, k3, k4, _⟩ := trC_zero h
    have h1 := tS_mono (show n.toNat - 1 ≤ 8 by omega)
    have h2 : tS 8 = 36 := rfl
    show (redTo cs (n.toNat - 1)).length ≤ _
    rw [redTo_len]
    omega
  · simp
theorem newList_nil (W W' : World) (k : Int) (h : Below W.heap.size W W') : NewList ([], k) W (.returned (.tuple #[.slice none 0 0, .int .i64 k])) W' := ⟨none, 0, rfl, World.ownsRow_nil _ _ _ _, h⟩
theorem newList_of {zs : List Int} {k : Int} {W w1 w2 : World} {a : Option Addr} {c : Nat} (h1 : Below W.heap.size W w1) (h2 : w2.ownsRow w1.heap.size 2 1 (.slice a zs.length c) zs.length (zs.map intV)) (h3 : Below w1.heap.size w1 w2) :
    NewList (zs, k) W (.returned (.tuple #[.slice a zs.length c, .int .i64 k])) w2 := ⟨a, c, rfl, ownsRow_base h2 h1.size, Below.trans' h1 h3⟩

/-! ### the owner -/
def owR (n : Int) (cs : List Int) : Int × Int := if trC n 1 cs = 0 then (ownT (n.toNat - 1) cs, 0) else (0, trC n 1 cs)

end Go.Proofs.Ytogfoahejgmfgaa
