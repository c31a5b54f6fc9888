/-
  What a call hands back that has made a list of its own, and a code.
-/
import Derived.Test.YtogfoahejgmfgaaGen
namespace Go.Proofs.Ytogfoahejgmfgaa
open Go.RowKit

/-- What a call hands back that has made a list of its own, and a code. -/
def NewList (r : List Int × Int) (w : World) (e : Ending) (w' : World) : Prop :=
  ∃ a c, e = .returned (.tuple #[.slice a r.1.length c, .int .i64 r.2]) ∧ w'.ownsRow w.heap.size 2 1 (.slice a r.1.length c) r.1.length (r.1.map intV) ∧ Below w.heap.size w w'

theorem own_form {w : World} {base : Nat} {e : TypeId} {v : Value} {n : Nat} {xs : List Value} (h : w.ownsRow base e 1 v n xs) : ∃ a c, v = .slice a n c := by
  rcases h.2 with ⟨rfl, rfl⟩ | ⟨g, cap, cur, rfl, _⟩
  · exact ⟨none, 0, rfl⟩
  · exact ⟨_, _, rfl⟩

end Go.Proofs.Ytogfoahejgmfgaa
