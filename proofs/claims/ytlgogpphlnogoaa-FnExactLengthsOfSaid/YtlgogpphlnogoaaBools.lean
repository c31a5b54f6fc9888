/-
  Lists of bools that a call has made.
-/
import Derived.Test.YtlgogpphlnogoaaGen
namespace Go.Proofs.Ytlgogpphlnogoaa
open Go.RowKit
def NewBools (zs : List Bool) (w : World) (e : Ending) (w' : World) : Prop :=
  ∃ g c, e = .returned (.slice (some ⟨g, 0, none⟩) zs.length c) ∧ w'.ownsRow w.heap.size 4 1 (.slice (some ⟨g, 0, none⟩) zs.length c) zs.length (zs.map boolV) ∧ Below w.heap.size w w'
theorem BoolsAt.keep {w w' : World} {a : Option Addr} {zs : List Bool} (h : BoolsAt w a zs) (hb : Below w.heap.size w w') : BoolsAt w' a zs := CellsAt.keep h hb
theorem boolsAt_of_ownsRow {w : World} {base : Nat} {e : TypeId} {a : Option Addr} {n c : Nat} {zs : List Bool} (h : w.ownsRow base e 1 (.slice a n c) n (zs.map boolV)) : BoolsAt w a zs := cellsAt_of_ownsRow h
theorem Try.infoBool : (Try.prog.info? 4).map (fun i => (i.zero, i.size, i.bytes)) = some (some (.bool false), 1, 1) := by kernel_rfl
end Go.Proofs.Ytlgogpphlnogoaa
