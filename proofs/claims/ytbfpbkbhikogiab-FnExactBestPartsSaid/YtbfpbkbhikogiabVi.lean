/-
  Ends of dots and boxes: EndingValue, the program's text.
-/
import Derived.Test.YtbfpbkbhikogiabTl
import Derived.Test.YtbfpbkbhikogiabVv
namespace Go.Proofs.Ytbfpbkbhikogiab
open Go.RowKit Go.Maps
set_option linter.unusedVariables false

theorem below_but {a m c : World} {b : Nat} (h : Below a.heap.size a m) (k : But b m c) (hb : a.heap.size ≤ b) : Below a.heap.size a c :=
  ⟨k.os.trans h.os, k.tape.trans h.tape, k.output.trans h.output, Nat.le_trans h.size k.size, fun i hi => (k.block i (Nat.lt_of_lt_of_le hi h.size) (by omega)).trans (h.block i hi)⟩

end Go.Proofs.Ytbfpbkbhikogiab
