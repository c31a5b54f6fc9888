/-
  Boards of hexagons: the reduced triangle, the program's text.
-/
import Derived.Test.YtogfoahejgmfgaaHu
namespace Go.Proofs.Ytogfoahejgmfgaa
open Go.RowKit
set_option linter.unusedVariables false

end Go.Proofs.Ytogfoahejgmfgaa
