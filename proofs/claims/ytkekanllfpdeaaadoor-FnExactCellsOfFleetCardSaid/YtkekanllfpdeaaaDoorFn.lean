/-
  IsFleet: the model.
-/
import Derived.Test.YtkekanllfpdeaaaDoorIf
import Derived.Test.YtkekanllfpdeaaaDoorFm
namespace Go.Proofs.YtkekanllfpdeaaaDoor
open Go.RowKit
set_option linter.unusedVariables false

end Go.Proofs.YtkekanllfpdeaaaDoor
