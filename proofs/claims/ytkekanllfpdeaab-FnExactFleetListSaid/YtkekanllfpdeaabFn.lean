/-
  IsFleet: the model.
-/
import Derived.Test.YtkekanllfpdeaabIf
import Derived.Test.YtkekanllfpdeaabFm
namespace Go.Proofs.Ytkekanllfpdeaab
open Go.RowKit
set_option linter.unusedVariables false

end Go.Proofs.Ytkekanllfpdeaab
