/-
  A closed fact of FnExactBoardText's row.
-/
import Derived.Test.YtkekanllfpdeaaaDoorTl
import Derived.Test.YtkekanllfpdeaaaDoorCards
import Derived.Conc.Holds
namespace Go.Proofs.YtkekanllfpdeaaaDoor
open Go.RowKit
theorem closedBoardText : joinedFacts Tryd.pinned.checked.prog 3 Tryd.f3 Rows.fnExactBoardTextSpec Rows.fnExactBoardTextRow = true := by kernel_rfl
end Go.Proofs.YtkekanllfpdeaaaDoor
