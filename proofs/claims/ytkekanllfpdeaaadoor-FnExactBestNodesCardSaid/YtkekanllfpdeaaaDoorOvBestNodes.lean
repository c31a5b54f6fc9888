/-
  A closed fact of FnExactBestNodes's row.
-/
import Derived.Test.YtkekanllfpdeaaaDoorTl
import Derived.Test.YtkekanllfpdeaaaDoorCards
import Derived.Conc.Holds
namespace Go.Proofs.YtkekanllfpdeaaaDoor
open Go.RowKit
theorem closedBestNodes : joinedFacts Tryd.pinned.checked.prog 6 Tryd.f6 Rows.fnExactBestNodesSpec Rows.fnExactBestNodesRow = true := by kernel_rfl
end Go.Proofs.YtkekanllfpdeaaaDoor
