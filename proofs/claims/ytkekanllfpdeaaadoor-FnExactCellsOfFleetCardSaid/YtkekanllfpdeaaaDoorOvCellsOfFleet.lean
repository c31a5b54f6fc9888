/-
  A closed fact of FnExactCellsOfFleet's row.
-/
import Derived.Test.YtkekanllfpdeaaaDoorTl
import Derived.Test.YtkekanllfpdeaaaDoorCards
import Derived.Conc.Holds
namespace Go.Proofs.YtkekanllfpdeaaaDoor
open Go.RowKit
theorem closedCellsOfFleet : joinedFacts Tryd.pinned.checked.prog 9 Tryd.f9 Rows.fnExactCellsOfFleetSpec Rows.fnExactCellsOfFleetRow = true := by kernel_rfl
end Go.Proofs.YtkekanllfpdeaaaDoor
