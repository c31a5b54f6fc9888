/-
  A closed fact of FnExactRaceResult's row.
-/
import Derived.Test.YtkekanllfpdeaaaDoorTl
import Derived.Test.YtkekanllfpdeaaaDoorCards
import Derived.Conc.Holds
namespace Go.Proofs.YtkekanllfpdeaaaDoor
open Go.RowKit
theorem closedRaceResult : joinedFacts Tryd.pinned.checked.prog 5 Tryd.f5 Rows.fnExactRaceResultSpec Rows.fnExactRaceResultRow = true := by kernel_rfl
end Go.Proofs.YtkekanllfpdeaaaDoor
