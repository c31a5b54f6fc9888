/-
  A closed fact of FnExactPlayRace's row.
-/
import Derived.Test.YtkekanllfpdeaaaDoorTl
import Derived.Test.YtkekanllfpdeaaaDoorCards
import Derived.Conc.Holds
namespace Go.Proofs.YtkekanllfpdeaaaDoor
open Go.RowKit
theorem closedPlayRace : joinedFacts Tryd.pinned.checked.prog 7 Tryd.f7 Rows.fnExactPlayRaceSpec Rows.fnExactPlayRaceRow = true := by kernel_rfl
end Go.Proofs.YtkekanllfpdeaaaDoor
