/-
  A closed fact of FnExactMakerWins's row.
-/
import Derived.Test.YtkekanllfpdeaaaDoorTl
import Derived.Test.YtkekanllfpdeaaaDoorCards
import Derived.Conc.Holds
namespace Go.Proofs.YtkekanllfpdeaaaDoor
open Go.RowKit
theorem closedMakerWins : joinedFacts Tryd.pinned.checked.prog 4 Tryd.f4 Rows.fnExactMakerWinsSpec Rows.fnExactMakerWinsRow = true := by kernel_rfl
end Go.Proofs.YtkekanllfpdeaaaDoor
