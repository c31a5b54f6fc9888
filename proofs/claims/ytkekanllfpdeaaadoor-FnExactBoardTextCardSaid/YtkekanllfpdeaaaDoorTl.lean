/-
  From a row's listed tables to the table that TrailingZeros64 reads.
-/
import Derived.Test.YtkekanllfpdeaaaDoorTz
import Derived.Test.YtkekanllfpdeaaaDoorRows
import Derived.Lib.LaidU8
import Derived.MakeChecks
namespace Go.Proofs.YtkekanllfpdeaaaDoor
open Go.RowKit
set_option linter.unusedVariables false

theorem tz_data : (Rows.laid_math_bits_deBruijn64tab : DataW Unit) = Lib.tabData .u8 (Lib.deBruijn64tab.map fun (n : Nat) => (n : Int)) := by kernel_rfl
theorem tz_of_laid {W : World} {laid : List (String × DataW Unit)} (h : laidMetH Tryd.prog laid W) (hp : (laid.all fun x => x.2.handleName?.isNone) = true)
    (hm : ("math/bits.deBruijn64tab", Rows.laid_math_bits_deBruijn64tab) ∈ laid) : TzTab W := by
  rw [MakeChecks.laidMetH_plain _ _ _ hp] at h
  obtain ⟨g, t, cs, fuel, p, hg, hty, hvar, hd⟩ := Lib.laidMet.reads h hm
  obtain rfl := Option.some.inj (hg.symm.trans (show (Tryd.prog).globalNamed "math/bits.deBruijn64tab" = some 0 by kernel_rfl))
  obtain rfl := Option.some.inj (hty.symm.trans (show ((Tryd.prog).globals[0]?).map (·.type) = some 200 by kernel_rfl))
  rw [tz_data] at hd
  have hcs := Lib.cells_of_tab Tryd.underlying200 Tryd.underlying5 (by kernel_rfl) (by kernel_rfl) hd
  have hl : Lib.deBruijn64tab.length = 64 := by decide
  intro j hj
  rw [World.var?_cell hg hvar j, ← Array.getElem?_toList, hcs, List.getD_eq_getElem?_getD]
  simp [List.getElem?_eq_getElem (show j < Lib.deBruijn64tab.length by omega)]
end Go.Proofs.YtkekanllfpdeaaaDoor
