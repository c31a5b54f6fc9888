/-
  DERIVED. GIVEN WITH THE SEED: THE CARDS: each row of YtincdnlinepcgaaDoorRows.lean that lists a variable, with what it lists TIED to the program's text (the seventh form; the later family's looks); each row that meets fmt, with fmt's text TOLD by the authors' own Lean function (tested against real Go, not proved from fmt's source: count such statements apart). THE CARD IS WHAT COUNTS. Prove the row's statement (the work); the ties are given (YtincdnlinepcgaaDoorTie.lean); close each card by the builder's one call (the guide's Derived/Test/ToyasCard.lean, 'card_holds'). Laid BY PROGRAM, IN A SANDBOX (cutbox-door.mjs). By AI agents, Wed Nov 11 2026. No macro, syntax, notation, axiom, sorry.
-/
import Derived.Test.YtincdnlinepcgaaDoorRows
import GoSem.ClaimSeven
namespace Go.Proofs.YtincdnlinepcgaaDoor
namespace Rows

/-- THE TIED CARD OF 'laws.FnExactBoxesText'. -/
def fnExactBoxesTextCard : Claim7 := { stood := { row := fnExactBoxesTextRow, standIns := [], harness := (true, "36ec162f976d7bc8645213331d6ac1b61e0886250a34ff18d9869598acb89b6c"), looks := true }, kinds := [], alts := [], laidByText := true, laidKinds := [.data, .data, .data], laidTests := true, laidLooks := .later }
def FnExactBoxesTextCardSaid : Prop := Claim7.holds Tryd.pinned (.plain (OpenSpec.ofChange fnExactBoxesTextSpec)) fnExactBoxesTextCard

/-- THE TIED CARD OF 'laws.FnExactParseBoxes'. -/
def fnExactParseBoxesCard : Claim7 := { stood := { row := fnExactParseBoxesRow, standIns := [], harness := (true, "36ec162f976d7bc8645213331d6ac1b61e0886250a34ff18d9869598acb89b6c"), looks := true }, kinds := [], alts := [], laidByText := true, laidKinds := [.data, .data, .data, .sentinel, .sentinel], laidTests := true, laidLooks := .later }
def FnExactParseBoxesCardSaid : Prop := Claim7.holds Tryd.pinned (.plain (OpenSpec.ofChange fnExactParseBoxesSpec)) fnExactParseBoxesCard

/-- THE SECOND FORM's CARD OF 'laws.FnExactBoxesText'. -/
def fnExactBoxesTextUptoCard : Claim7 := { stood := { row := fnExactBoxesTextUptoRow, standIns := [], harness := (true, "36ec162f976d7bc8645213331d6ac1b61e0886250a34ff18d9869598acb89b6c"), looks := true }, kinds := [], alts := [], laidByText := true, laidKinds := [.data, .data, .data], laidTests := true, laidLooks := .later }
def FnExactBoxesTextUptoCardSaid : Prop := Claim7.holds Tryd.pinned (.plain (OpenSpec.upto fnExactBoxesTextSpec)) fnExactBoxesTextUptoCard

/-- THE SECOND FORM's CARD OF 'laws.FnExactParseBoxes'. -/
def fnExactParseBoxesUptoCard : Claim7 := { stood := { row := fnExactParseBoxesUptoRow, standIns := [], harness := (true, "36ec162f976d7bc8645213331d6ac1b61e0886250a34ff18d9869598acb89b6c"), looks := true }, kinds := [], alts := [], laidByText := true, laidKinds := [.data, .data, .data, .sentinel, .sentinel], laidTests := true, laidLooks := .later }
def FnExactParseBoxesUptoCardSaid : Prop := Claim7.holds Tryd.pinned (.plain (OpenSpec.upto fnExactParseBoxesSpec)) fnExactParseBoxesUptoCard
end Rows
end Go.Proofs.YtincdnlinepcgaaDoor
