/-
  DERIVED. GIVEN WITH THE SEED: THE CARDS: each row of YtbfpbkbhikogiabDoorRows.lean that lists a variable, with what it lists TIED to the program's text (the seventh form; the later family's looks); each row that meets fmt, with fmt's text TOLD by the authors' own Lean function (tested against real Go, not proved from fmt's source: count such statements apart). THE CARD IS WHAT COUNTS. Prove the row's statement (the work); the ties are given (YtbfpbkbhikogiabDoorTie.lean); close each card by the builder's one call (the guide's Derived/Test/ToyasCard.lean, 'card_holds'). Laid BY PROGRAM, IN A SANDBOX (cutbox-door.mjs). By AI agents, Wed Nov 11 2026. No macro, syntax, notation, axiom, sorry.
-/
import Derived.Test.YtbfpbkbhikogiabDoorRows
import GoSem.ClaimSeven
namespace Go.Proofs.YtbfpbkbhikogiabDoor
namespace Rows

/-- THE TIED CARD OF 'laws.FnExactEndingText'. -/
def fnExactEndingTextCard : Claim7 := { stood := { row := fnExactEndingTextRow, standIns := [], harness := (true, "890921af3f1ec4b518c2f6c1936a456b6d0a920c66bf90ed7fdc64409fba6745"), looks := true }, kinds := [], alts := [], laidByText := true, laidKinds := [.data, .data, .data], laidTests := true, laidLooks := .later }
def FnExactEndingTextCardSaid : Prop := Claim7.holds Tryd.pinned (.plain (OpenSpec.ofChange fnExactEndingTextSpec)) fnExactEndingTextCard

/-- THE TIED CARD OF 'laws.FnExactParseEnding'. -/
def fnExactParseEndingCard : Claim7 := { stood := { row := fnExactParseEndingRow, standIns := [], harness := (true, "890921af3f1ec4b518c2f6c1936a456b6d0a920c66bf90ed7fdc64409fba6745"), looks := true }, kinds := [], alts := [], laidByText := true, laidKinds := [.data, .data, .data, .data, .sentinel, .sentinel, .pinned], laidTests := true, laidLooks := .later }
def FnExactParseEndingCardSaid : Prop := Claim7.holds Tryd.pinned (.plain (OpenSpec.ofChange fnExactParseEndingSpec)) fnExactParseEndingCard

/-- THE SECOND FORM's CARD OF 'laws.FnExactEndingText'. -/
def fnExactEndingTextUptoCard : Claim7 := { stood := { row := fnExactEndingTextUptoRow, standIns := [], harness := (true, "890921af3f1ec4b518c2f6c1936a456b6d0a920c66bf90ed7fdc64409fba6745"), looks := true }, kinds := [], alts := [], laidByText := true, laidKinds := [.data, .data, .data], laidTests := true, laidLooks := .later }
def FnExactEndingTextUptoCardSaid : Prop := Claim7.holds Tryd.pinned (.plain (OpenSpec.upto fnExactEndingTextSpec)) fnExactEndingTextUptoCard

/-- THE SECOND FORM's CARD OF 'laws.FnExactParseEnding'. -/
def fnExactParseEndingUptoCard : Claim7 := { stood := { row := fnExactParseEndingUptoRow, standIns := [], harness := (true, "890921af3f1ec4b518c2f6c1936a456b6d0a920c66bf90ed7fdc64409fba6745"), looks := true }, kinds := [], alts := [], laidByText := true, laidKinds := [.data, .data, .data, .data, .sentinel, .sentinel, .pinned], laidTests := true, laidLooks := .later }
def FnExactParseEndingUptoCardSaid : Prop := Claim7.holds Tryd.pinned (.plain (OpenSpec.upto fnExactParseEndingSpec)) fnExactParseEndingUptoCard
end Rows
end Go.Proofs.YtbfpbkbhikogiabDoor
