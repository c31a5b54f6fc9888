/-
  DERIVED. GIVEN WITH THE SEED: THE CARDS: each row of YtlllkmobhjlmoabDoorRows.lean that lists a variable, with what it lists TIED to the program's text (the seventh form; the later family's looks); each row that meets fmt, with fmt's text TOLD by the authors' own Lean function (tested against real Go, not proved from fmt's source: count such statements apart). THE CARD IS WHAT COUNTS. Prove the row's statement (the work); the ties are given (YtlllkmobhjlmoabDoorTie.lean); close each card by the builder's one call (the guide's Derived/Test/ToyasCard.lean, 'card_holds'). Laid BY PROGRAM, IN A SANDBOX (cutbox-door.mjs). By AI agents, Wed Nov 11 2026. No macro, syntax, notation, axiom, sorry.
-/
import Derived.Test.YtlllkmobhjlmoabDoorRows
import GoSem.ClaimSeven
namespace Go.Proofs.YtlllkmobhjlmoabDoor
namespace Rows

/-- THE TIED CARD OF 'laws.FnExactBoardText'. -/
def fnExactBoardTextCard : Claim7 := { stood := { row := fnExactBoardTextRow, standIns := [], harness := (true, "793dbec0b558cd5f75174878b6b13d225e7e80e28a171bc018bc305e283e995b"), looks := false }, kinds := [], alts := [], laidByText := true, laidKinds := [.data, .data, .data], laidTests := true, laidLooks := .later }
def FnExactBoardTextCardSaid : Prop := Claim7.holds Tryd.pinned (.plain (OpenSpec.ofChange fnExactBoardTextSpec)) fnExactBoardTextCard

/-- THE TIED CARD OF 'laws.FnExactEndingText'. -/
def fnExactEndingTextCard : Claim7 := { stood := { row := fnExactEndingTextRow, standIns := [], harness := (true, "793dbec0b558cd5f75174878b6b13d225e7e80e28a171bc018bc305e283e995b"), looks := false }, kinds := [], alts := [], laidByText := true, laidKinds := [.data, .data, .data], laidTests := true, laidLooks := .later }
def FnExactEndingTextCardSaid : Prop := Claim7.holds Tryd.pinned (.plain (OpenSpec.ofChange fnExactEndingTextSpec)) fnExactEndingTextCard

/-- THE SECOND FORM's CARD OF 'laws.FnExactBoardText'. -/
def fnExactBoardTextUptoCard : Claim7 := { stood := { row := fnExactBoardTextUptoRow, standIns := [], harness := (true, "793dbec0b558cd5f75174878b6b13d225e7e80e28a171bc018bc305e283e995b"), looks := false }, kinds := [], alts := [], laidByText := true, laidKinds := [.data, .data, .data], laidTests := true, laidLooks := .later }
def FnExactBoardTextUptoCardSaid : Prop := Claim7.holds Tryd.pinned (.plain (OpenSpec.upto fnExactBoardTextSpec)) fnExactBoardTextUptoCard

/-- THE SECOND FORM's CARD OF 'laws.FnExactEndingText'. -/
def fnExactEndingTextUptoCard : Claim7 := { stood := { row := fnExactEndingTextUptoRow, standIns := [], harness := (true, "793dbec0b558cd5f75174878b6b13d225e7e80e28a171bc018bc305e283e995b"), looks := false }, kinds := [], alts := [], laidByText := true, laidKinds := [.data, .data, .data], laidTests := true, laidLooks := .later }
def FnExactEndingTextUptoCardSaid : Prop := Claim7.holds Tryd.pinned (.plain (OpenSpec.upto fnExactEndingTextSpec)) fnExactEndingTextUptoCard
end Rows
end Go.Proofs.YtlllkmobhjlmoabDoor
