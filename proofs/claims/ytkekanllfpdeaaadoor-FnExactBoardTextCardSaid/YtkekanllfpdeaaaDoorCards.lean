/-
  DERIVED. GIVEN WITH THE SEED: THE CARDS: each row of YtkekanllfpdeaaaDoorRows.lean that lists a variable, with what it lists TIED to the program's text (the seventh form; the later family's looks); each row that meets fmt, with fmt's text TOLD by the authors' own Lean function (tested against real Go, not proved from fmt's source: count such statements apart). THE CARD IS WHAT COUNTS. Prove the row's statement (the work); the ties are given (YtkekanllfpdeaaaDoorTie.lean); close each card by the builder's one call (the guide's Derived/Test/ToyasCard.lean, 'card_holds'). Laid BY PROGRAM, IN A SANDBOX (cutbox-door.mjs). By AI agents, Wed Nov 11 2026. No macro, syntax, notation, axiom, sorry.
-/
import Derived.Test.YtkekanllfpdeaaaDoorRows
import GoSem.ClaimSeven
namespace Go.Proofs.YtkekanllfpdeaaaDoor
namespace Rows

/-- THE TIED CARD OF 'laws.FnExactBoardText'. -/
def fnExactBoardTextCard : Claim7 := { stood := { row := fnExactBoardTextRow, standIns := [], harness := (true, "7e718e2539997ced1418140d630b12446b3475ee5171e51dde606b8c3058ced9"), looks := false }, kinds := [], alts := [], laidByText := true, laidKinds := [.data, .data, .data], laidTests := true, laidLooks := .later }
def FnExactBoardTextCardSaid : Prop := Claim7.holds Tryd.pinned (.plain (OpenSpec.ofChange fnExactBoardTextSpec)) fnExactBoardTextCard

/-- THE TIED CARD OF 'laws.FnExactMakerWins'. -/
def fnExactMakerWinsCard : Claim7 := { stood := { row := fnExactMakerWinsRow, standIns := [], harness := (true, "7e718e2539997ced1418140d630b12446b3475ee5171e51dde606b8c3058ced9"), looks := false }, kinds := [], alts := [], goes := true, laidByText := true, laidKinds := [.data], laidTests := true, laidLooks := .later }
def FnExactMakerWinsCardSaid : Prop := Claim7.holds Tryd.pinned (.plain (OpenSpec.ofChange fnExactMakerWinsSpec)) fnExactMakerWinsCard

/-- THE TIED CARD OF 'laws.FnExactRaceResult'. -/
def fnExactRaceResultCard : Claim7 := { stood := { row := fnExactRaceResultRow, standIns := [], harness := (true, "7e718e2539997ced1418140d630b12446b3475ee5171e51dde606b8c3058ced9"), looks := false }, kinds := [], alts := [], goes := true, laidByText := true, laidKinds := [.data], laidTests := true, laidLooks := .later }
def FnExactRaceResultCardSaid : Prop := Claim7.holds Tryd.pinned (.plain (OpenSpec.ofChange fnExactRaceResultSpec)) fnExactRaceResultCard

/-- THE TIED CARD OF 'laws.FnExactBestNodes'. -/
def fnExactBestNodesCard : Claim7 := { stood := { row := fnExactBestNodesRow, standIns := [], harness := (true, "7e718e2539997ced1418140d630b12446b3475ee5171e51dde606b8c3058ced9"), looks := false }, kinds := [], alts := [], goes := true, laidByText := true, laidKinds := [.data], laidTests := true, laidLooks := .later }
def FnExactBestNodesCardSaid : Prop := Claim7.holds Tryd.pinned (.plain (OpenSpec.ofChange fnExactBestNodesSpec)) fnExactBestNodesCard

/-- THE TIED CARD OF 'laws.FnExactPlayRace'. -/
def fnExactPlayRaceCard : Claim7 := { stood := { row := fnExactPlayRaceRow, standIns := [], harness := (true, "7e718e2539997ced1418140d630b12446b3475ee5171e51dde606b8c3058ced9"), looks := false }, kinds := [], alts := [], goes := true, laidByText := true, laidKinds := [.data], laidTests := true, laidLooks := .later }
def FnExactPlayRaceCardSaid : Prop := Claim7.holds Tryd.pinned (.plain (OpenSpec.ofChange fnExactPlayRaceSpec)) fnExactPlayRaceCard

/-- THE TIED CARD OF 'laws.FnExactFindPairing'. -/
def fnExactFindPairingCard : Claim7 := { stood := { row := fnExactFindPairingRow, standIns := [], harness := (true, "7e718e2539997ced1418140d630b12446b3475ee5171e51dde606b8c3058ced9"), looks := false }, kinds := [], alts := [], goes := true, laidByText := true, laidKinds := [.data], laidTests := true, laidLooks := .later }
def FnExactFindPairingCardSaid : Prop := Claim7.holds Tryd.pinned (.plain (OpenSpec.ofChange fnExactFindPairingSpec)) fnExactFindPairingCard

/-- THE TIED CARD OF 'laws.FnExactCellsOfFleet'. -/
def fnExactCellsOfFleetCard : Claim7 := { stood := { row := fnExactCellsOfFleetRow, standIns := [], harness := (true, "7e718e2539997ced1418140d630b12446b3475ee5171e51dde606b8c3058ced9"), looks := false }, kinds := [], alts := [], goes := true, laidByText := true, laidKinds := [.data], laidTests := true, laidLooks := .later }
def FnExactCellsOfFleetCardSaid : Prop := Claim7.holds Tryd.pinned (.plain (OpenSpec.ofChange fnExactCellsOfFleetSpec)) fnExactCellsOfFleetCard

/-- THE TIED CARD OF 'laws.FnExactFleetText'. -/
def fnExactFleetTextCard : Claim7 := { stood := { row := fnExactFleetTextRow, standIns := [], harness := (true, "7e718e2539997ced1418140d630b12446b3475ee5171e51dde606b8c3058ced9"), looks := false }, kinds := [], alts := [], goes := true, laidByText := true, laidKinds := [.data], laidTests := true, laidLooks := .later }
def FnExactFleetTextCardSaid : Prop := Claim7.holds Tryd.pinned (.plain (OpenSpec.ofChange fnExactFleetTextSpec)) fnExactFleetTextCard

/-- THE TIED CARD OF 'laws.FnExactStateOver'. -/
def fnExactStateOverCard : Claim7 := { stood := { row := fnExactStateOverRow, standIns := [], harness := (true, "7e718e2539997ced1418140d630b12446b3475ee5171e51dde606b8c3058ced9"), looks := false }, kinds := [], alts := [], goes := true, laidByText := true, laidKinds := [.data, .data, .pinned], laidTests := true, laidLooks := .later }
def FnExactStateOverCardSaid : Prop := Claim7.holds Tryd.pinned (.plain (OpenSpec.ofChange fnExactStateOverSpec)) fnExactStateOverCard

/-- THE TIED CARD OF 'laws.FnExactFirstDouble'. -/
def fnExactFirstDoubleCard : Claim7 := { stood := { row := fnExactFirstDoubleRow, standIns := [], harness := (true, "7e718e2539997ced1418140d630b12446b3475ee5171e51dde606b8c3058ced9"), looks := false }, kinds := [], alts := [], goes := true, laidByText := true, laidKinds := [.data], laidTests := true, laidLooks := .later }
def FnExactFirstDoubleCardSaid : Prop := Claim7.holds Tryd.pinned (.plain (OpenSpec.ofChange fnExactFirstDoubleSpec)) fnExactFirstDoubleCard

/-- THE TIED CARD OF 'laws.FnExactStateWinner'. -/
def fnExactStateWinnerCard : Claim7 := { stood := { row := fnExactStateWinnerRow, standIns := [], harness := (true, "7e718e2539997ced1418140d630b12446b3475ee5171e51dde606b8c3058ced9"), looks := false }, kinds := [], alts := [], goes := true, laidByText := true, laidKinds := [.data, .data, .pinned], laidTests := true, laidLooks := .later }
def FnExactStateWinnerCardSaid : Prop := Claim7.holds Tryd.pinned (.plain (OpenSpec.ofChange fnExactStateWinnerSpec)) fnExactStateWinnerCard

/-- THE SECOND FORM's CARD OF 'laws.FnExactBoardText'. -/
def fnExactBoardTextUptoCard : Claim7 := { stood := { row := fnExactBoardTextUptoRow, standIns := [], harness := (true, "7e718e2539997ced1418140d630b12446b3475ee5171e51dde606b8c3058ced9"), looks := false }, kinds := [], alts := [], laidByText := true, laidKinds := [.data, .data, .data], laidTests := true, laidLooks := .later }
def FnExactBoardTextUptoCardSaid : Prop := Claim7.holds Tryd.pinned (.plain (OpenSpec.upto fnExactBoardTextSpec)) fnExactBoardTextUptoCard

/-- THE SECOND FORM's CARD OF 'laws.FnExactMakerWins'. -/
def fnExactMakerWinsUptoCard : Claim7 := { stood := { row := fnExactMakerWinsUptoRow, standIns := [], harness := (true, "7e718e2539997ced1418140d630b12446b3475ee5171e51dde606b8c3058ced9"), looks := false }, kinds := [], alts := [], goes := true, laidByText := true, laidKinds := [.data], laidTests := true, laidLooks := .later }
def FnExactMakerWinsUptoCardSaid : Prop := Claim7.holds Tryd.pinned (.plain (OpenSpec.upto fnExactMakerWinsSpec)) fnExactMakerWinsUptoCard

/-- THE SECOND FORM's CARD OF 'laws.FnExactRaceResult'. -/
def fnExactRaceResultUptoCard : Claim7 := { stood := { row := fnExactRaceResultUptoRow, standIns := [], harness := (true, "7e718e2539997ced1418140d630b12446b3475ee5171e51dde606b8c3058ced9"), looks := false }, kinds := [], alts := [], goes := true, laidByText := true, laidKinds := [.data], laidTests := true, laidLooks := .later }
def FnExactRaceResultUptoCardSaid : Prop := Claim7.holds Tryd.pinned (.plain (OpenSpec.upto fnExactRaceResultSpec)) fnExactRaceResultUptoCard

/-- THE SECOND FORM's CARD OF 'laws.FnExactBestNodes'. -/
def fnExactBestNodesUptoCard : Claim7 := { stood := { row := fnExactBestNodesUptoRow, standIns := [], harness := (true, "7e718e2539997ced1418140d630b12446b3475ee5171e51dde606b8c3058ced9"), looks := false }, kinds := [], alts := [], goes := true, laidByText := true, laidKinds := [.data], laidTests := true, laidLooks := .later }
def FnExactBestNodesUptoCardSaid : Prop := Claim7.holds Tryd.pinned (.plain (OpenSpec.upto fnExactBestNodesSpec)) fnExactBestNodesUptoCard

/-- THE SECOND FORM's CARD OF 'laws.FnExactPlayRace'. -/
def fnExactPlayRaceUptoCard : Claim7 := { stood := { row := fnExactPlayRaceUptoRow, standIns := [], harness := (true, "7e718e2539997ced1418140d630b12446b3475ee5171e51dde606b8c3058ced9"), looks := false }, kinds := [], alts := [], goes := true, laidByText := true, laidKinds := [.data], laidTests := true, laidLooks := .later }
def FnExactPlayRaceUptoCardSaid : Prop := Claim7.holds Tryd.pinned (.plain (OpenSpec.upto fnExactPlayRaceSpec)) fnExactPlayRaceUptoCard

/-- THE SECOND FORM's CARD OF 'laws.FnExactFindPairing'. -/
def fnExactFindPairingUptoCard : Claim7 := { stood := { row := fnExactFindPairingUptoRow, standIns := [], harness := (true, "7e718e2539997ced1418140d630b12446b3475ee5171e51dde606b8c3058ced9"), looks := false }, kinds := [], alts := [], goes := true, laidByText := true, laidKinds := [.data], laidTests := true, laidLooks := .later }
def FnExactFindPairingUptoCardSaid : Prop := Claim7.holds Tryd.pinned (.plain (OpenSpec.upto fnExactFindPairingSpec)) fnExactFindPairingUptoCard

/-- THE SECOND FORM's CARD OF 'laws.FnExactCellsOfFleet'. -/
def fnExactCellsOfFleetUptoCard : Claim7 := { stood := { row := fnExactCellsOfFleetUptoRow, standIns := [], harness := (true, "7e718e2539997ced1418140d630b12446b3475ee5171e51dde606b8c3058ced9"), looks := false }, kinds := [], alts := [], goes := true, laidByText := true, laidKinds := [.data], laidTests := true, laidLooks := .later }
def FnExactCellsOfFleetUptoCardSaid : Prop := Claim7.holds Tryd.pinned (.plain (OpenSpec.upto fnExactCellsOfFleetSpec)) fnExactCellsOfFleetUptoCard

/-- THE SECOND FORM's CARD OF 'laws.FnExactFleetText'. -/
def fnExactFleetTextUptoCard : Claim7 := { stood := { row := fnExactFleetTextUptoRow, standIns := [], harness := (true, "7e718e2539997ced1418140d630b12446b3475ee5171e51dde606b8c3058ced9"), looks := false }, kinds := [], alts := [], goes := true, laidByText := true, laidKinds := [.data], laidTests := true, laidLooks := .later }
def FnExactFleetTextUptoCardSaid : Prop := Claim7.holds Tryd.pinned (.plain (OpenSpec.upto fnExactFleetTextSpec)) fnExactFleetTextUptoCard

/-- THE SECOND FORM's CARD OF 'laws.FnExactStateOver'. -/
def fnExactStateOverUptoCard : Claim7 := { stood := { row := fnExactStateOverUptoRow, standIns := [], harness := (true, "7e718e2539997ced1418140d630b12446b3475ee5171e51dde606b8c3058ced9"), looks := false }, kinds := [], alts := [], goes := true, laidByText := true, laidKinds := [.data, .data, .pinned], laidTests := true, laidLooks := .later }
def FnExactStateOverUptoCardSaid : Prop := Claim7.holds Tryd.pinned (.plain (OpenSpec.upto fnExactStateOverSpec)) fnExactStateOverUptoCard

/-- THE SECOND FORM's CARD OF 'laws.FnExactFirstDouble'. -/
def fnExactFirstDoubleUptoCard : Claim7 := { stood := { row := fnExactFirstDoubleUptoRow, standIns := [], harness := (true, "7e718e2539997ced1418140d630b12446b3475ee5171e51dde606b8c3058ced9"), looks := false }, kinds := [], alts := [], goes := true, laidByText := true, laidKinds := [.data], laidTests := true, laidLooks := .later }
def FnExactFirstDoubleUptoCardSaid : Prop := Claim7.holds Tryd.pinned (.plain (OpenSpec.upto fnExactFirstDoubleSpec)) fnExactFirstDoubleUptoCard

/-- THE SECOND FORM's CARD OF 'laws.FnExactStateWinner'. -/
def fnExactStateWinnerUptoCard : Claim7 := { stood := { row := fnExactStateWinnerUptoRow, standIns := [], harness := (true, "7e718e2539997ced1418140d630b12446b3475ee5171e51dde606b8c3058ced9"), looks := false }, kinds := [], alts := [], goes := true, laidByText := true, laidKinds := [.data, .data, .pinned], laidTests := true, laidLooks := .later }
def FnExactStateWinnerUptoCardSaid : Prop := Claim7.holds Tryd.pinned (.plain (OpenSpec.upto fnExactStateWinnerSpec)) fnExactStateWinnerUptoCard
end Rows
end Go.Proofs.YtkekanllfpdeaaaDoor
