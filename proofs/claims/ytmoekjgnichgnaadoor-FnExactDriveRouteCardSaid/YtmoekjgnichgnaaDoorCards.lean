/-
  DERIVED. GIVEN WITH THE SEED: THE CARDS: each row of YtmoekjgnichgnaaDoorRows.lean that lists a variable, with what it lists TIED to the program's text (the seventh form; the later family's looks); each row that meets fmt, with fmt's text TOLD by the authors' own Lean function (tested against real Go, not proved from fmt's source: count such statements apart). THE CARD IS WHAT COUNTS. Prove the row's statement (the work); the ties are given (YtmoekjgnichgnaaDoorTie.lean); close each card by the builder's one call (the guide's Derived/Test/ToyasCard.lean, 'card_holds'). Laid BY PROGRAM, IN A SANDBOX (cutbox-door.mjs). By AI agents, Wed Nov 11 2026. No macro, syntax, notation, axiom, sorry.
-/
import Derived.Test.YtmoekjgnichgnaaDoorRows
import GoSem.ClaimSeven
namespace Go.Proofs.YtmoekjgnichgnaaDoor
namespace Rows

/-- THE TIED CARD OF 'laws.FnExactIsTrack'. -/
def fnExactIsTrackCard : Claim7 := { stood := { row := fnExactIsTrackRow, standIns := [], harness := (true, "e9f566c1c7a2b05f40c90210dfa855379891da274bdd9bb64c568a952c7d1bc4"), looks := false }, kinds := [], alts := [], laidByText := true, laidKinds := [.data, .pinned], laidTests := true, laidLooks := .later }
def FnExactIsTrackCardSaid : Prop := Claim7.holds Tryd.pinned (.plain (OpenSpec.ofChange fnExactIsTrackSpec)) fnExactIsTrackCard

/-- THE TIED CARD OF 'laws.FnExactFirstCar'. -/
def fnExactFirstCarCard : Claim7 := { stood := { row := fnExactFirstCarRow, standIns := [], harness := (true, "e9f566c1c7a2b05f40c90210dfa855379891da274bdd9bb64c568a952c7d1bc4"), looks := false }, kinds := [], alts := [], laidByText := true, laidKinds := [.data, .pinned], laidTests := true, laidLooks := .later }
def FnExactFirstCarCardSaid : Prop := Claim7.holds Tryd.pinned (.plain (OpenSpec.ofChange fnExactFirstCarSpec)) fnExactFirstCarCard

/-- THE TIED CARD OF 'laws.FnExactCrossedSquares'. -/
def fnExactCrossedSquaresCard : Claim7 := { stood := { row := fnExactCrossedSquaresRow, standIns := [], harness := (true, "e9f566c1c7a2b05f40c90210dfa855379891da274bdd9bb64c568a952c7d1bc4"), looks := false }, kinds := [], alts := [], laidByText := true, laidKinds := [.data, .pinned], laidTests := true, laidLooks := .later }
def FnExactCrossedSquaresCardSaid : Prop := Claim7.holds Tryd.pinned (.plain (OpenSpec.ofChange fnExactCrossedSquaresSpec)) fnExactCrossedSquaresCard

/-- THE TIED CARD OF 'laws.FnExactOpenMoves'. -/
def fnExactOpenMovesCard : Claim7 := { stood := { row := fnExactOpenMovesRow, standIns := [], harness := (true, "e9f566c1c7a2b05f40c90210dfa855379891da274bdd9bb64c568a952c7d1bc4"), looks := false }, kinds := [], alts := [], laidByText := true, laidKinds := [.data, .pinned], laidTests := true, laidLooks := .later }
def FnExactOpenMovesCardSaid : Prop := Claim7.holds Tryd.pinned (.plain (OpenSpec.ofChange fnExactOpenMovesSpec)) fnExactOpenMovesCard

/-- THE TIED CARD OF 'laws.FnExactMoveCar'. -/
def fnExactMoveCarCard : Claim7 := { stood := { row := fnExactMoveCarRow, standIns := [], harness := (true, "e9f566c1c7a2b05f40c90210dfa855379891da274bdd9bb64c568a952c7d1bc4"), looks := false }, kinds := [], alts := [], laidByText := true, laidKinds := [.data, .pinned], laidTests := true, laidLooks := .later }
def FnExactMoveCarCardSaid : Prop := Claim7.holds Tryd.pinned (.plain (OpenSpec.ofChange fnExactMoveCarSpec)) fnExactMoveCarCard

/-- THE TIED CARD OF 'laws.FnExactCanStop'. -/
def fnExactCanStopCard : Claim7 := { stood := { row := fnExactCanStopRow, standIns := [], harness := (true, "e9f566c1c7a2b05f40c90210dfa855379891da274bdd9bb64c568a952c7d1bc4"), looks := false }, kinds := [], alts := [], laidByText := true, laidKinds := [.data, .pinned], laidTests := true, laidLooks := .later }
def FnExactCanStopCardSaid : Prop := Claim7.holds Tryd.pinned (.plain (OpenSpec.ofChange fnExactCanStopSpec)) fnExactCanStopCard

/-- THE TIED CARD OF 'laws.FnExactFewestToGoal'. -/
def fnExactFewestToGoalCard : Claim7 := { stood := { row := fnExactFewestToGoalRow, standIns := [], harness := (true, "e9f566c1c7a2b05f40c90210dfa855379891da274bdd9bb64c568a952c7d1bc4"), looks := false }, kinds := [], alts := [], laidByText := true, laidKinds := [.data, .pinned], laidTests := true, laidLooks := .later }
def FnExactFewestToGoalCardSaid : Prop := Claim7.holds Tryd.pinned (.plain (OpenSpec.ofChange fnExactFewestToGoalSpec)) fnExactFewestToGoalCard

/-- THE TIED CARD OF 'laws.FnExactFirstRoute'. -/
def fnExactFirstRouteCard : Claim7 := { stood := { row := fnExactFirstRouteRow, standIns := [], harness := (true, "e9f566c1c7a2b05f40c90210dfa855379891da274bdd9bb64c568a952c7d1bc4"), looks := false }, kinds := [], alts := [], laidByText := true, laidKinds := [.data, .pinned], laidTests := true, laidLooks := .later }
def FnExactFirstRouteCardSaid : Prop := Claim7.holds Tryd.pinned (.plain (OpenSpec.ofChange fnExactFirstRouteSpec)) fnExactFirstRouteCard

/-- THE TIED CARD OF 'laws.FnExactDriveRoute'. -/
def fnExactDriveRouteCard : Claim7 := { stood := { row := fnExactDriveRouteRow, standIns := [], harness := (true, "e9f566c1c7a2b05f40c90210dfa855379891da274bdd9bb64c568a952c7d1bc4"), looks := false }, kinds := [], alts := [], laidByText := true, laidKinds := [.data, .pinned], laidTests := true, laidLooks := .later }
def FnExactDriveRouteCardSaid : Prop := Claim7.holds Tryd.pinned (.plain (OpenSpec.ofChange fnExactDriveRouteSpec)) fnExactDriveRouteCard

/-- THE TIED CARD OF 'laws.FnExactSquaresReached'. -/
def fnExactSquaresReachedCard : Claim7 := { stood := { row := fnExactSquaresReachedRow, standIns := [], harness := (true, "e9f566c1c7a2b05f40c90210dfa855379891da274bdd9bb64c568a952c7d1bc4"), looks := false }, kinds := [], alts := [], laidByText := true, laidKinds := [.data, .pinned], laidTests := true, laidLooks := .later }
def FnExactSquaresReachedCardSaid : Prop := Claim7.holds Tryd.pinned (.plain (OpenSpec.ofChange fnExactSquaresReachedSpec)) fnExactSquaresReachedCard

/-- THE TIED CARD OF 'laws.FnExactCountRoutes'. -/
def fnExactCountRoutesCard : Claim7 := { stood := { row := fnExactCountRoutesRow, standIns := [], harness := (true, "e9f566c1c7a2b05f40c90210dfa855379891da274bdd9bb64c568a952c7d1bc4"), looks := false }, kinds := [], alts := [], laidByText := true, laidKinds := [.data, .pinned], laidTests := true, laidLooks := .later }
def FnExactCountRoutesCardSaid : Prop := Claim7.holds Tryd.pinned (.plain (OpenSpec.ofChange fnExactCountRoutesSpec)) fnExactCountRoutesCard

/-- THE TIED CARD OF 'laws.FnExactRaceWinner'. -/
def fnExactRaceWinnerCard : Claim7 := { stood := { row := fnExactRaceWinnerRow, standIns := [], harness := (true, "e9f566c1c7a2b05f40c90210dfa855379891da274bdd9bb64c568a952c7d1bc4"), looks := false }, kinds := [], alts := [], laidByText := true, laidKinds := [.data, .pinned], laidTests := true, laidLooks := .later }
def FnExactRaceWinnerCardSaid : Prop := Claim7.holds Tryd.pinned (.plain (OpenSpec.ofChange fnExactRaceWinnerSpec)) fnExactRaceWinnerCard

/-- THE SECOND FORM's CARD OF 'laws.FnExactIsTrack'. -/
def fnExactIsTrackUptoCard : Claim7 := { stood := { row := fnExactIsTrackUptoRow, standIns := [], harness := (true, "e9f566c1c7a2b05f40c90210dfa855379891da274bdd9bb64c568a952c7d1bc4"), looks := false }, kinds := [], alts := [], laidByText := true, laidKinds := [.data, .pinned], laidTests := true, laidLooks := .later }
def FnExactIsTrackUptoCardSaid : Prop := Claim7.holds Tryd.pinned (.plain (OpenSpec.upto fnExactIsTrackSpec)) fnExactIsTrackUptoCard

/-- THE SECOND FORM's CARD OF 'laws.FnExactFirstCar'. -/
def fnExactFirstCarUptoCard : Claim7 := { stood := { row := fnExactFirstCarUptoRow, standIns := [], harness := (true, "e9f566c1c7a2b05f40c90210dfa855379891da274bdd9bb64c568a952c7d1bc4"), looks := false }, kinds := [], alts := [], laidByText := true, laidKinds := [.data, .pinned], laidTests := true, laidLooks := .later }
def FnExactFirstCarUptoCardSaid : Prop := Claim7.holds Tryd.pinned (.plain (OpenSpec.upto fnExactFirstCarSpec)) fnExactFirstCarUptoCard

/-- THE SECOND FORM's CARD OF 'laws.FnExactCrossedSquares'. -/
def fnExactCrossedSquaresUptoCard : Claim7 := { stood := { row := fnExactCrossedSquaresUptoRow, standIns := [], harness := (true, "e9f566c1c7a2b05f40c90210dfa855379891da274bdd9bb64c568a952c7d1bc4"), looks := false }, kinds := [], alts := [], laidByText := true, laidKinds := [.data, .pinned], laidTests := true, laidLooks := .later }
def FnExactCrossedSquaresUptoCardSaid : Prop := Claim7.holds Tryd.pinned (.plain (OpenSpec.upto fnExactCrossedSquaresSpec)) fnExactCrossedSquaresUptoCard

/-- THE SECOND FORM's CARD OF 'laws.FnExactOpenMoves'. -/
def fnExactOpenMovesUptoCard : Claim7 := { stood := { row := fnExactOpenMovesUptoRow, standIns := [], harness := (true, "e9f566c1c7a2b05f40c90210dfa855379891da274bdd9bb64c568a952c7d1bc4"), looks := false }, kinds := [], alts := [], laidByText := true, laidKinds := [.data, .pinned], laidTests := true, laidLooks := .later }
def FnExactOpenMovesUptoCardSaid : Prop := Claim7.holds Tryd.pinned (.plain (OpenSpec.upto fnExactOpenMovesSpec)) fnExactOpenMovesUptoCard

/-- THE SECOND FORM's CARD OF 'laws.FnExactMoveCar'. -/
def fnExactMoveCarUptoCard : Claim7 := { stood := { row := fnExactMoveCarUptoRow, standIns := [], harness := (true, "e9f566c1c7a2b05f40c90210dfa855379891da274bdd9bb64c568a952c7d1bc4"), looks := false }, kinds := [], alts := [], laidByText := true, laidKinds := [.data, .pinned], laidTests := true, laidLooks := .later }
def FnExactMoveCarUptoCardSaid : Prop := Claim7.holds Tryd.pinned (.plain (OpenSpec.upto fnExactMoveCarSpec)) fnExactMoveCarUptoCard

/-- THE SECOND FORM's CARD OF 'laws.FnExactCanStop'. -/
def fnExactCanStopUptoCard : Claim7 := { stood := { row := fnExactCanStopUptoRow, standIns := [], harness := (true, "e9f566c1c7a2b05f40c90210dfa855379891da274bdd9bb64c568a952c7d1bc4"), looks := false }, kinds := [], alts := [], laidByText := true, laidKinds := [.data, .pinned], laidTests := true, laidLooks := .later }
def FnExactCanStopUptoCardSaid : Prop := Claim7.holds Tryd.pinned (.plain (OpenSpec.upto fnExactCanStopSpec)) fnExactCanStopUptoCard

/-- THE SECOND FORM's CARD OF 'laws.FnExactFewestToGoal'. -/
def fnExactFewestToGoalUptoCard : Claim7 := { stood := { row := fnExactFewestToGoalUptoRow, standIns := [], harness := (true, "e9f566c1c7a2b05f40c90210dfa855379891da274bdd9bb64c568a952c7d1bc4"), looks := false }, kinds := [], alts := [], laidByText := true, laidKinds := [.data, .pinned], laidTests := true, laidLooks := .later }
def FnExactFewestToGoalUptoCardSaid : Prop := Claim7.holds Tryd.pinned (.plain (OpenSpec.upto fnExactFewestToGoalSpec)) fnExactFewestToGoalUptoCard

/-- THE SECOND FORM's CARD OF 'laws.FnExactFirstRoute'. -/
def fnExactFirstRouteUptoCard : Claim7 := { stood := { row := fnExactFirstRouteUptoRow, standIns := [], harness := (true, "e9f566c1c7a2b05f40c90210dfa855379891da274bdd9bb64c568a952c7d1bc4"), looks := false }, kinds := [], alts := [], laidByText := true, laidKinds := [.data, .pinned], laidTests := true, laidLooks := .later }
def FnExactFirstRouteUptoCardSaid : Prop := Claim7.holds Tryd.pinned (.plain (OpenSpec.upto fnExactFirstRouteSpec)) fnExactFirstRouteUptoCard

/-- THE SECOND FORM's CARD OF 'laws.FnExactDriveRoute'. -/
def fnExactDriveRouteUptoCard : Claim7 := { stood := { row := fnExactDriveRouteUptoRow, standIns := [], harness := (true, "e9f566c1c7a2b05f40c90210dfa855379891da274bdd9bb64c568a952c7d1bc4"), looks := false }, kinds := [], alts := [], laidByText := true, laidKinds := [.data, .pinned], laidTests := true, laidLooks := .later }
def FnExactDriveRouteUptoCardSaid : Prop := Claim7.holds Tryd.pinned (.plain (OpenSpec.upto fnExactDriveRouteSpec)) fnExactDriveRouteUptoCard

/-- THE SECOND FORM's CARD OF 'laws.FnExactSquaresReached'. -/
def fnExactSquaresReachedUptoCard : Claim7 := { stood := { row := fnExactSquaresReachedUptoRow, standIns := [], harness := (true, "e9f566c1c7a2b05f40c90210dfa855379891da274bdd9bb64c568a952c7d1bc4"), looks := false }, kinds := [], alts := [], laidByText := true, laidKinds := [.data, .pinned], laidTests := true, laidLooks := .later }
def FnExactSquaresReachedUptoCardSaid : Prop := Claim7.holds Tryd.pinned (.plain (OpenSpec.upto fnExactSquaresReachedSpec)) fnExactSquaresReachedUptoCard

/-- THE SECOND FORM's CARD OF 'laws.FnExactCountRoutes'. -/
def fnExactCountRoutesUptoCard : Claim7 := { stood := { row := fnExactCountRoutesUptoRow, standIns := [], harness := (true, "e9f566c1c7a2b05f40c90210dfa855379891da274bdd9bb64c568a952c7d1bc4"), looks := false }, kinds := [], alts := [], laidByText := true, laidKinds := [.data, .pinned], laidTests := true, laidLooks := .later }
def FnExactCountRoutesUptoCardSaid : Prop := Claim7.holds Tryd.pinned (.plain (OpenSpec.upto fnExactCountRoutesSpec)) fnExactCountRoutesUptoCard

/-- THE SECOND FORM's CARD OF 'laws.FnExactRaceWinner'. -/
def fnExactRaceWinnerUptoCard : Claim7 := { stood := { row := fnExactRaceWinnerUptoRow, standIns := [], harness := (true, "e9f566c1c7a2b05f40c90210dfa855379891da274bdd9bb64c568a952c7d1bc4"), looks := false }, kinds := [], alts := [], laidByText := true, laidKinds := [.data, .pinned], laidTests := true, laidLooks := .later }
def FnExactRaceWinnerUptoCardSaid : Prop := Claim7.holds Tryd.pinned (.plain (OpenSpec.upto fnExactRaceWinnerSpec)) fnExactRaceWinnerUptoCard
end Rows
end Go.Proofs.YtmoekjgnichgnaaDoor
