/-
  NARROWER THAN 'FOR EVERY INPUT', by the rows' own cells (each row's printed sentence says how): FnExactIsTrack: laid · FnExactFirstCar: laid · FnExactCrossedSquares: laid · FnExactOpenMoves: laid · FnExactMoveCar: laid · FnExactCanStop: laid · FnExactFewestToGoal: laid · FnExactFirstRoute: laid · FnExactDriveRoute: laid · FnExactSquaresReached: laid · FnExactCountRoutes: laid · FnExactRaceWinner: laid.
  DERIVED. THE GIVEN ROWS OF THIS SEAT. 12 by the template 'for every input the law returns true; each argument reads behind the call as it read before'; 0 by the template 'total and deterministic' (their statements: YtmoekjgnichgnaaDoorTotals.lean).
  GIVEN WITH THE SEED: the statements are not yours to turn. If you find one false, say at which input.
  Laid BY PROGRAM, IN A SANDBOX (cutbox-rows.mjs): the forced cells as the released guide's own fill.sh prints them over the translation bc2cdeabd0053894… (all of the seat's roots in one cut). By AI agents, Wed Nov 11 2026. No macro, syntax, notation, axiom, sorry.
-/
import Derived.Test.YtmoekjgnichgnaaDoorChecked
import GoSem.PinnedTables
import GoSem.Claim
import GoSem.ClaimJoined
import GoSem.ClaimMapViews
import Derived.JoinedTies
import Derived.KernelRfl
namespace Go.Proofs.YtmoekjgnichgnaaDoor
/- THE CELL 'sum', in the pinned program and in every row, IS THE sha256 OF THE DUMP (.gsa) THAT YtmoekjgnichgnaaDoorProg.lean LOADS. Nothing in Lean hashes anything: it is a label: what it is worth is what the hold of that sum in a sandbox is worth. -/
noncomputable def Tryd.pinned : Pinned := { name := "ytmoekjgnichgnaadoor", sum := "bc2cdeabd0053894bf2cbe8ef41cacaa1745c1f55b012db2fcc9c3662ca53446", checked := Tryd.checked }
namespace Rows
def none {H : Type} : Left H := { results := [], args := [] }

/- WHAT THE LISTED PACKAGE-LEVEL VARIABLES READ AS WHEN THE CALL BEGINS. Each datum BY PROGRAM (the guide's laid-datum.mjs) off the statement by which the dump's own 'gosem.cut.vars' lays the variable. In a bare row this is a premise. The card (YtmoekjgnichgnaaDoorCards.lean) ties it to the program's text. -/
def laid_unicode_utf8_acceptRanges {H : Type} : DataW H := .agg [.agg [.lit (.int .u8 128), .lit (.int .u8 191)], .agg [.lit (.int .u8 160), .lit (.int .u8 191)], .agg [.lit (.int .u8 128), .lit (.int .u8 159)], .agg [.lit (.int .u8 144), .lit (.int .u8 191)], .agg [.lit (.int .u8 128), .lit (.int .u8 143)], .agg [.lit (.int .u8 0), .lit (.int .u8 0)], .agg [.lit (.int .u8 0), .lit (.int .u8 0)], .agg [.lit (.int .u8 0), .lit (.int .u8 0)], .agg [.lit (.int .u8 0), .lit (.int .u8 0)], .agg [.lit (.int .u8 0), .lit (.int .u8 0)], .agg [.lit (.int .u8 0), .lit (.int .u8 0)], .agg [.lit (.int .u8 0), .lit (.int .u8 0)], .agg [.lit (.int .u8 0), .lit (.int .u8 0)], .agg [.lit (.int .u8 0), .lit (.int .u8 0)], .agg [.lit (.int .u8 0), .lit (.int .u8 0)], .agg [.lit (.int .u8 0), .lit (.int .u8 0)]]
/-- One of Go's own tables, pinned by name: the form's constant. -/
def laid_unicode_utf8_first : DataW Unit := Go.Pinned.utf8First

/-- 'laws.FnExactIsTrack': WHATEVER THE INPUT: true; the input reads as it did. -/
def fnExactIsTrackSpec : ChangeSpec := { name := "fnExactIsTrack", fn := fun _ => fun
  | [d] => { results := [.lit (.bool true)], args := [d] }
  | _ => none }
def fnExactIsTrackRow : OpenClaim := { program := "ytmoekjgnichgnaadoor", sum := "bc2cdeabd0053894bf2cbe8ef41cacaa1745c1f55b012db2fcc9c3662ca53446", func := "loop.example/g01388/laws.FnExactIsTrack", spec := "fnExactIsTrack", inPlace := ["internal/abi.NoEscape", "internal/bytealg.MakeNoZero", "internal/bytealg.IndexByteString", "internal/bytealg.IndexString", "internal/bytealg.CountString"], named := ["unicode/utf8.first", "unicode/utf8.acceptRanges", "internal/bytealg.MaxLen"], plainKeys := false, apart := false, laid := [("unicode/utf8.acceptRanges", laid_unicode_utf8_acceptRanges), ("unicode/utf8.first", laid_unicode_utf8_first)] }
def FnExactIsTrackSaid : Prop := fnExactIsTrackRow.holds Tryd.pinned (OpenSpec.ofChange fnExactIsTrackSpec)

/-- ITS FALSE NEIGHBOUR: 'it returns false'. Refute it at one input. -/
def fnExactIsTrackWrong : ChangeSpec := { name := "fnExactIsTrack", fn := fun _ => fun
  | [d] => { results := [.lit (.bool false)], args := [d] }
  | _ => none }
def FnExactIsTrackWrongFalsely : Prop := fnExactIsTrackRow.holds Tryd.pinned (OpenSpec.ofChange fnExactIsTrackWrong)

/-- 'laws.FnExactFirstCar': WHATEVER THE INPUT: true; the input reads as it did. -/
def fnExactFirstCarSpec : ChangeSpec := { name := "fnExactFirstCar", fn := fun _ => fun
  | [d] => { results := [.lit (.bool true)], args := [d] }
  | _ => none }
def fnExactFirstCarRow : OpenClaim := { program := "ytmoekjgnichgnaadoor", sum := "bc2cdeabd0053894bf2cbe8ef41cacaa1745c1f55b012db2fcc9c3662ca53446", func := "loop.example/g01388/laws.FnExactFirstCar", spec := "fnExactFirstCar", inPlace := ["internal/abi.NoEscape", "internal/bytealg.MakeNoZero", "internal/bytealg.IndexByteString", "internal/bytealg.IndexString", "internal/bytealg.CountString"], unfollowed := true, recurses := true, named := ["unicode/utf8.first", "unicode/utf8.acceptRanges", "internal/bytealg.MaxLen"], plainKeys := false, apart := false, laid := [("unicode/utf8.acceptRanges", laid_unicode_utf8_acceptRanges), ("unicode/utf8.first", laid_unicode_utf8_first)] }
def FnExactFirstCarSaid : Prop := fnExactFirstCarRow.holds Tryd.pinned (OpenSpec.ofChange fnExactFirstCarSpec)

/-- ITS FALSE NEIGHBOUR: 'it returns false'. Refute it at one input. -/
def fnExactFirstCarWrong : ChangeSpec := { name := "fnExactFirstCar", fn := fun _ => fun
  | [d] => { results := [.lit (.bool false)], args := [d] }
  | _ => none }
def FnExactFirstCarWrongFalsely : Prop := fnExactFirstCarRow.holds Tryd.pinned (OpenSpec.ofChange fnExactFirstCarWrong)

/-- 'laws.FnExactCrossedSquares': WHATEVER THE INPUT: true; the input reads as it did. -/
def fnExactCrossedSquaresSpec : ChangeSpec := { name := "fnExactCrossedSquares", fn := fun _ => fun
  | [d1, d2, d3] => { results := [.lit (.bool true)], args := [d1, d2, d3] }
  | _ => none }
def fnExactCrossedSquaresRow : OpenClaim := { program := "ytmoekjgnichgnaadoor", sum := "bc2cdeabd0053894bf2cbe8ef41cacaa1745c1f55b012db2fcc9c3662ca53446", func := "loop.example/g01388/laws.FnExactCrossedSquares", spec := "fnExactCrossedSquares", inPlace := ["internal/abi.NoEscape", "internal/bytealg.MakeNoZero", "internal/bytealg.IndexByteString", "internal/bytealg.IndexString", "internal/bytealg.CountString"], unfollowed := true, recurses := true, named := ["unicode/utf8.first", "unicode/utf8.acceptRanges", "internal/bytealg.MaxLen"], plainKeys := false, apart := false, laid := [("unicode/utf8.acceptRanges", laid_unicode_utf8_acceptRanges), ("unicode/utf8.first", laid_unicode_utf8_first)] }
def FnExactCrossedSquaresSaid : Prop := fnExactCrossedSquaresRow.holds Tryd.pinned (OpenSpec.ofChange fnExactCrossedSquaresSpec)

/-- ITS FALSE NEIGHBOUR: 'it returns false'. Refute it at one input. -/
def fnExactCrossedSquaresWrong : ChangeSpec := { name := "fnExactCrossedSquares", fn := fun _ => fun
  | [d1, d2, d3] => { results := [.lit (.bool false)], args := [d1, d2, d3] }
  | _ => none }
def FnExactCrossedSquaresWrongFalsely : Prop := fnExactCrossedSquaresRow.holds Tryd.pinned (OpenSpec.ofChange fnExactCrossedSquaresWrong)

/-- 'laws.FnExactOpenMoves': WHATEVER THE INPUT: true; the input reads as it did. -/
def fnExactOpenMovesSpec : ChangeSpec := { name := "fnExactOpenMoves", fn := fun _ => fun
  | [d1, d2] => { results := [.lit (.bool true)], args := [d1, d2] }
  | _ => none }
def fnExactOpenMovesRow : OpenClaim := { program := "ytmoekjgnichgnaadoor", sum := "bc2cdeabd0053894bf2cbe8ef41cacaa1745c1f55b012db2fcc9c3662ca53446", func := "loop.example/g01388/laws.FnExactOpenMoves", spec := "fnExactOpenMoves", inPlace := ["internal/abi.NoEscape", "internal/bytealg.MakeNoZero", "internal/bytealg.IndexByteString", "internal/bytealg.IndexString", "internal/bytealg.CountString"], unfollowed := true, recurses := true, named := ["unicode/utf8.first", "unicode/utf8.acceptRanges", "internal/bytealg.MaxLen"], plainKeys := false, apart := false, laid := [("unicode/utf8.acceptRanges", laid_unicode_utf8_acceptRanges), ("unicode/utf8.first", laid_unicode_utf8_first)] }
def FnExactOpenMovesSaid : Prop := fnExactOpenMovesRow.holds Tryd.pinned (OpenSpec.ofChange fnExactOpenMovesSpec)

/-- ITS FALSE NEIGHBOUR: 'it returns false'. Refute it at one input. -/
def fnExactOpenMovesWrong : ChangeSpec := { name := "fnExactOpenMoves", fn := fun _ => fun
  | [d1, d2] => { results := [.lit (.bool false)], args := [d1, d2] }
  | _ => none }
def FnExactOpenMovesWrongFalsely : Prop := fnExactOpenMovesRow.holds Tryd.pinned (OpenSpec.ofChange fnExactOpenMovesWrong)

/-- 'laws.FnExactMoveCar': WHATEVER THE INPUT: true; the input reads as it did. -/
def fnExactMoveCarSpec : ChangeSpec := { name := "fnExactMoveCar", fn := fun _ => fun
  | [d1, d2, d3] => { results := [.lit (.bool true)], args := [d1, d2, d3] }
  | _ => none }
def fnExactMoveCarRow : OpenClaim := { program := "ytmoekjgnichgnaadoor", sum := "bc2cdeabd0053894bf2cbe8ef41cacaa1745c1f55b012db2fcc9c3662ca53446", func := "loop.example/g01388/laws.FnExactMoveCar", spec := "fnExactMoveCar", inPlace := ["internal/abi.NoEscape", "internal/bytealg.MakeNoZero", "internal/bytealg.IndexByteString", "internal/bytealg.IndexString", "internal/bytealg.CountString"], unfollowed := true, recurses := true, named := ["unicode/utf8.first", "unicode/utf8.acceptRanges", "internal/bytealg.MaxLen"], plainKeys := false, apart := false, laid := [("unicode/utf8.acceptRanges", laid_unicode_utf8_acceptRanges), ("unicode/utf8.first", laid_unicode_utf8_first)] }
def FnExactMoveCarSaid : Prop := fnExactMoveCarRow.holds Tryd.pinned (OpenSpec.ofChange fnExactMoveCarSpec)

/-- ITS FALSE NEIGHBOUR: 'it returns false'. Refute it at one input. -/
def fnExactMoveCarWrong : ChangeSpec := { name := "fnExactMoveCar", fn := fun _ => fun
  | [d1, d2, d3] => { results := [.lit (.bool false)], args := [d1, d2, d3] }
  | _ => none }
def FnExactMoveCarWrongFalsely : Prop := fnExactMoveCarRow.holds Tryd.pinned (OpenSpec.ofChange fnExactMoveCarWrong)

/-- 'laws.FnExactCanStop': WHATEVER THE INPUT: true; the input reads as it did. -/
def fnExactCanStopSpec : ChangeSpec := { name := "fnExactCanStop", fn := fun _ => fun
  | [d1, d2] => { results := [.lit (.bool true)], args := [d1, d2] }
  | _ => none }
def fnExactCanStopRow : OpenClaim := { program := "ytmoekjgnichgnaadoor", sum := "bc2cdeabd0053894bf2cbe8ef41cacaa1745c1f55b012db2fcc9c3662ca53446", func := "loop.example/g01388/laws.FnExactCanStop", spec := "fnExactCanStop", inPlace := ["internal/abi.NoEscape", "internal/bytealg.MakeNoZero", "internal/bytealg.IndexByteString", "internal/bytealg.IndexString", "internal/bytealg.CountString"], unfollowed := true, recurses := true, named := ["unicode/utf8.first", "unicode/utf8.acceptRanges", "internal/bytealg.MaxLen"], plainKeys := false, apart := false, laid := [("unicode/utf8.acceptRanges", laid_unicode_utf8_acceptRanges), ("unicode/utf8.first", laid_unicode_utf8_first)] }
def FnExactCanStopSaid : Prop := fnExactCanStopRow.holds Tryd.pinned (OpenSpec.ofChange fnExactCanStopSpec)

/-- ITS FALSE NEIGHBOUR: 'it returns false'. Refute it at one input. -/
def fnExactCanStopWrong : ChangeSpec := { name := "fnExactCanStop", fn := fun _ => fun
  | [d1, d2] => { results := [.lit (.bool false)], args := [d1, d2] }
  | _ => none }
def FnExactCanStopWrongFalsely : Prop := fnExactCanStopRow.holds Tryd.pinned (OpenSpec.ofChange fnExactCanStopWrong)

/-- 'laws.FnExactFewestToGoal': WHATEVER THE INPUT: true; the input reads as it did. -/
def fnExactFewestToGoalSpec : ChangeSpec := { name := "fnExactFewestToGoal", fn := fun _ => fun
  | [d] => { results := [.lit (.bool true)], args := [d] }
  | _ => none }
def fnExactFewestToGoalRow : OpenClaim := { program := "ytmoekjgnichgnaadoor", sum := "bc2cdeabd0053894bf2cbe8ef41cacaa1745c1f55b012db2fcc9c3662ca53446", func := "loop.example/g01388/laws.FnExactFewestToGoal", spec := "fnExactFewestToGoal", inPlace := ["internal/abi.NoEscape", "internal/bytealg.MakeNoZero", "internal/bytealg.IndexByteString", "internal/bytealg.IndexString", "internal/bytealg.CountString"], unfollowed := true, recurses := true, named := ["unicode/utf8.first", "unicode/utf8.acceptRanges", "internal/bytealg.MaxLen"], plainKeys := false, apart := false, laid := [("unicode/utf8.acceptRanges", laid_unicode_utf8_acceptRanges), ("unicode/utf8.first", laid_unicode_utf8_first)] }
def FnExactFewestToGoalSaid : Prop := fnExactFewestToGoalRow.holds Tryd.pinned (OpenSpec.ofChange fnExactFewestToGoalSpec)

/-- ITS FALSE NEIGHBOUR: 'it returns false'. Refute it at one input. -/
def fnExactFewestToGoalWrong : ChangeSpec := { name := "fnExactFewestToGoal", fn := fun _ => fun
  | [d] => { results := [.lit (.bool false)], args := [d] }
  | _ => none }
def FnExactFewestToGoalWrongFalsely : Prop := fnExactFewestToGoalRow.holds Tryd.pinned (OpenSpec.ofChange fnExactFewestToGoalWrong)

/-- 'laws.FnExactFirstRoute': WHATEVER THE INPUT: true; the input reads as it did. -/
def fnExactFirstRouteSpec : ChangeSpec := { name := "fnExactFirstRoute", fn := fun _ => fun
  | [d] => { results := [.lit (.bool true)], args := [d] }
  | _ => none }
def fnExactFirstRouteRow : OpenClaim := { program := "ytmoekjgnichgnaadoor", sum := "bc2cdeabd0053894bf2cbe8ef41cacaa1745c1f55b012db2fcc9c3662ca53446", func := "loop.example/g01388/laws.FnExactFirstRoute", spec := "fnExactFirstRoute", inPlace := ["internal/abi.NoEscape", "internal/bytealg.MakeNoZero", "internal/bytealg.IndexByteString", "internal/bytealg.IndexString", "internal/bytealg.CountString"], unfollowed := true, recurses := true, named := ["unicode/utf8.first", "unicode/utf8.acceptRanges", "internal/bytealg.MaxLen"], plainKeys := false, apart := false, laid := [("unicode/utf8.acceptRanges", laid_unicode_utf8_acceptRanges), ("unicode/utf8.first", laid_unicode_utf8_first)] }
def FnExactFirstRouteSaid : Prop := fnExactFirstRouteRow.holds Tryd.pinned (OpenSpec.ofChange fnExactFirstRouteSpec)

/-- ITS FALSE NEIGHBOUR: 'it returns false'. Refute it at one input. -/
def fnExactFirstRouteWrong : ChangeSpec := { name := "fnExactFirstRoute", fn := fun _ => fun
  | [d] => { results := [.lit (.bool false)], args := [d] }
  | _ => none }
def FnExactFirstRouteWrongFalsely : Prop := fnExactFirstRouteRow.holds Tryd.pinned (OpenSpec.ofChange fnExactFirstRouteWrong)

/-- 'laws.FnExactDriveRoute': WHATEVER THE INPUT: true; the input reads as it did. -/
def fnExactDriveRouteSpec : ChangeSpec := { name := "fnExactDriveRoute", fn := fun _ => fun
  | [d1, d2] => { results := [.lit (.bool true)], args := [d1, d2] }
  | _ => none }
def fnExactDriveRouteRow : OpenClaim := { program := "ytmoekjgnichgnaadoor", sum := "bc2cdeabd0053894bf2cbe8ef41cacaa1745c1f55b012db2fcc9c3662ca53446", func := "loop.example/g01388/laws.FnExactDriveRoute", spec := "fnExactDriveRoute", inPlace := ["internal/abi.NoEscape", "internal/bytealg.MakeNoZero", "internal/bytealg.IndexByteString", "internal/bytealg.IndexString", "internal/bytealg.CountString"], unfollowed := true, recurses := true, named := ["unicode/utf8.first", "unicode/utf8.acceptRanges", "internal/bytealg.MaxLen"], plainKeys := false, apart := false, laid := [("unicode/utf8.acceptRanges", laid_unicode_utf8_acceptRanges), ("unicode/utf8.first", laid_unicode_utf8_first)] }
def FnExactDriveRouteSaid : Prop := fnExactDriveRouteRow.holds Tryd.pinned (OpenSpec.ofChange fnExactDriveRouteSpec)

/-- ITS FALSE NEIGHBOUR: 'it returns false'. Refute it at one input. -/
def fnExactDriveRouteWrong : ChangeSpec := { name := "fnExactDriveRoute", fn := fun _ => fun
  | [d1, d2] => { results := [.lit (.bool false)], args := [d1, d2] }
  | _ => none }
def FnExactDriveRouteWrongFalsely : Prop := fnExactDriveRouteRow.holds Tryd.pinned (OpenSpec.ofChange fnExactDriveRouteWrong)

/-- 'laws.FnExactSquaresReached': WHATEVER THE INPUT: true; the input reads as it did. -/
def fnExactSquaresReachedSpec : ChangeSpec := { name := "fnExactSquaresReached", fn := fun _ => fun
  | [d1, d2] => { results := [.lit (.bool true)], args := [d1, d2] }
  | _ => none }
def fnExactSquaresReachedRow : OpenClaim := { program := "ytmoekjgnichgnaadoor", sum := "bc2cdeabd0053894bf2cbe8ef41cacaa1745c1f55b012db2fcc9c3662ca53446", func := "loop.example/g01388/laws.FnExactSquaresReached", spec := "fnExactSquaresReached", inPlace := ["internal/abi.NoEscape", "internal/bytealg.MakeNoZero", "internal/bytealg.IndexByteString", "internal/bytealg.IndexString", "internal/bytealg.CountString"], unfollowed := true, recurses := true, named := ["unicode/utf8.first", "unicode/utf8.acceptRanges", "internal/bytealg.MaxLen"], plainKeys := false, apart := false, laid := [("unicode/utf8.acceptRanges", laid_unicode_utf8_acceptRanges), ("unicode/utf8.first", laid_unicode_utf8_first)] }
def FnExactSquaresReachedSaid : Prop := fnExactSquaresReachedRow.holds Tryd.pinned (OpenSpec.ofChange fnExactSquaresReachedSpec)

/-- ITS FALSE NEIGHBOUR: 'it returns false'. Refute it at one input. -/
def fnExactSquaresReachedWrong : ChangeSpec := { name := "fnExactSquaresReached", fn := fun _ => fun
  | [d1, d2] => { results := [.lit (.bool false)], args := [d1, d2] }
  | _ => none }
def FnExactSquaresReachedWrongFalsely : Prop := fnExactSquaresReachedRow.holds Tryd.pinned (OpenSpec.ofChange fnExactSquaresReachedWrong)

/-- 'laws.FnExactCountRoutes': WHATEVER THE INPUT: true; the input reads as it did. -/
def fnExactCountRoutesSpec : ChangeSpec := { name := "fnExactCountRoutes", fn := fun _ => fun
  | [d1, d2] => { results := [.lit (.bool true)], args := [d1, d2] }
  | _ => none }
def fnExactCountRoutesRow : OpenClaim := { program := "ytmoekjgnichgnaadoor", sum := "bc2cdeabd0053894bf2cbe8ef41cacaa1745c1f55b012db2fcc9c3662ca53446", func := "loop.example/g01388/laws.FnExactCountRoutes", spec := "fnExactCountRoutes", inPlace := ["internal/abi.NoEscape", "internal/bytealg.MakeNoZero", "internal/bytealg.IndexByteString", "internal/bytealg.IndexString", "internal/bytealg.CountString"], unfollowed := true, recurses := true, named := ["unicode/utf8.first", "unicode/utf8.acceptRanges", "internal/bytealg.MaxLen"], plainKeys := false, apart := false, laid := [("unicode/utf8.acceptRanges", laid_unicode_utf8_acceptRanges), ("unicode/utf8.first", laid_unicode_utf8_first)] }
def FnExactCountRoutesSaid : Prop := fnExactCountRoutesRow.holds Tryd.pinned (OpenSpec.ofChange fnExactCountRoutesSpec)

/-- ITS FALSE NEIGHBOUR: 'it returns false'. Refute it at one input. -/
def fnExactCountRoutesWrong : ChangeSpec := { name := "fnExactCountRoutes", fn := fun _ => fun
  | [d1, d2] => { results := [.lit (.bool false)], args := [d1, d2] }
  | _ => none }
def FnExactCountRoutesWrongFalsely : Prop := fnExactCountRoutesRow.holds Tryd.pinned (OpenSpec.ofChange fnExactCountRoutesWrong)

/-- 'laws.FnExactRaceWinner': WHATEVER THE INPUT: true; the input reads as it did. -/
def fnExactRaceWinnerSpec : ChangeSpec := { name := "fnExactRaceWinner", fn := fun _ => fun
  | [d1, d2, d3] => { results := [.lit (.bool true)], args := [d1, d2, d3] }
  | _ => none }
def fnExactRaceWinnerRow : OpenClaim := { program := "ytmoekjgnichgnaadoor", sum := "bc2cdeabd0053894bf2cbe8ef41cacaa1745c1f55b012db2fcc9c3662ca53446", func := "loop.example/g01388/laws.FnExactRaceWinner", spec := "fnExactRaceWinner", inPlace := ["internal/abi.NoEscape", "internal/bytealg.MakeNoZero", "internal/bytealg.IndexByteString", "internal/bytealg.IndexString", "internal/bytealg.CountString"], unfollowed := true, recurses := true, named := ["unicode/utf8.first", "unicode/utf8.acceptRanges", "internal/bytealg.MaxLen"], plainKeys := false, apart := false, laid := [("unicode/utf8.acceptRanges", laid_unicode_utf8_acceptRanges), ("unicode/utf8.first", laid_unicode_utf8_first)] }
def FnExactRaceWinnerSaid : Prop := fnExactRaceWinnerRow.holds Tryd.pinned (OpenSpec.ofChange fnExactRaceWinnerSpec)

/-- ITS FALSE NEIGHBOUR: 'it returns false'. Refute it at one input. -/
def fnExactRaceWinnerWrong : ChangeSpec := { name := "fnExactRaceWinner", fn := fun _ => fun
  | [d1, d2, d3] => { results := [.lit (.bool false)], args := [d1, d2, d3] }
  | _ => none }
def FnExactRaceWinnerWrongFalsely : Prop := fnExactRaceWinnerRow.holds Tryd.pinned (OpenSpec.ofChange fnExactRaceWinnerWrong)

/- THE SECOND FORM. 'bulk': how many values and letters a reading holds, each counted each time it is reached (what is shared counts as often as it is met; a slice's spare places count too). A statement '..UptoSaid' is the law's where the arguments, and the package variables that the reading takes, are together of bulk at most 1048576: NARROWER than '..Said'. Prove '..Said' where nothing that the law and all that it calls make is longer than what came in: it says more and counts as full. Else prove '..UptoSaid'. A law counts once. -/
mutual
def uptoBulk {H : Type} : DataW H → Nat
  | .lit (.string bytes) => bytes.length + 1
  | .lit _ => 1
  | .nil => 1
  | .ptr d => uptoBulk d + 1
  | .slice elems spare => uptoBulkAll elems + uptoBulkAll spare + 1
  | .agg parts => uptoBulkAll parts + 1
  | .iface _ d => uptoBulk d + 1
  | .map entries => uptoBulkEntries entries + 1
  | .held _ => 1
def uptoBulkAll {H : Type} : List (DataW H) → Nat
  | [] => 0
  | d :: r => uptoBulk d + uptoBulkAll r
def uptoBulkEntries {H : Type} : List (Lit × DataW H) → Nat
  | [] => 0
  | x :: r => uptoBulkEntry x + uptoBulkEntries r
def uptoBulkEntry {H : Type} : Lit × DataW H → Nat
  | (.string bytes, d) => bytes.length + uptoBulk d + 1
  | (_, d) => uptoBulk d + 1
 end
def uptoSmall : (H : Type) → List (DataW H) → Bool := fun _ ds => decide (uptoBulkAll ds ≤ 1048576)
def OpenSpec.upto (s : _root_.Go.ChangeSpec) : _root_.Go.OpenSpec := { _root_.Go.OpenSpec.ofChange s with cond := some uptoSmall }

/-- 'laws.FnExactIsTrack', WHERE WHAT IT READS IS OF BULK AT MOST 1048576: true; the input reads as it did. -/
def fnExactIsTrackUptoRow : OpenClaim := { program := "ytmoekjgnichgnaadoor", sum := "bc2cdeabd0053894bf2cbe8ef41cacaa1745c1f55b012db2fcc9c3662ca53446", func := "loop.example/g01388/laws.FnExactIsTrack", spec := "fnExactIsTrack", inPlace := ["internal/abi.NoEscape", "internal/bytealg.MakeNoZero", "internal/bytealg.IndexByteString", "internal/bytealg.IndexString", "internal/bytealg.CountString"], named := ["unicode/utf8.first", "unicode/utf8.acceptRanges", "internal/bytealg.MaxLen"], plainKeys := false, apart := false, laid := [("unicode/utf8.acceptRanges", laid_unicode_utf8_acceptRanges), ("unicode/utf8.first", laid_unicode_utf8_first)], narrowed := true }
def FnExactIsTrackUptoSaid : Prop := fnExactIsTrackUptoRow.holds Tryd.pinned (OpenSpec.upto fnExactIsTrackSpec)

/-- 'laws.FnExactFirstCar', WHERE WHAT IT READS IS OF BULK AT MOST 1048576: true; the input reads as it did. -/
def fnExactFirstCarUptoRow : OpenClaim := { program := "ytmoekjgnichgnaadoor", sum := "bc2cdeabd0053894bf2cbe8ef41cacaa1745c1f55b012db2fcc9c3662ca53446", func := "loop.example/g01388/laws.FnExactFirstCar", spec := "fnExactFirstCar", inPlace := ["internal/abi.NoEscape", "internal/bytealg.MakeNoZero", "internal/bytealg.IndexByteString", "internal/bytealg.IndexString", "internal/bytealg.CountString"], unfollowed := true, recurses := true, named := ["unicode/utf8.first", "unicode/utf8.acceptRanges", "internal/bytealg.MaxLen"], plainKeys := false, apart := false, laid := [("unicode/utf8.acceptRanges", laid_unicode_utf8_acceptRanges), ("unicode/utf8.first", laid_unicode_utf8_first)], narrowed := true }
def FnExactFirstCarUptoSaid : Prop := fnExactFirstCarUptoRow.holds Tryd.pinned (OpenSpec.upto fnExactFirstCarSpec)

/-- 'laws.FnExactCrossedSquares', WHERE WHAT IT READS IS OF BULK AT MOST 1048576: true; the input reads as it did. -/
def fnExactCrossedSquaresUptoRow : OpenClaim := { program := "ytmoekjgnichgnaadoor", sum := "bc2cdeabd0053894bf2cbe8ef41cacaa1745c1f55b012db2fcc9c3662ca53446", func := "loop.example/g01388/laws.FnExactCrossedSquares", spec := "fnExactCrossedSquares", inPlace := ["internal/abi.NoEscape", "internal/bytealg.MakeNoZero", "internal/bytealg.IndexByteString", "internal/bytealg.IndexString", "internal/bytealg.CountString"], unfollowed := true, recurses := true, named := ["unicode/utf8.first", "unicode/utf8.acceptRanges", "internal/bytealg.MaxLen"], plainKeys := false, apart := false, laid := [("unicode/utf8.acceptRanges", laid_unicode_utf8_acceptRanges), ("unicode/utf8.first", laid_unicode_utf8_first)], narrowed := true }
def FnExactCrossedSquaresUptoSaid : Prop := fnExactCrossedSquaresUptoRow.holds Tryd.pinned (OpenSpec.upto fnExactCrossedSquaresSpec)

/-- 'laws.FnExactOpenMoves', WHERE WHAT IT READS IS OF BULK AT MOST 1048576: true; the input reads as it did. -/
def fnExactOpenMovesUptoRow : OpenClaim := { program := "ytmoekjgnichgnaadoor", sum := "bc2cdeabd0053894bf2cbe8ef41cacaa1745c1f55b012db2fcc9c3662ca53446", func := "loop.example/g01388/laws.FnExactOpenMoves", spec := "fnExactOpenMoves", inPlace := ["internal/abi.NoEscape", "internal/bytealg.MakeNoZero", "internal/bytealg.IndexByteString", "internal/bytealg.IndexString", "internal/bytealg.CountString"], unfollowed := true, recurses := true, named := ["unicode/utf8.first", "unicode/utf8.acceptRanges", "internal/bytealg.MaxLen"], plainKeys := false, apart := false, laid := [("unicode/utf8.acceptRanges", laid_unicode_utf8_acceptRanges), ("unicode/utf8.first", laid_unicode_utf8_first)], narrowed := true }
def FnExactOpenMovesUptoSaid : Prop := fnExactOpenMovesUptoRow.holds Tryd.pinned (OpenSpec.upto fnExactOpenMovesSpec)

/-- 'laws.FnExactMoveCar', WHERE WHAT IT READS IS OF BULK AT MOST 1048576: true; the input reads as it did. -/
def fnExactMoveCarUptoRow : OpenClaim := { program := "ytmoekjgnichgnaadoor", sum := "bc2cdeabd0053894bf2cbe8ef41cacaa1745c1f55b012db2fcc9c3662ca53446", func := "loop.example/g01388/laws.FnExactMoveCar", spec := "fnExactMoveCar", inPlace := ["internal/abi.NoEscape", "internal/bytealg.MakeNoZero", "internal/bytealg.IndexByteString", "internal/bytealg.IndexString", "internal/bytealg.CountString"], unfollowed := true, recurses := true, named := ["unicode/utf8.first", "unicode/utf8.acceptRanges", "internal/bytealg.MaxLen"], plainKeys := false, apart := false, laid := [("unicode/utf8.acceptRanges", laid_unicode_utf8_acceptRanges), ("unicode/utf8.first", laid_unicode_utf8_first)], narrowed := true }
def FnExactMoveCarUptoSaid : Prop := fnExactMoveCarUptoRow.holds Tryd.pinned (OpenSpec.upto fnExactMoveCarSpec)

/-- 'laws.FnExactCanStop', WHERE WHAT IT READS IS OF BULK AT MOST 1048576: true; the input reads as it did. -/
def fnExactCanStopUptoRow : OpenClaim := { program := "ytmoekjgnichgnaadoor", sum := "bc2cdeabd0053894bf2cbe8ef41cacaa1745c1f55b012db2fcc9c3662ca53446", func := "loop.example/g01388/laws.FnExactCanStop", spec := "fnExactCanStop", inPlace := ["internal/abi.NoEscape", "internal/bytealg.MakeNoZero", "internal/bytealg.IndexByteString", "internal/bytealg.IndexString", "internal/bytealg.CountString"], unfollowed := true, recurses := true, named := ["unicode/utf8.first", "unicode/utf8.acceptRanges", "internal/bytealg.MaxLen"], plainKeys := false, apart := false, laid := [("unicode/utf8.acceptRanges", laid_unicode_utf8_acceptRanges), ("unicode/utf8.first", laid_unicode_utf8_first)], narrowed := true }
def FnExactCanStopUptoSaid : Prop := fnExactCanStopUptoRow.holds Tryd.pinned (OpenSpec.upto fnExactCanStopSpec)

/-- 'laws.FnExactFewestToGoal', WHERE WHAT IT READS IS OF BULK AT MOST 1048576: true; the input reads as it did. -/
def fnExactFewestToGoalUptoRow : OpenClaim := { program := "ytmoekjgnichgnaadoor", sum := "bc2cdeabd0053894bf2cbe8ef41cacaa1745c1f55b012db2fcc9c3662ca53446", func := "loop.example/g01388/laws.FnExactFewestToGoal", spec := "fnExactFewestToGoal", inPlace := ["internal/abi.NoEscape", "internal/bytealg.MakeNoZero", "internal/bytealg.IndexByteString", "internal/bytealg.IndexString", "internal/bytealg.CountString"], unfollowed := true, recurses := true, named := ["unicode/utf8.first", "unicode/utf8.acceptRanges", "internal/bytealg.MaxLen"], plainKeys := false, apart := false, laid := [("unicode/utf8.acceptRanges", laid_unicode_utf8_acceptRanges), ("unicode/utf8.first", laid_unicode_utf8_first)], narrowed := true }
def FnExactFewestToGoalUptoSaid : Prop := fnExactFewestToGoalUptoRow.holds Tryd.pinned (OpenSpec.upto fnExactFewestToGoalSpec)

/-- 'laws.FnExactFirstRoute', WHERE WHAT IT READS IS OF BULK AT MOST 1048576: true; the input reads as it did. -/
def fnExactFirstRouteUptoRow : OpenClaim := { program := "ytmoekjgnichgnaadoor", sum := "bc2cdeabd0053894bf2cbe8ef41cacaa1745c1f55b012db2fcc9c3662ca53446", func := "loop.example/g01388/laws.FnExactFirstRoute", spec := "fnExactFirstRoute", inPlace := ["internal/abi.NoEscape", "internal/bytealg.MakeNoZero", "internal/bytealg.IndexByteString", "internal/bytealg.IndexString", "internal/bytealg.CountString"], unfollowed := true, recurses := true, named := ["unicode/utf8.first", "unicode/utf8.acceptRanges", "internal/bytealg.MaxLen"], plainKeys := false, apart := false, laid := [("unicode/utf8.acceptRanges", laid_unicode_utf8_acceptRanges), ("unicode/utf8.first", laid_unicode_utf8_first)], narrowed := true }
def FnExactFirstRouteUptoSaid : Prop := fnExactFirstRouteUptoRow.holds Tryd.pinned (OpenSpec.upto fnExactFirstRouteSpec)

/-- 'laws.FnExactDriveRoute', WHERE WHAT IT READS IS OF BULK AT MOST 1048576: true; the input reads as it did. -/
def fnExactDriveRouteUptoRow : OpenClaim := { program := "ytmoekjgnichgnaadoor", sum := "bc2cdeabd0053894bf2cbe8ef41cacaa1745c1f55b012db2fcc9c3662ca53446", func := "loop.example/g01388/laws.FnExactDriveRoute", spec := "fnExactDriveRoute", inPlace := ["internal/abi.NoEscape", "internal/bytealg.MakeNoZero", "internal/bytealg.IndexByteString", "internal/bytealg.IndexString", "internal/bytealg.CountString"], unfollowed := true, recurses := true, named := ["unicode/utf8.first", "unicode/utf8.acceptRanges", "internal/bytealg.MaxLen"], plainKeys := false, apart := false, laid := [("unicode/utf8.acceptRanges", laid_unicode_utf8_acceptRanges), ("unicode/utf8.first", laid_unicode_utf8_first)], narrowed := true }
def FnExactDriveRouteUptoSaid : Prop := fnExactDriveRouteUptoRow.holds Tryd.pinned (OpenSpec.upto fnExactDriveRouteSpec)

/-- 'laws.FnExactSquaresReached', WHERE WHAT IT READS IS OF BULK AT MOST 1048576: true; the input reads as it did. -/
def fnExactSquaresReachedUptoRow : OpenClaim := { program := "ytmoekjgnichgnaadoor", sum := "bc2cdeabd0053894bf2cbe8ef41cacaa1745c1f55b012db2fcc9c3662ca53446", func := "loop.example/g01388/laws.FnExactSquaresReached", spec := "fnExactSquaresReached", inPlace := ["internal/abi.NoEscape", "internal/bytealg.MakeNoZero", "internal/bytealg.IndexByteString", "internal/bytealg.IndexString", "internal/bytealg.CountString"], unfollowed := true, recurses := true, named := ["unicode/utf8.first", "unicode/utf8.acceptRanges", "internal/bytealg.MaxLen"], plainKeys := false, apart := false, laid := [("unicode/utf8.acceptRanges", laid_unicode_utf8_acceptRanges), ("unicode/utf8.first", laid_unicode_utf8_first)], narrowed := true }
def FnExactSquaresReachedUptoSaid : Prop := fnExactSquaresReachedUptoRow.holds Tryd.pinned (OpenSpec.upto fnExactSquaresReachedSpec)

/-- 'laws.FnExactCountRoutes', WHERE WHAT IT READS IS OF BULK AT MOST 1048576: true; the input reads as it did. -/
def fnExactCountRoutesUptoRow : OpenClaim := { program := "ytmoekjgnichgnaadoor", sum := "bc2cdeabd0053894bf2cbe8ef41cacaa1745c1f55b012db2fcc9c3662ca53446", func := "loop.example/g01388/laws.FnExactCountRoutes", spec := "fnExactCountRoutes", inPlace := ["internal/abi.NoEscape", "internal/bytealg.MakeNoZero", "internal/bytealg.IndexByteString", "internal/bytealg.IndexString", "internal/bytealg.CountString"], unfollowed := true, recurses := true, named := ["unicode/utf8.first", "unicode/utf8.acceptRanges", "internal/bytealg.MaxLen"], plainKeys := false, apart := false, laid := [("unicode/utf8.acceptRanges", laid_unicode_utf8_acceptRanges), ("unicode/utf8.first", laid_unicode_utf8_first)], narrowed := true }
def FnExactCountRoutesUptoSaid : Prop := fnExactCountRoutesUptoRow.holds Tryd.pinned (OpenSpec.upto fnExactCountRoutesSpec)

/-- 'laws.FnExactRaceWinner', WHERE WHAT IT READS IS OF BULK AT MOST 1048576: true; the input reads as it did. -/
def fnExactRaceWinnerUptoRow : OpenClaim := { program := "ytmoekjgnichgnaadoor", sum := "bc2cdeabd0053894bf2cbe8ef41cacaa1745c1f55b012db2fcc9c3662ca53446", func := "loop.example/g01388/laws.FnExactRaceWinner", spec := "fnExactRaceWinner", inPlace := ["internal/abi.NoEscape", "internal/bytealg.MakeNoZero", "internal/bytealg.IndexByteString", "internal/bytealg.IndexString", "internal/bytealg.CountString"], unfollowed := true, recurses := true, named := ["unicode/utf8.first", "unicode/utf8.acceptRanges", "internal/bytealg.MaxLen"], plainKeys := false, apart := false, laid := [("unicode/utf8.acceptRanges", laid_unicode_utf8_acceptRanges), ("unicode/utf8.first", laid_unicode_utf8_first)], narrowed := true }
def FnExactRaceWinnerUptoSaid : Prop := fnExactRaceWinnerUptoRow.holds Tryd.pinned (OpenSpec.upto fnExactRaceWinnerSpec)

end Rows
end Go.Proofs.YtmoekjgnichgnaaDoor
