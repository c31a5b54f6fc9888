/-
  NARROWER THAN 'FOR EVERY INPUT', by the rows' own cells (each row's printed sentence says how): FnExactBoardText: laid · FnExactMakerWins: laid · FnExactRaceResult: laid · FnExactBestNodes: laid · FnExactPlayRace: laid · FnExactFindPairing: laid · FnExactCellsOfFleet: laid · FnExactFleetText: laid · FnExactStateOver: laid · FnExactFirstDouble: laid · FnExactStateWinner: laid.
  DERIVED. THE GIVEN ROWS OF THIS SEAT. 11 by the template 'for every input the law returns true; each argument reads behind the call as it read before'; 0 by the template 'total and deterministic' (their statements: YtkekanllfpdeaaaDoorTotals.lean).
  GIVEN WITH THE SEED: the statements are not yours to turn. If you find one false, say at which input.
  Laid BY PROGRAM, IN A SANDBOX (cutbox-rows.mjs): the forced cells as the released guide's own fill.sh prints them over the translation 4eba52fd73088448… (all of the seat's roots in one cut). By AI agents, Wed Nov 11 2026. No macro, syntax, notation, axiom, sorry.
-/
import Derived.Test.YtkekanllfpdeaaaDoorChecked
import GoSem.PinnedTables
import GoSem.Claim
import GoSem.ClaimJoined
import GoSem.ClaimMapViews
import Derived.JoinedTies
import Derived.KernelRfl
namespace Go.Proofs.YtkekanllfpdeaaaDoor
/- THE CELL 'sum', in the pinned program and in every row, IS THE sha256 OF THE DUMP (.gsa) THAT YtkekanllfpdeaaaDoorProg.lean LOADS. Nothing in Lean hashes anything: it is a label: what it is worth is what the hold of that sum in a sandbox is worth. -/
noncomputable def Tryd.pinned : Pinned := { name := "ytkekanllfpdeaaadoor", sum := "4eba52fd7308844831507872a8b8811710c50ac85131fc329595122ad2472436", checked := Tryd.checked }
namespace Rows
def none {H : Type} : Left H := { results := [], args := [] }

/- WHAT THE LISTED PACKAGE-LEVEL VARIABLES READ AS WHEN THE CALL BEGINS. Each datum BY PROGRAM (the guide's laid-datum.mjs) off the statement by which the dump's own 'gosem.cut.vars' lays the variable. In a bare row this is a premise. The card (YtkekanllfpdeaaaDoorCards.lean) ties it to the program's text. -/
def laid_math_bits_deBruijn32tab {H : Type} : DataW H := .agg [.lit (.int .u8 0), .lit (.int .u8 1), .lit (.int .u8 28), .lit (.int .u8 2), .lit (.int .u8 29), .lit (.int .u8 14), .lit (.int .u8 24), .lit (.int .u8 3), .lit (.int .u8 30), .lit (.int .u8 22), .lit (.int .u8 20), .lit (.int .u8 15), .lit (.int .u8 25), .lit (.int .u8 17), .lit (.int .u8 4), .lit (.int .u8 8), .lit (.int .u8 31), .lit (.int .u8 27), .lit (.int .u8 13), .lit (.int .u8 23), .lit (.int .u8 21), .lit (.int .u8 19), .lit (.int .u8 16), .lit (.int .u8 7), .lit (.int .u8 26), .lit (.int .u8 12), .lit (.int .u8 18), .lit (.int .u8 6), .lit (.int .u8 11), .lit (.int .u8 5), .lit (.int .u8 10), .lit (.int .u8 9)]
def laid_math_bits_deBruijn64tab {H : Type} : DataW H := .agg [.lit (.int .u8 0), .lit (.int .u8 1), .lit (.int .u8 56), .lit (.int .u8 2), .lit (.int .u8 57), .lit (.int .u8 49), .lit (.int .u8 28), .lit (.int .u8 3), .lit (.int .u8 61), .lit (.int .u8 58), .lit (.int .u8 42), .lit (.int .u8 50), .lit (.int .u8 38), .lit (.int .u8 29), .lit (.int .u8 17), .lit (.int .u8 4), .lit (.int .u8 62), .lit (.int .u8 47), .lit (.int .u8 59), .lit (.int .u8 36), .lit (.int .u8 45), .lit (.int .u8 43), .lit (.int .u8 51), .lit (.int .u8 22), .lit (.int .u8 53), .lit (.int .u8 39), .lit (.int .u8 33), .lit (.int .u8 30), .lit (.int .u8 24), .lit (.int .u8 18), .lit (.int .u8 12), .lit (.int .u8 5), .lit (.int .u8 63), .lit (.int .u8 55), .lit (.int .u8 48), .lit (.int .u8 27), .lit (.int .u8 60), .lit (.int .u8 41), .lit (.int .u8 37), .lit (.int .u8 16), .lit (.int .u8 46), .lit (.int .u8 35), .lit (.int .u8 44), .lit (.int .u8 21), .lit (.int .u8 52), .lit (.int .u8 32), .lit (.int .u8 23), .lit (.int .u8 11), .lit (.int .u8 54), .lit (.int .u8 26), .lit (.int .u8 40), .lit (.int .u8 15), .lit (.int .u8 34), .lit (.int .u8 20), .lit (.int .u8 31), .lit (.int .u8 10), .lit (.int .u8 25), .lit (.int .u8 14), .lit (.int .u8 19), .lit (.int .u8 9), .lit (.int .u8 13), .lit (.int .u8 8), .lit (.int .u8 7), .lit (.int .u8 6)]
def laid_internal_strconv_uint64pow10 {H : Type} : DataW H := .agg [.lit (.int .u64 1), .lit (.int .u64 10), .lit (.int .u64 100), .lit (.int .u64 1000), .lit (.int .u64 10000), .lit (.int .u64 100000), .lit (.int .u64 1000000), .lit (.int .u64 10000000), .lit (.int .u64 100000000), .lit (.int .u64 1000000000), .lit (.int .u64 10000000000), .lit (.int .u64 100000000000), .lit (.int .u64 1000000000000), .lit (.int .u64 10000000000000), .lit (.int .u64 100000000000000), .lit (.int .u64 1000000000000000), .lit (.int .u64 10000000000000000), .lit (.int .u64 100000000000000000), .lit (.int .u64 1000000000000000000), .lit (.int .u64 10000000000000000000)]
def laid_unicode_utf8_acceptRanges {H : Type} : DataW H := .agg [.agg [.lit (.int .u8 128), .lit (.int .u8 191)], .agg [.lit (.int .u8 160), .lit (.int .u8 191)], .agg [.lit (.int .u8 128), .lit (.int .u8 159)], .agg [.lit (.int .u8 144), .lit (.int .u8 191)], .agg [.lit (.int .u8 128), .lit (.int .u8 143)], .agg [.lit (.int .u8 0), .lit (.int .u8 0)], .agg [.lit (.int .u8 0), .lit (.int .u8 0)], .agg [.lit (.int .u8 0), .lit (.int .u8 0)], .agg [.lit (.int .u8 0), .lit (.int .u8 0)], .agg [.lit (.int .u8 0), .lit (.int .u8 0)], .agg [.lit (.int .u8 0), .lit (.int .u8 0)], .agg [.lit (.int .u8 0), .lit (.int .u8 0)], .agg [.lit (.int .u8 0), .lit (.int .u8 0)], .agg [.lit (.int .u8 0), .lit (.int .u8 0)], .agg [.lit (.int .u8 0), .lit (.int .u8 0)], .agg [.lit (.int .u8 0), .lit (.int .u8 0)]]
/-- One of Go's own tables, pinned by name: the form's constant. -/
def laid_unicode_utf8_first : DataW Unit := Go.Pinned.utf8First

/-- 'laws.FnExactBoardText': WHATEVER THE INPUT: true; the input reads as it did. -/
def fnExactBoardTextSpec : ChangeSpec := { name := "fnExactBoardText", fn := fun _ => fun
  | [d] => { results := [.lit (.bool true)], args := [d] }
  | _ => none }
def fnExactBoardTextRow : OpenClaim := { program := "ytkekanllfpdeaaadoor", sum := "4eba52fd7308844831507872a8b8811710c50ac85131fc329595122ad2472436", func := "loop.example/g01388/laws.FnExactBoardText", spec := "fnExactBoardText", inPlace := ["internal/abi.NoEscape", "internal/bytealg.MakeNoZero"], recurses := true, named := ["math/bits.deBruijn64tab", "internal/strconv.uint64pow10", "math/bits.deBruijn32tab"], plainKeys := false, apart := false, laid := [("math/bits.deBruijn32tab", laid_math_bits_deBruijn32tab), ("math/bits.deBruijn64tab", laid_math_bits_deBruijn64tab), ("internal/strconv.uint64pow10", laid_internal_strconv_uint64pow10)] }
def FnExactBoardTextSaid : Prop := fnExactBoardTextRow.holds Tryd.pinned (OpenSpec.ofChange fnExactBoardTextSpec)

/-- ITS FALSE NEIGHBOUR: 'it returns false'. Refute it at one input. -/
def fnExactBoardTextWrong : ChangeSpec := { name := "fnExactBoardText", fn := fun _ => fun
  | [d] => { results := [.lit (.bool false)], args := [d] }
  | _ => none }
def FnExactBoardTextWrongFalsely : Prop := fnExactBoardTextRow.holds Tryd.pinned (OpenSpec.ofChange fnExactBoardTextWrong)

/-- 'laws.FnExactMakerWins': WHATEVER THE INPUT: true; the input reads as it did. -/
def fnExactMakerWinsSpec : ChangeSpec := { name := "fnExactMakerWins", fn := fun _ => fun
  | [d] => { results := [.lit (.bool true)], args := [d] }
  | _ => none }
def fnExactMakerWinsRow : OpenClaim := { program := "ytkekanllfpdeaaadoor", sum := "4eba52fd7308844831507872a8b8811710c50ac85131fc329595122ad2472436", func := "loop.example/g01388/laws.FnExactMakerWins", spec := "fnExactMakerWins", unfollowed := true, recurses := true, named := ["math/bits.deBruijn64tab"], plainKeys := false, leaving := true, apart := false, laid := [("math/bits.deBruijn64tab", laid_math_bits_deBruijn64tab)] }
def FnExactMakerWinsSaid : Prop := fnExactMakerWinsRow.holds Tryd.pinned (OpenSpec.ofChange fnExactMakerWinsSpec)

/-- ITS FALSE NEIGHBOUR: 'it returns false'. Refute it at one input. -/
def fnExactMakerWinsWrong : ChangeSpec := { name := "fnExactMakerWins", fn := fun _ => fun
  | [d] => { results := [.lit (.bool false)], args := [d] }
  | _ => none }
def FnExactMakerWinsWrongFalsely : Prop := fnExactMakerWinsRow.holds Tryd.pinned (OpenSpec.ofChange fnExactMakerWinsWrong)

/-- 'laws.FnExactRaceResult': WHATEVER THE INPUT: true; the input reads as it did. -/
def fnExactRaceResultSpec : ChangeSpec := { name := "fnExactRaceResult", fn := fun _ => fun
  | [d1, d2, d3] => { results := [.lit (.bool true)], args := [d1, d2, d3] }
  | _ => none }
def fnExactRaceResultRow : OpenClaim := { program := "ytkekanllfpdeaaadoor", sum := "4eba52fd7308844831507872a8b8811710c50ac85131fc329595122ad2472436", func := "loop.example/g01388/laws.FnExactRaceResult", spec := "fnExactRaceResult", unfollowed := true, recurses := true, named := ["math/bits.deBruijn64tab"], plainKeys := false, leaving := true, apart := false, laid := [("math/bits.deBruijn64tab", laid_math_bits_deBruijn64tab)] }
def FnExactRaceResultSaid : Prop := fnExactRaceResultRow.holds Tryd.pinned (OpenSpec.ofChange fnExactRaceResultSpec)

/-- ITS FALSE NEIGHBOUR: 'it returns false'. Refute it at one input. -/
def fnExactRaceResultWrong : ChangeSpec := { name := "fnExactRaceResult", fn := fun _ => fun
  | [d1, d2, d3] => { results := [.lit (.bool false)], args := [d1, d2, d3] }
  | _ => none }
def FnExactRaceResultWrongFalsely : Prop := fnExactRaceResultRow.holds Tryd.pinned (OpenSpec.ofChange fnExactRaceResultWrong)

/-- 'laws.FnExactBestNodes': WHATEVER THE INPUT: true; the input reads as it did. -/
def fnExactBestNodesSpec : ChangeSpec := { name := "fnExactBestNodes", fn := fun _ => fun
  | [d1, d2, d3] => { results := [.lit (.bool true)], args := [d1, d2, d3] }
  | _ => none }
def fnExactBestNodesRow : OpenClaim := { program := "ytkekanllfpdeaaadoor", sum := "4eba52fd7308844831507872a8b8811710c50ac85131fc329595122ad2472436", func := "loop.example/g01388/laws.FnExactBestNodes", spec := "fnExactBestNodes", unfollowed := true, recurses := true, named := ["math/bits.deBruijn64tab"], plainKeys := false, leaving := true, apart := false, laid := [("math/bits.deBruijn64tab", laid_math_bits_deBruijn64tab)] }
def FnExactBestNodesSaid : Prop := fnExactBestNodesRow.holds Tryd.pinned (OpenSpec.ofChange fnExactBestNodesSpec)

/-- ITS FALSE NEIGHBOUR: 'it returns false'. Refute it at one input. -/
def fnExactBestNodesWrong : ChangeSpec := { name := "fnExactBestNodes", fn := fun _ => fun
  | [d1, d2, d3] => { results := [.lit (.bool false)], args := [d1, d2, d3] }
  | _ => none }
def FnExactBestNodesWrongFalsely : Prop := fnExactBestNodesRow.holds Tryd.pinned (OpenSpec.ofChange fnExactBestNodesWrong)

/-- 'laws.FnExactPlayRace': WHATEVER THE INPUT: true; the input reads as it did. -/
def fnExactPlayRaceSpec : ChangeSpec := { name := "fnExactPlayRace", fn := fun _ => fun
  | [d] => { results := [.lit (.bool true)], args := [d] }
  | _ => none }
def fnExactPlayRaceRow : OpenClaim := { program := "ytkekanllfpdeaaadoor", sum := "4eba52fd7308844831507872a8b8811710c50ac85131fc329595122ad2472436", func := "loop.example/g01388/laws.FnExactPlayRace", spec := "fnExactPlayRace", unfollowed := true, recurses := true, named := ["math/bits.deBruijn64tab"], plainKeys := false, leaving := true, apart := false, laid := [("math/bits.deBruijn64tab", laid_math_bits_deBruijn64tab)] }
def FnExactPlayRaceSaid : Prop := fnExactPlayRaceRow.holds Tryd.pinned (OpenSpec.ofChange fnExactPlayRaceSpec)

/-- ITS FALSE NEIGHBOUR: 'it returns false'. Refute it at one input. -/
def fnExactPlayRaceWrong : ChangeSpec := { name := "fnExactPlayRace", fn := fun _ => fun
  | [d] => { results := [.lit (.bool false)], args := [d] }
  | _ => none }
def FnExactPlayRaceWrongFalsely : Prop := fnExactPlayRaceRow.holds Tryd.pinned (OpenSpec.ofChange fnExactPlayRaceWrong)

/-- 'laws.FnExactFindPairing': WHATEVER THE INPUT: true; the input reads as it did. -/
def fnExactFindPairingSpec : ChangeSpec := { name := "fnExactFindPairing", fn := fun _ => fun
  | [d] => { results := [.lit (.bool true)], args := [d] }
  | _ => none }
def fnExactFindPairingRow : OpenClaim := { program := "ytkekanllfpdeaaadoor", sum := "4eba52fd7308844831507872a8b8811710c50ac85131fc329595122ad2472436", func := "loop.example/g01388/laws.FnExactFindPairing", spec := "fnExactFindPairing", unfollowed := true, recurses := true, named := ["math/bits.deBruijn64tab"], plainKeys := false, leaving := true, apart := false, laid := [("math/bits.deBruijn64tab", laid_math_bits_deBruijn64tab)] }
def FnExactFindPairingSaid : Prop := fnExactFindPairingRow.holds Tryd.pinned (OpenSpec.ofChange fnExactFindPairingSpec)

/-- ITS FALSE NEIGHBOUR: 'it returns false'. Refute it at one input. -/
def fnExactFindPairingWrong : ChangeSpec := { name := "fnExactFindPairing", fn := fun _ => fun
  | [d] => { results := [.lit (.bool false)], args := [d] }
  | _ => none }
def FnExactFindPairingWrongFalsely : Prop := fnExactFindPairingRow.holds Tryd.pinned (OpenSpec.ofChange fnExactFindPairingWrong)

/-- 'laws.FnExactCellsOfFleet': WHATEVER THE INPUT: true; the input reads as it did. -/
def fnExactCellsOfFleetSpec : ChangeSpec := { name := "fnExactCellsOfFleet", fn := fun _ => fun
  | [d1, d2] => { results := [.lit (.bool true)], args := [d1, d2] }
  | _ => none }
def fnExactCellsOfFleetRow : OpenClaim := { program := "ytkekanllfpdeaaadoor", sum := "4eba52fd7308844831507872a8b8811710c50ac85131fc329595122ad2472436", func := "loop.example/g01388/laws.FnExactCellsOfFleet", spec := "fnExactCellsOfFleet", unfollowed := true, recurses := true, named := ["math/bits.deBruijn64tab"], plainKeys := false, leaving := true, apart := false, laid := [("math/bits.deBruijn64tab", laid_math_bits_deBruijn64tab)] }
def FnExactCellsOfFleetSaid : Prop := fnExactCellsOfFleetRow.holds Tryd.pinned (OpenSpec.ofChange fnExactCellsOfFleetSpec)

/-- ITS FALSE NEIGHBOUR: 'it returns false'. Refute it at one input. -/
def fnExactCellsOfFleetWrong : ChangeSpec := { name := "fnExactCellsOfFleet", fn := fun _ => fun
  | [d1, d2] => { results := [.lit (.bool false)], args := [d1, d2] }
  | _ => none }
def FnExactCellsOfFleetWrongFalsely : Prop := fnExactCellsOfFleetRow.holds Tryd.pinned (OpenSpec.ofChange fnExactCellsOfFleetWrong)

/-- 'laws.FnExactFleetText': WHATEVER THE INPUT: true; the input reads as it did. -/
def fnExactFleetTextSpec : ChangeSpec := { name := "fnExactFleetText", fn := fun _ => fun
  | [d1, d2] => { results := [.lit (.bool true)], args := [d1, d2] }
  | _ => none }
def fnExactFleetTextRow : OpenClaim := { program := "ytkekanllfpdeaaadoor", sum := "4eba52fd7308844831507872a8b8811710c50ac85131fc329595122ad2472436", func := "loop.example/g01388/laws.FnExactFleetText", spec := "fnExactFleetText", inPlace := ["internal/bytealg.MakeNoZero"], unfollowed := true, recurses := true, named := ["math/bits.deBruijn64tab"], plainKeys := false, leaving := true, apart := false, laid := [("math/bits.deBruijn64tab", laid_math_bits_deBruijn64tab)] }
def FnExactFleetTextSaid : Prop := fnExactFleetTextRow.holds Tryd.pinned (OpenSpec.ofChange fnExactFleetTextSpec)

/-- ITS FALSE NEIGHBOUR: 'it returns false'. Refute it at one input. -/
def fnExactFleetTextWrong : ChangeSpec := { name := "fnExactFleetText", fn := fun _ => fun
  | [d1, d2] => { results := [.lit (.bool false)], args := [d1, d2] }
  | _ => none }
def FnExactFleetTextWrongFalsely : Prop := fnExactFleetTextRow.holds Tryd.pinned (OpenSpec.ofChange fnExactFleetTextWrong)

/-- 'laws.FnExactStateOver': WHATEVER THE INPUT: true; the input reads as it did. -/
def fnExactStateOverSpec : ChangeSpec := { name := "fnExactStateOver", fn := fun _ => fun
  | [d1, d2] => { results := [.lit (.bool true)], args := [d1, d2] }
  | _ => none }
def fnExactStateOverRow : OpenClaim := { program := "ytkekanllfpdeaaadoor", sum := "4eba52fd7308844831507872a8b8811710c50ac85131fc329595122ad2472436", func := "loop.example/g01388/laws.FnExactStateOver", spec := "fnExactStateOver", inPlace := ["internal/bytealg.IndexByteString", "internal/bytealg.IndexString"], unfollowed := true, recurses := true, named := ["unicode/utf8.first", "unicode/utf8.acceptRanges", "math/bits.deBruijn64tab", "internal/bytealg.MaxLen"], plainKeys := false, leaving := true, apart := false, laid := [("math/bits.deBruijn64tab", laid_math_bits_deBruijn64tab), ("unicode/utf8.acceptRanges", laid_unicode_utf8_acceptRanges), ("unicode/utf8.first", laid_unicode_utf8_first)] }
def FnExactStateOverSaid : Prop := fnExactStateOverRow.holds Tryd.pinned (OpenSpec.ofChange fnExactStateOverSpec)

/-- ITS FALSE NEIGHBOUR: 'it returns false'. Refute it at one input. -/
def fnExactStateOverWrong : ChangeSpec := { name := "fnExactStateOver", fn := fun _ => fun
  | [d1, d2] => { results := [.lit (.bool false)], args := [d1, d2] }
  | _ => none }
def FnExactStateOverWrongFalsely : Prop := fnExactStateOverRow.holds Tryd.pinned (OpenSpec.ofChange fnExactStateOverWrong)

/-- 'laws.FnExactFirstDouble': WHATEVER THE INPUT: true; the input reads as it did. -/
def fnExactFirstDoubleSpec : ChangeSpec := { name := "fnExactFirstDouble", fn := fun _ => fun
  | [d] => { results := [.lit (.bool true)], args := [d] }
  | _ => none }
def fnExactFirstDoubleRow : OpenClaim := { program := "ytkekanllfpdeaaadoor", sum := "4eba52fd7308844831507872a8b8811710c50ac85131fc329595122ad2472436", func := "loop.example/g01388/laws.FnExactFirstDouble", spec := "fnExactFirstDouble", unfollowed := true, recurses := true, named := ["math/bits.deBruijn64tab"], plainKeys := false, leaving := true, apart := false, laid := [("math/bits.deBruijn64tab", laid_math_bits_deBruijn64tab)] }
def FnExactFirstDoubleSaid : Prop := fnExactFirstDoubleRow.holds Tryd.pinned (OpenSpec.ofChange fnExactFirstDoubleSpec)

/-- ITS FALSE NEIGHBOUR: 'it returns false'. Refute it at one input. -/
def fnExactFirstDoubleWrong : ChangeSpec := { name := "fnExactFirstDouble", fn := fun _ => fun
  | [d] => { results := [.lit (.bool false)], args := [d] }
  | _ => none }
def FnExactFirstDoubleWrongFalsely : Prop := fnExactFirstDoubleRow.holds Tryd.pinned (OpenSpec.ofChange fnExactFirstDoubleWrong)

/-- 'laws.FnExactStateWinner': WHATEVER THE INPUT: true; the input reads as it did. -/
def fnExactStateWinnerSpec : ChangeSpec := { name := "fnExactStateWinner", fn := fun _ => fun
  | [d1, d2, d3] => { results := [.lit (.bool true)], args := [d1, d2, d3] }
  | _ => none }
def fnExactStateWinnerRow : OpenClaim := { program := "ytkekanllfpdeaaadoor", sum := "4eba52fd7308844831507872a8b8811710c50ac85131fc329595122ad2472436", func := "loop.example/g01388/laws.FnExactStateWinner", spec := "fnExactStateWinner", inPlace := ["internal/bytealg.IndexByteString", "internal/bytealg.IndexString", "(*sync.WaitGroup).Add", "internal/race.ReleaseMerge", "internal/race.Disable", "internal/race.Enable", "internal/synctest.IsInBubble", "internal/synctest.Associate[sync.WaitGroup]", "sync.fatal", "sync/atomic.OrUint64", "sync/atomic.AddUint64", "internal/race.Read", "sync/atomic.LoadUint64", "sync/atomic.StoreUint64", "internal/synctest.Disassociate[sync.WaitGroup]", "sync.runtime_Semrelease", "(*sync.WaitGroup).Done", "(*sync.WaitGroup).Wait", "internal/race.Acquire", "internal/synctest.IsAssociated[sync.WaitGroup]", "sync/atomic.CompareAndSwapUint64", "internal/race.Write", "sync.runtime_SemacquireWaitGroup"], unfollowed := true, recurses := true, named := ["unicode/utf8.first", "unicode/utf8.acceptRanges", "math/bits.deBruijn64tab", "internal/bytealg.MaxLen"], plainKeys := false, leaving := true, apart := false, laid := [("math/bits.deBruijn64tab", laid_math_bits_deBruijn64tab), ("unicode/utf8.acceptRanges", laid_unicode_utf8_acceptRanges), ("unicode/utf8.first", laid_unicode_utf8_first)] }
def FnExactStateWinnerSaid : Prop := fnExactStateWinnerRow.holds Tryd.pinned (OpenSpec.ofChange fnExactStateWinnerSpec)

/-- ITS FALSE NEIGHBOUR: 'it returns false'. Refute it at one input. -/
def fnExactStateWinnerWrong : ChangeSpec := { name := "fnExactStateWinner", fn := fun _ => fun
  | [d1, d2, d3] => { results := [.lit (.bool false)], args := [d1, d2, d3] }
  | _ => none }
def FnExactStateWinnerWrongFalsely : Prop := fnExactStateWinnerRow.holds Tryd.pinned (OpenSpec.ofChange fnExactStateWinnerWrong)

/- THE SECOND FORM. 'bulk': how many values and letters a reading holds, each counted each time it is reached (what is shared counts as often as it is met; a slice's spare places count too). A statement '..UptoSaid' is the law's where the arguments, and the package variables that the reading takes, are together of bulk at most 1048576: NARROWER than '..Said'. Prove '..Said' where nothing that the law and all that it calls make is longer than what came in: it says more and counts as full. Else prove '..UptoSaid'. A law counts once. -/
mutual
def uptoBulk {H : Type} : DataW H → Nat
  | .lit (.string bytes) => bytes.length + 1
  | .lit _ => 1
  | .nil => 1
  | .ptr d => uptoBulk d + 1
  | .slice elems spare => uptoBulkAll elems + uptoBulkAll spare + 1
  | .agg parts => uptoBulkAll parts + 1
  | .iface _ d => uptoBulk d + 1
  | .map entries => uptoBulkEntries entries + 1
  | .held _ => 1
def uptoBulkAll {H : Type} : List (DataW H) → Nat
  | [] => 0
  | d :: r => uptoBulk d + uptoBulkAll r
def uptoBulkEntries {H : Type} : List (Lit × DataW H) → Nat
  | [] => 0
  | x :: r => uptoBulkEntry x + uptoBulkEntries r
def uptoBulkEntry {H : Type} : Lit × DataW H → Nat
  | (.string bytes, d) => bytes.length + uptoBulk d + 1
  | (_, d) => uptoBulk d + 1
 end
def uptoSmall : (H : Type) → List (DataW H) → Bool := fun _ ds => decide (uptoBulkAll ds ≤ 1048576)
def OpenSpec.upto (s : _root_.Go.ChangeSpec) : _root_.Go.OpenSpec := { _root_.Go.OpenSpec.ofChange s with cond := some uptoSmall }

/-- 'laws.FnExactBoardText', WHERE WHAT IT READS IS OF BULK AT MOST 1048576: true; the input reads as it did. -/
def fnExactBoardTextUptoRow : OpenClaim := { program := "ytkekanllfpdeaaadoor", sum := "4eba52fd7308844831507872a8b8811710c50ac85131fc329595122ad2472436", func := "loop.example/g01388/laws.FnExactBoardText", spec := "fnExactBoardText", inPlace := ["internal/abi.NoEscape", "internal/bytealg.MakeNoZero"], recurses := true, named := ["math/bits.deBruijn64tab", "internal/strconv.uint64pow10", "math/bits.deBruijn32tab"], plainKeys := false, apart := false, laid := [("math/bits.deBruijn32tab", laid_math_bits_deBruijn32tab), ("math/bits.deBruijn64tab", laid_math_bits_deBruijn64tab), ("internal/strconv.uint64pow10", laid_internal_strconv_uint64pow10)], narrowed := true }
def FnExactBoardTextUptoSaid : Prop := fnExactBoardTextUptoRow.holds Tryd.pinned (OpenSpec.upto fnExactBoardTextSpec)

/-- 'laws.FnExactMakerWins', WHERE WHAT IT READS IS OF BULK AT MOST 1048576: true; the input reads as it did. -/
def fnExactMakerWinsUptoRow : OpenClaim := { program := "ytkekanllfpdeaaadoor", sum := "4eba52fd7308844831507872a8b8811710c50ac85131fc329595122ad2472436", func := "loop.example/g01388/laws.FnExactMakerWins", spec := "fnExactMakerWins", unfollowed := true, recurses := true, named := ["math/bits.deBruijn64tab"], plainKeys := false, leaving := true, apart := false, laid := [("math/bits.deBruijn64tab", laid_math_bits_deBruijn64tab)], narrowed := true }
def FnExactMakerWinsUptoSaid : Prop := fnExactMakerWinsUptoRow.holds Tryd.pinned (OpenSpec.upto fnExactMakerWinsSpec)

/-- 'laws.FnExactRaceResult', WHERE WHAT IT READS IS OF BULK AT MOST 1048576: true; the input reads as it did. -/
def fnExactRaceResultUptoRow : OpenClaim := { program := "ytkekanllfpdeaaadoor", sum := "4eba52fd7308844831507872a8b8811710c50ac85131fc329595122ad2472436", func := "loop.example/g01388/laws.FnExactRaceResult", spec := "fnExactRaceResult", unfollowed := true, recurses := true, named := ["math/bits.deBruijn64tab"], plainKeys := false, leaving := true, apart := false, laid := [("math/bits.deBruijn64tab", laid_math_bits_deBruijn64tab)], narrowed := true }
def FnExactRaceResultUptoSaid : Prop := fnExactRaceResultUptoRow.holds Tryd.pinned (OpenSpec.upto fnExactRaceResultSpec)

/-- 'laws.FnExactBestNodes', WHERE WHAT IT READS IS OF BULK AT MOST 1048576: true; the input reads as it did. -/
def fnExactBestNodesUptoRow : OpenClaim := { program := "ytkekanllfpdeaaadoor", sum := "4eba52fd7308844831507872a8b8811710c50ac85131fc329595122ad2472436", func := "loop.example/g01388/laws.FnExactBestNodes", spec := "fnExactBestNodes", unfollowed := true, recurses := true, named := ["math/bits.deBruijn64tab"], plainKeys := false, leaving := true, apart := false, laid := [("math/bits.deBruijn64tab", laid_math_bits_deBruijn64tab)], narrowed := true }
def FnExactBestNodesUptoSaid : Prop := fnExactBestNodesUptoRow.holds Tryd.pinned (OpenSpec.upto fnExactBestNodesSpec)

/-- 'laws.FnExactPlayRace', WHERE WHAT IT READS IS OF BULK AT MOST 1048576: true; the input reads as it did. -/
def fnExactPlayRaceUptoRow : OpenClaim := { program := "ytkekanllfpdeaaadoor", sum := "4eba52fd7308844831507872a8b8811710c50ac85131fc329595122ad2472436", func := "loop.example/g01388/laws.FnExactPlayRace", spec := "fnExactPlayRace", unfollowed := true, recurses := true, named := ["math/bits.deBruijn64tab"], plainKeys := false, leaving := true, apart := false, laid := [("math/bits.deBruijn64tab", laid_math_bits_deBruijn64tab)], narrowed := true }
def FnExactPlayRaceUptoSaid : Prop := fnExactPlayRaceUptoRow.holds Tryd.pinned (OpenSpec.upto fnExactPlayRaceSpec)

/-- 'laws.FnExactFindPairing', WHERE WHAT IT READS IS OF BULK AT MOST 1048576: true; the input reads as it did. -/
def fnExactFindPairingUptoRow : OpenClaim := { program := "ytkekanllfpdeaaadoor", sum := "4eba52fd7308844831507872a8b8811710c50ac85131fc329595122ad2472436", func := "loop.example/g01388/laws.FnExactFindPairing", spec := "fnExactFindPairing", unfollowed := true, recurses := true, named := ["math/bits.deBruijn64tab"], plainKeys := false, leaving := true, apart := false, laid := [("math/bits.deBruijn64tab", laid_math_bits_deBruijn64tab)], narrowed := true }
def FnExactFindPairingUptoSaid : Prop := fnExactFindPairingUptoRow.holds Tryd.pinned (OpenSpec.upto fnExactFindPairingSpec)

/-- 'laws.FnExactCellsOfFleet', WHERE WHAT IT READS IS OF BULK AT MOST 1048576: true; the input reads as it did. -/
def fnExactCellsOfFleetUptoRow : OpenClaim := { program := "ytkekanllfpdeaaadoor", sum := "4eba52fd7308844831507872a8b8811710c50ac85131fc329595122ad2472436", func := "loop.example/g01388/laws.FnExactCellsOfFleet", spec := "fnExactCellsOfFleet", unfollowed := true, recurses := true, named := ["math/bits.deBruijn64tab"], plainKeys := false, leaving := true, apart := false, laid := [("math/bits.deBruijn64tab", laid_math_bits_deBruijn64tab)], narrowed := true }
def FnExactCellsOfFleetUptoSaid : Prop := fnExactCellsOfFleetUptoRow.holds Tryd.pinned (OpenSpec.upto fnExactCellsOfFleetSpec)

/-- 'laws.FnExactFleetText', WHERE WHAT IT READS IS OF BULK AT MOST 1048576: true; the input reads as it did. -/
def fnExactFleetTextUptoRow : OpenClaim := { program := "ytkekanllfpdeaaadoor", sum := "4eba52fd7308844831507872a8b8811710c50ac85131fc329595122ad2472436", func := "loop.example/g01388/laws.FnExactFleetText", spec := "fnExactFleetText", inPlace := ["internal/bytealg.MakeNoZero"], unfollowed := true, recurses := true, named := ["math/bits.deBruijn64tab"], plainKeys := false, leaving := true, apart := false, laid := [("math/bits.deBruijn64tab", laid_math_bits_deBruijn64tab)], narrowed := true }
def FnExactFleetTextUptoSaid : Prop := fnExactFleetTextUptoRow.holds Tryd.pinned (OpenSpec.upto fnExactFleetTextSpec)

/-- 'laws.FnExactStateOver', WHERE WHAT IT READS IS OF BULK AT MOST 1048576: true; the input reads as it did. -/
def fnExactStateOverUptoRow : OpenClaim := { program := "ytkekanllfpdeaaadoor", sum := "4eba52fd7308844831507872a8b8811710c50ac85131fc329595122ad2472436", func := "loop.example/g01388/laws.FnExactStateOver", spec := "fnExactStateOver", inPlace := ["internal/bytealg.IndexByteString", "internal/bytealg.IndexString"], unfollowed := true, recurses := true, named := ["unicode/utf8.first", "unicode/utf8.acceptRanges", "math/bits.deBruijn64tab", "internal/bytealg.MaxLen"], plainKeys := false, leaving := true, apart := false, laid := [("math/bits.deBruijn64tab", laid_math_bits_deBruijn64tab), ("unicode/utf8.acceptRanges", laid_unicode_utf8_acceptRanges), ("unicode/utf8.first", laid_unicode_utf8_first)], narrowed := true }
def FnExactStateOverUptoSaid : Prop := fnExactStateOverUptoRow.holds Tryd.pinned (OpenSpec.upto fnExactStateOverSpec)

/-- 'laws.FnExactFirstDouble', WHERE WHAT IT READS IS OF BULK AT MOST 1048576: true; the input reads as it did. -/
def fnExactFirstDoubleUptoRow : OpenClaim := { program := "ytkekanllfpdeaaadoor", sum := "4eba52fd7308844831507872a8b8811710c50ac85131fc329595122ad2472436", func := "loop.example/g01388/laws.FnExactFirstDouble", spec := "fnExactFirstDouble", unfollowed := true, recurses := true, named := ["math/bits.deBruijn64tab"], plainKeys := false, leaving := true, apart := false, laid := [("math/bits.deBruijn64tab", laid_math_bits_deBruijn64tab)], narrowed := true }
def FnExactFirstDoubleUptoSaid : Prop := fnExactFirstDoubleUptoRow.holds Tryd.pinned (OpenSpec.upto fnExactFirstDoubleSpec)

/-- 'laws.FnExactStateWinner', WHERE WHAT IT READS IS OF BULK AT MOST 1048576: true; the input reads as it did. -/
def fnExactStateWinnerUptoRow : OpenClaim := { program := "ytkekanllfpdeaaadoor", sum := "4eba52fd7308844831507872a8b8811710c50ac85131fc329595122ad2472436", func := "loop.example/g01388/laws.FnExactStateWinner", spec := "fnExactStateWinner", inPlace := ["internal/bytealg.IndexByteString", "internal/bytealg.IndexString", "(*sync.WaitGroup).Add", "internal/race.ReleaseMerge", "internal/race.Disable", "internal/race.Enable", "internal/synctest.IsInBubble", "internal/synctest.Associate[sync.WaitGroup]", "sync.fatal", "sync/atomic.OrUint64", "sync/atomic.AddUint64", "internal/race.Read", "sync/atomic.LoadUint64", "sync/atomic.StoreUint64", "internal/synctest.Disassociate[sync.WaitGroup]", "sync.runtime_Semrelease", "(*sync.WaitGroup).Done", "(*sync.WaitGroup).Wait", "internal/race.Acquire", "internal/synctest.IsAssociated[sync.WaitGroup]", "sync/atomic.CompareAndSwapUint64", "internal/race.Write", "sync.runtime_SemacquireWaitGroup"], unfollowed := true, recurses := true, named := ["unicode/utf8.first", "unicode/utf8.acceptRanges", "math/bits.deBruijn64tab", "internal/bytealg.MaxLen"], plainKeys := false, leaving := true, apart := false, laid := [("math/bits.deBruijn64tab", laid_math_bits_deBruijn64tab), ("unicode/utf8.acceptRanges", laid_unicode_utf8_acceptRanges), ("unicode/utf8.first", laid_unicode_utf8_first)], narrowed := true }
def FnExactStateWinnerUptoSaid : Prop := fnExactStateWinnerUptoRow.holds Tryd.pinned (OpenSpec.upto fnExactStateWinnerSpec)

end Rows
end Go.Proofs.YtkekanllfpdeaaaDoor
