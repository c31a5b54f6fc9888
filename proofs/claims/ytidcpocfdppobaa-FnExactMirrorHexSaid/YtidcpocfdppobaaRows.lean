/-
  No cell of these rows narrows 'for every input' (looked for: loops, veiled, ifaces, maps, wideKeys, modest, calm, conditions, laid).
  DERIVED. THE GIVEN ROWS OF THIS SEAT. 12 by the template 'for every input the law returns true; each argument reads behind the call as it read before'; 0 by the template 'total and deterministic' (their statements: YtidcpocfdppobaaTotals.lean).
  GIVEN WITH THE SEED: the statements are not yours to turn. If you find one false, say at which input.
  Laid BY PROGRAM, IN A SANDBOX (cutbox-rows.mjs): the forced cells as the released guide's own fill.sh prints them over the translation 7e5d0ed5a61f959e… (all of the seat's roots in one cut). By AI agents, Wed Nov 11 2026. No macro, syntax, notation, axiom, sorry.
-/
import Derived.Test.YtidcpocfdppobaaChecked
import GoSem.Claim
import GoSem.ClaimJoined
import GoSem.ClaimMapViews
import Derived.JoinedTies
import Derived.KernelRfl
namespace Go.Proofs.Ytidcpocfdppobaa
/- THE CELL 'sum', in the pinned program and in every row, IS THE sha256 OF THE DUMP (.gsa) THAT YtidcpocfdppobaaProg.lean LOADS. Nothing in Lean hashes anything: it is a label: what it is worth is what the hold of that sum in a sandbox is worth. -/
noncomputable def Try.pinned : Pinned := { name := "ytidcpocfdppobaa", sum := "7e5d0ed5a61f959eb7060cf08d897db80f6730e1080eee8f1eb6806daf4bb61d", checked := Try.checked }
namespace Rows
def none {H : Type} : Left H := { results := [], args := [] }

/-- 'laws.FnExactIsHex': WHATEVER THE INPUT: true; the input reads as it did. -/
def fnExactIsHexSpec : ChangeSpec := { name := "fnExactIsHex", fn := fun _ => fun
  | [d] => { results := [.lit (.bool true)], args := [d] }
  | _ => none }
def fnExactIsHexRow : OpenClaim := { program := "ytidcpocfdppobaa", sum := "7e5d0ed5a61f959eb7060cf08d897db80f6730e1080eee8f1eb6806daf4bb61d", func := "loop.example/g01388/laws.FnExactIsHex", spec := "fnExactIsHex", plainKeys := false, apart := false }
def FnExactIsHexSaid : Prop := fnExactIsHexRow.holds Try.pinned (OpenSpec.ofChange fnExactIsHexSpec)

/-- ITS FALSE NEIGHBOUR: 'it returns false'. Refute it at one input. -/
def fnExactIsHexWrong : ChangeSpec := { name := "fnExactIsHex", fn := fun _ => fun
  | [d] => { results := [.lit (.bool false)], args := [d] }
  | _ => none }
def FnExactIsHexWrongFalsely : Prop := fnExactIsHexRow.holds Try.pinned (OpenSpec.ofChange fnExactIsHexWrong)

/-- 'laws.FnExactHexNeighbours': WHATEVER THE INPUT: true; the input reads as it did. -/
def fnExactHexNeighboursSpec : ChangeSpec := { name := "fnExactHexNeighbours", fn := fun _ => fun
  | [d1, d2] => { results := [.lit (.bool true)], args := [d1, d2] }
  | _ => none }
def fnExactHexNeighboursRow : OpenClaim := { program := "ytidcpocfdppobaa", sum := "7e5d0ed5a61f959eb7060cf08d897db80f6730e1080eee8f1eb6806daf4bb61d", func := "loop.example/g01388/laws.FnExactHexNeighbours", spec := "fnExactHexNeighbours", unfollowed := true, recurses := true, plainKeys := false, apart := false }
def FnExactHexNeighboursSaid : Prop := fnExactHexNeighboursRow.holds Try.pinned (OpenSpec.ofChange fnExactHexNeighboursSpec)

/-- ITS FALSE NEIGHBOUR: 'it returns false'. Refute it at one input. -/
def fnExactHexNeighboursWrong : ChangeSpec := { name := "fnExactHexNeighbours", fn := fun _ => fun
  | [d1, d2] => { results := [.lit (.bool false)], args := [d1, d2] }
  | _ => none }
def FnExactHexNeighboursWrongFalsely : Prop := fnExactHexNeighboursRow.holds Try.pinned (OpenSpec.ofChange fnExactHexNeighboursWrong)

/-- 'laws.FnExactJoinerOf': WHATEVER THE INPUT: true; the input reads as it did. -/
def fnExactJoinerOfSpec : ChangeSpec := { name := "fnExactJoinerOf", fn := fun _ => fun
  | [d] => { results := [.lit (.bool true)], args := [d] }
  | _ => none }
def fnExactJoinerOfRow : OpenClaim := { program := "ytidcpocfdppobaa", sum := "7e5d0ed5a61f959eb7060cf08d897db80f6730e1080eee8f1eb6806daf4bb61d", func := "loop.example/g01388/laws.FnExactJoinerOf", spec := "fnExactJoinerOf", unfollowed := true, recurses := true, plainKeys := false, apart := false }
def FnExactJoinerOfSaid : Prop := fnExactJoinerOfRow.holds Try.pinned (OpenSpec.ofChange fnExactJoinerOfSpec)

/-- ITS FALSE NEIGHBOUR: 'it returns false'. Refute it at one input. -/
def fnExactJoinerOfWrong : ChangeSpec := { name := "fnExactJoinerOf", fn := fun _ => fun
  | [d] => { results := [.lit (.bool false)], args := [d] }
  | _ => none }
def FnExactJoinerOfWrongFalsely : Prop := fnExactJoinerOfRow.holds Try.pinned (OpenSpec.ofChange fnExactJoinerOfWrong)

/-- 'laws.FnExactHexMover': WHATEVER THE INPUT: true; the input reads as it did. -/
def fnExactHexMoverSpec : ChangeSpec := { name := "fnExactHexMover", fn := fun _ => fun
  | [d] => { results := [.lit (.bool true)], args := [d] }
  | _ => none }
def fnExactHexMoverRow : OpenClaim := { program := "ytidcpocfdppobaa", sum := "7e5d0ed5a61f959eb7060cf08d897db80f6730e1080eee8f1eb6806daf4bb61d", func := "loop.example/g01388/laws.FnExactHexMover", spec := "fnExactHexMover", plainKeys := false, apart := false }
def FnExactHexMoverSaid : Prop := fnExactHexMoverRow.holds Try.pinned (OpenSpec.ofChange fnExactHexMoverSpec)

/-- ITS FALSE NEIGHBOUR: 'it returns false'. Refute it at one input. -/
def fnExactHexMoverWrong : ChangeSpec := { name := "fnExactHexMover", fn := fun _ => fun
  | [d] => { results := [.lit (.bool false)], args := [d] }
  | _ => none }
def FnExactHexMoverWrongFalsely : Prop := fnExactHexMoverRow.holds Try.pinned (OpenSpec.ofChange fnExactHexMoverWrong)

/-- 'laws.FnExactHexWinner': WHATEVER THE INPUT: true; the input reads as it did. -/
def fnExactHexWinnerSpec : ChangeSpec := { name := "fnExactHexWinner", fn := fun _ => fun
  | [d] => { results := [.lit (.bool true)], args := [d] }
  | _ => none }
def fnExactHexWinnerRow : OpenClaim := { program := "ytidcpocfdppobaa", sum := "7e5d0ed5a61f959eb7060cf08d897db80f6730e1080eee8f1eb6806daf4bb61d", func := "loop.example/g01388/laws.FnExactHexWinner", spec := "fnExactHexWinner", unfollowed := true, recurses := true, plainKeys := false, apart := false }
def FnExactHexWinnerSaid : Prop := fnExactHexWinnerRow.holds Try.pinned (OpenSpec.ofChange fnExactHexWinnerSpec)

/-- ITS FALSE NEIGHBOUR: 'it returns false'. Refute it at one input. -/
def fnExactHexWinnerWrong : ChangeSpec := { name := "fnExactHexWinner", fn := fun _ => fun
  | [d] => { results := [.lit (.bool false)], args := [d] }
  | _ => none }
def FnExactHexWinnerWrongFalsely : Prop := fnExactHexWinnerRow.holds Try.pinned (OpenSpec.ofChange fnExactHexWinnerWrong)

/-- 'laws.FnExactHexMoves': WHATEVER THE INPUT: true; the input reads as it did. -/
def fnExactHexMovesSpec : ChangeSpec := { name := "fnExactHexMoves", fn := fun _ => fun
  | [d] => { results := [.lit (.bool true)], args := [d] }
  | _ => none }
def fnExactHexMovesRow : OpenClaim := { program := "ytidcpocfdppobaa", sum := "7e5d0ed5a61f959eb7060cf08d897db80f6730e1080eee8f1eb6806daf4bb61d", func := "loop.example/g01388/laws.FnExactHexMoves", spec := "fnExactHexMoves", unfollowed := true, recurses := true, plainKeys := false, apart := false }
def FnExactHexMovesSaid : Prop := fnExactHexMovesRow.holds Try.pinned (OpenSpec.ofChange fnExactHexMovesSpec)

/-- ITS FALSE NEIGHBOUR: 'it returns false'. Refute it at one input. -/
def fnExactHexMovesWrong : ChangeSpec := { name := "fnExactHexMoves", fn := fun _ => fun
  | [d] => { results := [.lit (.bool false)], args := [d] }
  | _ => none }
def FnExactHexMovesWrongFalsely : Prop := fnExactHexMovesRow.holds Try.pinned (OpenSpec.ofChange fnExactHexMovesWrong)

/-- 'laws.FnExactDeadCells': WHATEVER THE INPUT: true; the input reads as it did. -/
def fnExactDeadCellsSpec : ChangeSpec := { name := "fnExactDeadCells", fn := fun _ => fun
  | [d] => { results := [.lit (.bool true)], args := [d] }
  | _ => none }
def fnExactDeadCellsRow : OpenClaim := { program := "ytidcpocfdppobaa", sum := "7e5d0ed5a61f959eb7060cf08d897db80f6730e1080eee8f1eb6806daf4bb61d", func := "loop.example/g01388/laws.FnExactDeadCells", spec := "fnExactDeadCells", unfollowed := true, recurses := true, plainKeys := false, apart := false }
def FnExactDeadCellsSaid : Prop := fnExactDeadCellsRow.holds Try.pinned (OpenSpec.ofChange fnExactDeadCellsSpec)

/-- ITS FALSE NEIGHBOUR: 'it returns false'. Refute it at one input. -/
def fnExactDeadCellsWrong : ChangeSpec := { name := "fnExactDeadCells", fn := fun _ => fun
  | [d] => { results := [.lit (.bool false)], args := [d] }
  | _ => none }
def FnExactDeadCellsWrongFalsely : Prop := fnExactDeadCellsRow.holds Try.pinned (OpenSpec.ofChange fnExactDeadCellsWrong)

/-- 'laws.FnExactHexBridges': WHATEVER THE INPUT: true; the input reads as it did. -/
def fnExactHexBridgesSpec : ChangeSpec := { name := "fnExactHexBridges", fn := fun _ => fun
  | [d1, d2] => { results := [.lit (.bool true)], args := [d1, d2] }
  | _ => none }
def fnExactHexBridgesRow : OpenClaim := { program := "ytidcpocfdppobaa", sum := "7e5d0ed5a61f959eb7060cf08d897db80f6730e1080eee8f1eb6806daf4bb61d", func := "loop.example/g01388/laws.FnExactHexBridges", spec := "fnExactHexBridges", unfollowed := true, recurses := true, plainKeys := false, apart := false }
def FnExactHexBridgesSaid : Prop := fnExactHexBridgesRow.holds Try.pinned (OpenSpec.ofChange fnExactHexBridgesSpec)

/-- ITS FALSE NEIGHBOUR: 'it returns false'. Refute it at one input. -/
def fnExactHexBridgesWrong : ChangeSpec := { name := "fnExactHexBridges", fn := fun _ => fun
  | [d1, d2] => { results := [.lit (.bool false)], args := [d1, d2] }
  | _ => none }
def FnExactHexBridgesWrongFalsely : Prop := fnExactHexBridgesRow.holds Try.pinned (OpenSpec.ofChange fnExactHexBridgesWrong)

/-- 'laws.FnExactNeedOf': WHATEVER THE INPUT: true; the input reads as it did. -/
def fnExactNeedOfSpec : ChangeSpec := { name := "fnExactNeedOf", fn := fun _ => fun
  | [d1, d2] => { results := [.lit (.bool true)], args := [d1, d2] }
  | _ => none }
def fnExactNeedOfRow : OpenClaim := { program := "ytidcpocfdppobaa", sum := "7e5d0ed5a61f959eb7060cf08d897db80f6730e1080eee8f1eb6806daf4bb61d", func := "loop.example/g01388/laws.FnExactNeedOf", spec := "fnExactNeedOf", unfollowed := true, recurses := true, plainKeys := false, apart := false }
def FnExactNeedOfSaid : Prop := fnExactNeedOfRow.holds Try.pinned (OpenSpec.ofChange fnExactNeedOfSpec)

/-- ITS FALSE NEIGHBOUR: 'it returns false'. Refute it at one input. -/
def fnExactNeedOfWrong : ChangeSpec := { name := "fnExactNeedOf", fn := fun _ => fun
  | [d1, d2] => { results := [.lit (.bool false)], args := [d1, d2] }
  | _ => none }
def FnExactNeedOfWrongFalsely : Prop := fnExactNeedOfRow.holds Try.pinned (OpenSpec.ofChange fnExactNeedOfWrong)

/-- 'laws.FnExactMirrorHex': WHATEVER THE INPUT: true; the input reads as it did. -/
def fnExactMirrorHexSpec : ChangeSpec := { name := "fnExactMirrorHex", fn := fun _ => fun
  | [d] => { results := [.lit (.bool true)], args := [d] }
  | _ => none }
def fnExactMirrorHexRow : OpenClaim := { program := "ytidcpocfdppobaa", sum := "7e5d0ed5a61f959eb7060cf08d897db80f6730e1080eee8f1eb6806daf4bb61d", func := "loop.example/g01388/laws.FnExactMirrorHex", spec := "fnExactMirrorHex", plainKeys := false, apart := false }
def FnExactMirrorHexSaid : Prop := fnExactMirrorHexRow.holds Try.pinned (OpenSpec.ofChange fnExactMirrorHexSpec)

/-- ITS FALSE NEIGHBOUR: 'it returns false'. Refute it at one input. -/
def fnExactMirrorHexWrong : ChangeSpec := { name := "fnExactMirrorHex", fn := fun _ => fun
  | [d] => { results := [.lit (.bool false)], args := [d] }
  | _ => none }
def FnExactMirrorHexWrongFalsely : Prop := fnExactMirrorHexRow.holds Try.pinned (OpenSpec.ofChange fnExactMirrorHexWrong)

/-- 'laws.FnExactReduceTriangle': WHATEVER THE INPUT: true; the input reads as it did. -/
def fnExactReduceTriangleSpec : ChangeSpec := { name := "fnExactReduceTriangle", fn := fun _ => fun
  | [d1, d2] => { results := [.lit (.bool true)], args := [d1, d2] }
  | _ => none }
def fnExactReduceTriangleRow : OpenClaim := { program := "ytidcpocfdppobaa", sum := "7e5d0ed5a61f959eb7060cf08d897db80f6730e1080eee8f1eb6806daf4bb61d", func := "loop.example/g01388/laws.FnExactReduceTriangle", spec := "fnExactReduceTriangle", plainKeys := false, apart := false }
def FnExactReduceTriangleSaid : Prop := fnExactReduceTriangleRow.holds Try.pinned (OpenSpec.ofChange fnExactReduceTriangleSpec)

/-- ITS FALSE NEIGHBOUR: 'it returns false'. Refute it at one input. -/
def fnExactReduceTriangleWrong : ChangeSpec := { name := "fnExactReduceTriangle", fn := fun _ => fun
  | [d1, d2] => { results := [.lit (.bool false)], args := [d1, d2] }
  | _ => none }
def FnExactReduceTriangleWrongFalsely : Prop := fnExactReduceTriangleRow.holds Try.pinned (OpenSpec.ofChange fnExactReduceTriangleWrong)

/-- 'laws.FnExactTriangleOwner': WHATEVER THE INPUT: true; the input reads as it did. -/
def fnExactTriangleOwnerSpec : ChangeSpec := { name := "fnExactTriangleOwner", fn := fun _ => fun
  | [d1, d2] => { results := [.lit (.bool true)], args := [d1, d2] }
  | _ => none }
def fnExactTriangleOwnerRow : OpenClaim := { program := "ytidcpocfdppobaa", sum := "7e5d0ed5a61f959eb7060cf08d897db80f6730e1080eee8f1eb6806daf4bb61d", func := "loop.example/g01388/laws.FnExactTriangleOwner", spec := "fnExactTriangleOwner", plainKeys := false, apart := false }
def FnExactTriangleOwnerSaid : Prop := fnExactTriangleOwnerRow.holds Try.pinned (OpenSpec.ofChange fnExactTriangleOwnerSpec)

/-- ITS FALSE NEIGHBOUR: 'it returns false'. Refute it at one input. -/
def fnExactTriangleOwnerWrong : ChangeSpec := { name := "fnExactTriangleOwner", fn := fun _ => fun
  | [d1, d2] => { results := [.lit (.bool false)], args := [d1, d2] }
  | _ => none }
def FnExactTriangleOwnerWrongFalsely : Prop := fnExactTriangleOwnerRow.holds Try.pinned (OpenSpec.ofChange fnExactTriangleOwnerWrong)

/- THE SECOND FORM. 'bulk': how many values and letters a reading holds, each counted each time it is reached (what is shared counts as often as it is met; a slice's spare places count too). A statement '..UptoSaid' is the law's where the arguments, and the package variables that the reading takes, are together of bulk at most 1048576: NARROWER than '..Said'. Prove '..Said' where nothing that the law and all that it calls make is longer than what came in: it says more and counts as full. Else prove '..UptoSaid'. A law counts once. -/
mutual
def uptoBulk {H : Type} : DataW H → Nat
  | .lit (.string bytes) => bytes.length + 1
  | .lit _ => 1
  | .nil => 1
  | .ptr d => uptoBulk d + 1
  | .slice elems spare => uptoBulkAll elems + uptoBulkAll spare + 1
  | .agg parts => uptoBulkAll parts + 1
  | .iface _ d => uptoBulk d + 1
  | .map entries => uptoBulkEntries entries + 1
  | .held _ => 1
def uptoBulkAll {H : Type} : List (DataW H) → Nat
  | [] => 0
  | d :: r => uptoBulk d + uptoBulkAll r
def uptoBulkEntries {H : Type} : List (Lit × DataW H) → Nat
  | [] => 0
  | x :: r => uptoBulkEntry x + uptoBulkEntries r
def uptoBulkEntry {H : Type} : Lit × DataW H → Nat
  | (.string bytes, d) => bytes.length + uptoBulk d + 1
  | (_, d) => uptoBulk d + 1
 end
def uptoSmall : (H : Type) → List (DataW H) → Bool := fun _ ds => decide (uptoBulkAll ds ≤ 1048576)
def OpenSpec.upto (s : _root_.Go.ChangeSpec) : _root_.Go.OpenSpec := { _root_.Go.OpenSpec.ofChange s with cond := some uptoSmall }

/-- 'laws.FnExactIsHex', WHERE WHAT IT READS IS OF BULK AT MOST 1048576: true; the input reads as it did. -/
def fnExactIsHexUptoRow : OpenClaim := { program := "ytidcpocfdppobaa", sum := "7e5d0ed5a61f959eb7060cf08d897db80f6730e1080eee8f1eb6806daf4bb61d", func := "loop.example/g01388/laws.FnExactIsHex", spec := "fnExactIsHex", plainKeys := false, apart := false, narrowed := true }
def FnExactIsHexUptoSaid : Prop := fnExactIsHexUptoRow.holds Try.pinned (OpenSpec.upto fnExactIsHexSpec)

/-- 'laws.FnExactHexNeighbours', WHERE WHAT IT READS IS OF BULK AT MOST 1048576: true; the input reads as it did. -/
def fnExactHexNeighboursUptoRow : OpenClaim := { program := "ytidcpocfdppobaa", sum := "7e5d0ed5a61f959eb7060cf08d897db80f6730e1080eee8f1eb6806daf4bb61d", func := "loop.example/g01388/laws.FnExactHexNeighbours", spec := "fnExactHexNeighbours", unfollowed := true, recurses := true, plainKeys := false, apart := false, narrowed := true }
def FnExactHexNeighboursUptoSaid : Prop := fnExactHexNeighboursUptoRow.holds Try.pinned (OpenSpec.upto fnExactHexNeighboursSpec)

/-- 'laws.FnExactJoinerOf', WHERE WHAT IT READS IS OF BULK AT MOST 1048576: true; the input reads as it did. -/
def fnExactJoinerOfUptoRow : OpenClaim := { program := "ytidcpocfdppobaa", sum := "7e5d0ed5a61f959eb7060cf08d897db80f6730e1080eee8f1eb6806daf4bb61d", func := "loop.example/g01388/laws.FnExactJoinerOf", spec := "fnExactJoinerOf", unfollowed := true, recurses := true, plainKeys := false, apart := false, narrowed := true }
def FnExactJoinerOfUptoSaid : Prop := fnExactJoinerOfUptoRow.holds Try.pinned (OpenSpec.upto fnExactJoinerOfSpec)

/-- 'laws.FnExactHexMover', WHERE WHAT IT READS IS OF BULK AT MOST 1048576: true; the input reads as it did. -/
def fnExactHexMoverUptoRow : OpenClaim := { program := "ytidcpocfdppobaa", sum := "7e5d0ed5a61f959eb7060cf08d897db80f6730e1080eee8f1eb6806daf4bb61d", func := "loop.example/g01388/laws.FnExactHexMover", spec := "fnExactHexMover", plainKeys := false, apart := false, narrowed := true }
def FnExactHexMoverUptoSaid : Prop := fnExactHexMoverUptoRow.holds Try.pinned (OpenSpec.upto fnExactHexMoverSpec)

/-- 'laws.FnExactHexWinner', WHERE WHAT IT READS IS OF BULK AT MOST 1048576: true; the input reads as it did. -/
def fnExactHexWinnerUptoRow : OpenClaim := { program := "ytidcpocfdppobaa", sum := "7e5d0ed5a61f959eb7060cf08d897db80f6730e1080eee8f1eb6806daf4bb61d", func := "loop.example/g01388/laws.FnExactHexWinner", spec := "fnExactHexWinner", unfollowed := true, recurses := true, plainKeys := false, apart := false, narrowed := true }
def FnExactHexWinnerUptoSaid : Prop := fnExactHexWinnerUptoRow.holds Try.pinned (OpenSpec.upto fnExactHexWinnerSpec)

/-- 'laws.FnExactHexMoves', WHERE WHAT IT READS IS OF BULK AT MOST 1048576: true; the input reads as it did. -/
def fnExactHexMovesUptoRow : OpenClaim := { program := "ytidcpocfdppobaa", sum := "7e5d0ed5a61f959eb7060cf08d897db80f6730e1080eee8f1eb6806daf4bb61d", func := "loop.example/g01388/laws.FnExactHexMoves", spec := "fnExactHexMoves", unfollowed := true, recurses := true, plainKeys := false, apart := false, narrowed := true }
def FnExactHexMovesUptoSaid : Prop := fnExactHexMovesUptoRow.holds Try.pinned (OpenSpec.upto fnExactHexMovesSpec)

/-- 'laws.FnExactDeadCells', WHERE WHAT IT READS IS OF BULK AT MOST 1048576: true; the input reads as it did. -/
def fnExactDeadCellsUptoRow : OpenClaim := { program := "ytidcpocfdppobaa", sum := "7e5d0ed5a61f959eb7060cf08d897db80f6730e1080eee8f1eb6806daf4bb61d", func := "loop.example/g01388/laws.FnExactDeadCells", spec := "fnExactDeadCells", unfollowed := true, recurses := true, plainKeys := false, apart := false, narrowed := true }
def FnExactDeadCellsUptoSaid : Prop := fnExactDeadCellsUptoRow.holds Try.pinned (OpenSpec.upto fnExactDeadCellsSpec)

/-- 'laws.FnExactHexBridges', WHERE WHAT IT READS IS OF BULK AT MOST 1048576: true; the input reads as it did. -/
def fnExactHexBridgesUptoRow : OpenClaim := { program := "ytidcpocfdppobaa", sum := "7e5d0ed5a61f959eb7060cf08d897db80f6730e1080eee8f1eb6806daf4bb61d", func := "loop.example/g01388/laws.FnExactHexBridges", spec := "fnExactHexBridges", unfollowed := true, recurses := true, plainKeys := false, apart := false, narrowed := true }
def FnExactHexBridgesUptoSaid : Prop := fnExactHexBridgesUptoRow.holds Try.pinned (OpenSpec.upto fnExactHexBridgesSpec)

/-- 'laws.FnExactNeedOf', WHERE WHAT IT READS IS OF BULK AT MOST 1048576: true; the input reads as it did. -/
def fnExactNeedOfUptoRow : OpenClaim := { program := "ytidcpocfdppobaa", sum := "7e5d0ed5a61f959eb7060cf08d897db80f6730e1080eee8f1eb6806daf4bb61d", func := "loop.example/g01388/laws.FnExactNeedOf", spec := "fnExactNeedOf", unfollowed := true, recurses := true, plainKeys := false, apart := false, narrowed := true }
def FnExactNeedOfUptoSaid : Prop := fnExactNeedOfUptoRow.holds Try.pinned (OpenSpec.upto fnExactNeedOfSpec)

/-- 'laws.FnExactMirrorHex', WHERE WHAT IT READS IS OF BULK AT MOST 1048576: true; the input reads as it did. -/
def fnExactMirrorHexUptoRow : OpenClaim := { program := "ytidcpocfdppobaa", sum := "7e5d0ed5a61f959eb7060cf08d897db80f6730e1080eee8f1eb6806daf4bb61d", func := "loop.example/g01388/laws.FnExactMirrorHex", spec := "fnExactMirrorHex", plainKeys := false, apart := false, narrowed := true }
def FnExactMirrorHexUptoSaid : Prop := fnExactMirrorHexUptoRow.holds Try.pinned (OpenSpec.upto fnExactMirrorHexSpec)

/-- 'laws.FnExactReduceTriangle', WHERE WHAT IT READS IS OF BULK AT MOST 1048576: true; the input reads as it did. -/
def fnExactReduceTriangleUptoRow : OpenClaim := { program := "ytidcpocfdppobaa", sum := "7e5d0ed5a61f959eb7060cf08d897db80f6730e1080eee8f1eb6806daf4bb61d", func := "loop.example/g01388/laws.FnExactReduceTriangle", spec := "fnExactReduceTriangle", plainKeys := false, apart := false, narrowed := true }
def FnExactReduceTriangleUptoSaid : Prop := fnExactReduceTriangleUptoRow.holds Try.pinned (OpenSpec.upto fnExactReduceTriangleSpec)

/-- 'laws.FnExactTriangleOwner', WHERE WHAT IT READS IS OF BULK AT MOST 1048576: true; the input reads as it did. -/
def fnExactTriangleOwnerUptoRow : OpenClaim := { program := "ytidcpocfdppobaa", sum := "7e5d0ed5a61f959eb7060cf08d897db80f6730e1080eee8f1eb6806daf4bb61d", func := "loop.example/g01388/laws.FnExactTriangleOwner", spec := "fnExactTriangleOwner", plainKeys := false, apart := false, narrowed := true }
def FnExactTriangleOwnerUptoSaid : Prop := fnExactTriangleOwnerUptoRow.holds Try.pinned (OpenSpec.upto fnExactTriangleOwnerSpec)

end Rows
end Go.Proofs.Ytidcpocfdppobaa
