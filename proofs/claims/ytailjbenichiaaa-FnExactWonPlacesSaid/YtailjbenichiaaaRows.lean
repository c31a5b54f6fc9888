/-
  No cell of these rows narrows 'for every input' (looked for: loops, veiled, ifaces, maps, wideKeys, modest, calm, conditions, laid).
  DERIVED. THE GIVEN ROWS OF THIS SEAT. 11 by the template 'for every input the law returns true; each argument reads behind the call as it read before'; 0 by the template 'total and deterministic' (their statements: YtailjbenichiaaaTotals.lean).
  GIVEN WITH THE SEED: the statements are not yours to turn. If you find one false, say at which input.
  Laid BY PROGRAM, IN A SANDBOX (cutbox-rows.mjs): the forced cells as the released guide's own fill.sh prints them over the translation 3c7471a8ef4f1456… (all of the seat's roots in one cut). By AI agents, Wed Nov 11 2026. No macro, syntax, notation, axiom, sorry.
-/
import Derived.Test.YtailjbenichiaaaChecked
import GoSem.Claim
import GoSem.ClaimJoined
import GoSem.ClaimMapViews
import Derived.JoinedTies
import Derived.KernelRfl
namespace Go.Proofs.Ytailjbenichiaaa
/- THE CELL 'sum', in the pinned program and in every row, IS THE sha256 OF THE DUMP (.gsa) THAT YtailjbenichiaaaProg.lean LOADS. Nothing in Lean hashes anything: it is a label: what it is worth is what the hold of that sum in a sandbox is worth. -/
noncomputable def Try.pinned : Pinned := { name := "ytailjbenichiaaa", sum := "3c7471a8ef4f14566a829ffa8412998a308d5dbe351ce758f7d12c8e50bc9b88", checked := Try.checked }
namespace Rows
def none {H : Type} : Left H := { results := [], args := [] }

/-- 'laws.FnGamePlays': WHATEVER THE INPUT: true; the input reads as it did. -/
def fnGamePlaysSpec : ChangeSpec := { name := "fnGamePlays", fn := fun _ => fun
  | [d] => { results := [.lit (.bool true)], args := [d] }
  | _ => none }
def fnGamePlaysRow : OpenClaim := { program := "ytailjbenichiaaa", sum := "3c7471a8ef4f14566a829ffa8412998a308d5dbe351ce758f7d12c8e50bc9b88", func := "loop.example/g01388/laws.FnGamePlays", spec := "fnGamePlays", unfollowed := true, recurses := true, apart := false }
def FnGamePlaysSaid : Prop := fnGamePlaysRow.holds Try.pinned (OpenSpec.ofChange fnGamePlaysSpec)

/-- ITS FALSE NEIGHBOUR: 'it returns false'. Refute it at one input. -/
def fnGamePlaysWrong : ChangeSpec := { name := "fnGamePlays", fn := fun _ => fun
  | [d] => { results := [.lit (.bool false)], args := [d] }
  | _ => none }
def FnGamePlaysWrongFalsely : Prop := fnGamePlaysRow.holds Try.pinned (OpenSpec.ofChange fnGamePlaysWrong)

/-- 'laws.FnExactIsGame': WHATEVER THE INPUT: true; the input reads as it did. -/
def fnExactIsGameSpec : ChangeSpec := { name := "fnExactIsGame", fn := fun _ => fun
  | [d] => { results := [.lit (.bool true)], args := [d] }
  | _ => none }
def fnExactIsGameRow : OpenClaim := { program := "ytailjbenichiaaa", sum := "3c7471a8ef4f14566a829ffa8412998a308d5dbe351ce758f7d12c8e50bc9b88", func := "loop.example/g01388/laws.FnExactIsGame", spec := "fnExactIsGame", apart := false }
def FnExactIsGameSaid : Prop := fnExactIsGameRow.holds Try.pinned (OpenSpec.ofChange fnExactIsGameSpec)

/-- ITS FALSE NEIGHBOUR: 'it returns false'. Refute it at one input. -/
def fnExactIsGameWrong : ChangeSpec := { name := "fnExactIsGame", fn := fun _ => fun
  | [d] => { results := [.lit (.bool false)], args := [d] }
  | _ => none }
def FnExactIsGameWrongFalsely : Prop := fnExactIsGameRow.holds Try.pinned (OpenSpec.ofChange fnExactIsGameWrong)

/-- 'laws.FnExactEndsOf': WHATEVER THE INPUT: true; the input reads as it did. -/
def fnExactEndsOfSpec : ChangeSpec := { name := "fnExactEndsOf", fn := fun _ => fun
  | [d] => { results := [.lit (.bool true)], args := [d] }
  | _ => none }
def fnExactEndsOfRow : OpenClaim := { program := "ytailjbenichiaaa", sum := "3c7471a8ef4f14566a829ffa8412998a308d5dbe351ce758f7d12c8e50bc9b88", func := "loop.example/g01388/laws.FnExactEndsOf", spec := "fnExactEndsOf", apart := false }
def FnExactEndsOfSaid : Prop := fnExactEndsOfRow.holds Try.pinned (OpenSpec.ofChange fnExactEndsOfSpec)

/-- ITS FALSE NEIGHBOUR: 'it returns false'. Refute it at one input. -/
def fnExactEndsOfWrong : ChangeSpec := { name := "fnExactEndsOf", fn := fun _ => fun
  | [d] => { results := [.lit (.bool false)], args := [d] }
  | _ => none }
def FnExactEndsOfWrongFalsely : Prop := fnExactEndsOfRow.holds Try.pinned (OpenSpec.ofChange fnExactEndsOfWrong)

/-- 'laws.FnExactWonPlaces': WHATEVER THE INPUT: true; the input reads as it did. -/
def fnExactWonPlacesSpec : ChangeSpec := { name := "fnExactWonPlaces", fn := fun _ => fun
  | [d] => { results := [.lit (.bool true)], args := [d] }
  | _ => none }
def fnExactWonPlacesRow : OpenClaim := { program := "ytailjbenichiaaa", sum := "3c7471a8ef4f14566a829ffa8412998a308d5dbe351ce758f7d12c8e50bc9b88", func := "loop.example/g01388/laws.FnExactWonPlaces", spec := "fnExactWonPlaces", unfollowed := true, recurses := true, apart := false }
def FnExactWonPlacesSaid : Prop := fnExactWonPlacesRow.holds Try.pinned (OpenSpec.ofChange fnExactWonPlacesSpec)

/-- ITS FALSE NEIGHBOUR: 'it returns false'. Refute it at one input. -/
def fnExactWonPlacesWrong : ChangeSpec := { name := "fnExactWonPlaces", fn := fun _ => fun
  | [d] => { results := [.lit (.bool false)], args := [d] }
  | _ => none }
def FnExactWonPlacesWrongFalsely : Prop := fnExactWonPlacesRow.holds Try.pinned (OpenSpec.ofChange fnExactWonPlacesWrong)

/-- 'laws.FnExactWonInMisere': WHATEVER THE INPUT: true; the input reads as it did. -/
def fnExactWonInMisereSpec : ChangeSpec := { name := "fnExactWonInMisere", fn := fun _ => fun
  | [d] => { results := [.lit (.bool true)], args := [d] }
  | _ => none }
def fnExactWonInMisereRow : OpenClaim := { program := "ytailjbenichiaaa", sum := "3c7471a8ef4f14566a829ffa8412998a308d5dbe351ce758f7d12c8e50bc9b88", func := "loop.example/g01388/laws.FnExactWonInMisere", spec := "fnExactWonInMisere", unfollowed := true, recurses := true, apart := false }
def FnExactWonInMisereSaid : Prop := fnExactWonInMisereRow.holds Try.pinned (OpenSpec.ofChange fnExactWonInMisereSpec)

/-- ITS FALSE NEIGHBOUR: 'it returns false'. Refute it at one input. -/
def fnExactWonInMisereWrong : ChangeSpec := { name := "fnExactWonInMisere", fn := fun _ => fun
  | [d] => { results := [.lit (.bool false)], args := [d] }
  | _ => none }
def FnExactWonInMisereWrongFalsely : Prop := fnExactWonInMisereRow.holds Try.pinned (OpenSpec.ofChange fnExactWonInMisereWrong)

/-- 'laws.FnExactMexOf': WHATEVER THE INPUT: true; the input reads as it did. -/
def fnExactMexOfSpec : ChangeSpec := { name := "fnExactMexOf", fn := fun _ => fun
  | [d] => { results := [.lit (.bool true)], args := [d] }
  | _ => none }
def fnExactMexOfRow : OpenClaim := { program := "ytailjbenichiaaa", sum := "3c7471a8ef4f14566a829ffa8412998a308d5dbe351ce758f7d12c8e50bc9b88", func := "loop.example/g01388/laws.FnExactMexOf", spec := "fnExactMexOf", apart := false }
def FnExactMexOfSaid : Prop := fnExactMexOfRow.holds Try.pinned (OpenSpec.ofChange fnExactMexOfSpec)

/-- ITS FALSE NEIGHBOUR: 'it returns false'. Refute it at one input. -/
def fnExactMexOfWrong : ChangeSpec := { name := "fnExactMexOf", fn := fun _ => fun
  | [d] => { results := [.lit (.bool false)], args := [d] }
  | _ => none }
def FnExactMexOfWrongFalsely : Prop := fnExactMexOfRow.holds Try.pinned (OpenSpec.ofChange fnExactMexOfWrong)

/-- 'laws.FnExactNimSumOf': WHATEVER THE INPUT: true; the input reads as it did. -/
def fnExactNimSumOfSpec : ChangeSpec := { name := "fnExactNimSumOf", fn := fun _ => fun
  | [d] => { results := [.lit (.bool true)], args := [d] }
  | _ => none }
def fnExactNimSumOfRow : OpenClaim := { program := "ytailjbenichiaaa", sum := "3c7471a8ef4f14566a829ffa8412998a308d5dbe351ce758f7d12c8e50bc9b88", func := "loop.example/g01388/laws.FnExactNimSumOf", spec := "fnExactNimSumOf", apart := false }
def FnExactNimSumOfSaid : Prop := fnExactNimSumOfRow.holds Try.pinned (OpenSpec.ofChange fnExactNimSumOfSpec)

/-- ITS FALSE NEIGHBOUR: 'it returns false'. Refute it at one input. -/
def fnExactNimSumOfWrong : ChangeSpec := { name := "fnExactNimSumOf", fn := fun _ => fun
  | [d] => { results := [.lit (.bool false)], args := [d] }
  | _ => none }
def FnExactNimSumOfWrongFalsely : Prop := fnExactNimSumOfRow.holds Try.pinned (OpenSpec.ofChange fnExactNimSumOfWrong)

/-- 'laws.FnExactGrundyOf': WHATEVER THE INPUT: true; the input reads as it did. -/
def fnExactGrundyOfSpec : ChangeSpec := { name := "fnExactGrundyOf", fn := fun _ => fun
  | [d] => { results := [.lit (.bool true)], args := [d] }
  | _ => none }
def fnExactGrundyOfRow : OpenClaim := { program := "ytailjbenichiaaa", sum := "3c7471a8ef4f14566a829ffa8412998a308d5dbe351ce758f7d12c8e50bc9b88", func := "loop.example/g01388/laws.FnExactGrundyOf", spec := "fnExactGrundyOf", unfollowed := true, recurses := true, apart := false }
def FnExactGrundyOfSaid : Prop := fnExactGrundyOfRow.holds Try.pinned (OpenSpec.ofChange fnExactGrundyOfSpec)

/-- ITS FALSE NEIGHBOUR: 'it returns false'. Refute it at one input. -/
def fnExactGrundyOfWrong : ChangeSpec := { name := "fnExactGrundyOf", fn := fun _ => fun
  | [d] => { results := [.lit (.bool false)], args := [d] }
  | _ => none }
def FnExactGrundyOfWrongFalsely : Prop := fnExactGrundyOfRow.holds Try.pinned (OpenSpec.ofChange fnExactGrundyOfWrong)

/-- 'laws.FnExactFewestMoves': WHATEVER THE INPUT: true; the input reads as it did. -/
def fnExactFewestMovesSpec : ChangeSpec := { name := "fnExactFewestMoves", fn := fun _ => fun
  | [d] => { results := [.lit (.bool true)], args := [d] }
  | _ => none }
def fnExactFewestMovesRow : OpenClaim := { program := "ytailjbenichiaaa", sum := "3c7471a8ef4f14566a829ffa8412998a308d5dbe351ce758f7d12c8e50bc9b88", func := "loop.example/g01388/laws.FnExactFewestMoves", spec := "fnExactFewestMoves", unfollowed := true, recurses := true, apart := false }
def FnExactFewestMovesSaid : Prop := fnExactFewestMovesRow.holds Try.pinned (OpenSpec.ofChange fnExactFewestMovesSpec)

/-- ITS FALSE NEIGHBOUR: 'it returns false'. Refute it at one input. -/
def fnExactFewestMovesWrong : ChangeSpec := { name := "fnExactFewestMoves", fn := fun _ => fun
  | [d] => { results := [.lit (.bool false)], args := [d] }
  | _ => none }
def FnExactFewestMovesWrongFalsely : Prop := fnExactFewestMovesRow.holds Try.pinned (OpenSpec.ofChange fnExactFewestMovesWrong)

/-- 'laws.FnExactMostMoves': WHATEVER THE INPUT: true; the input reads as it did. -/
def fnExactMostMovesSpec : ChangeSpec := { name := "fnExactMostMoves", fn := fun _ => fun
  | [d] => { results := [.lit (.bool true)], args := [d] }
  | _ => none }
def fnExactMostMovesRow : OpenClaim := { program := "ytailjbenichiaaa", sum := "3c7471a8ef4f14566a829ffa8412998a308d5dbe351ce758f7d12c8e50bc9b88", func := "loop.example/g01388/laws.FnExactMostMoves", spec := "fnExactMostMoves", unfollowed := true, recurses := true, apart := false }
def FnExactMostMovesSaid : Prop := fnExactMostMovesRow.holds Try.pinned (OpenSpec.ofChange fnExactMostMovesSpec)

/-- ITS FALSE NEIGHBOUR: 'it returns false'. Refute it at one input. -/
def fnExactMostMovesWrong : ChangeSpec := { name := "fnExactMostMoves", fn := fun _ => fun
  | [d] => { results := [.lit (.bool false)], args := [d] }
  | _ => none }
def FnExactMostMovesWrongFalsely : Prop := fnExactMostMovesRow.holds Try.pinned (OpenSpec.ofChange fnExactMostMovesWrong)

/-- 'laws.FnExactLengthsOf': WHATEVER THE INPUT: true; the input reads as it did. -/
def fnExactLengthsOfSpec : ChangeSpec := { name := "fnExactLengthsOf", fn := fun _ => fun
  | [d] => { results := [.lit (.bool true)], args := [d] }
  | _ => none }
def fnExactLengthsOfRow : OpenClaim := { program := "ytailjbenichiaaa", sum := "3c7471a8ef4f14566a829ffa8412998a308d5dbe351ce758f7d12c8e50bc9b88", func := "loop.example/g01388/laws.FnExactLengthsOf", spec := "fnExactLengthsOf", unfollowed := true, recurses := true, apart := false }
def FnExactLengthsOfSaid : Prop := fnExactLengthsOfRow.holds Try.pinned (OpenSpec.ofChange fnExactLengthsOfSpec)

/-- ITS FALSE NEIGHBOUR: 'it returns false'. Refute it at one input. -/
def fnExactLengthsOfWrong : ChangeSpec := { name := "fnExactLengthsOf", fn := fun _ => fun
  | [d] => { results := [.lit (.bool false)], args := [d] }
  | _ => none }
def FnExactLengthsOfWrongFalsely : Prop := fnExactLengthsOfRow.holds Try.pinned (OpenSpec.ofChange fnExactLengthsOfWrong)

/- THE SECOND FORM. 'bulk': how many values and letters a reading holds, each counted each time it is reached (what is shared counts as often as it is met; a slice's spare places count too). A statement '..UptoSaid' is the law's where the arguments, and the package variables that the reading takes, are together of bulk at most 1048576: NARROWER than '..Said'. Prove '..Said' where nothing that the law and all that it calls make is longer than what came in: it says more and counts as full. Else prove '..UptoSaid'. A law counts once. -/
mutual
def uptoBulk {H : Type} : DataW H → Nat
  | .lit (.string bytes) => bytes.length + 1
  | .lit _ => 1
  | .nil => 1
  | .ptr d => uptoBulk d + 1
  | .slice elems spare => uptoBulkAll elems + uptoBulkAll spare + 1
  | .agg parts => uptoBulkAll parts + 1
  | .iface _ d => uptoBulk d + 1
  | .map entries => uptoBulkEntries entries + 1
  | .held _ => 1
def uptoBulkAll {H : Type} : List (DataW H) → Nat
  | [] => 0
  | d :: r => uptoBulk d + uptoBulkAll r
def uptoBulkEntries {H : Type} : List (Lit × DataW H) → Nat
  | [] => 0
  | x :: r => uptoBulkEntry x + uptoBulkEntries r
def uptoBulkEntry {H : Type} : Lit × DataW H → Nat
  | (.string bytes, d) => bytes.length + uptoBulk d + 1
  | (_, d) => uptoBulk d + 1
 end
def uptoSmall : (H : Type) → List (DataW H) → Bool := fun _ ds => decide (uptoBulkAll ds ≤ 1048576)
def OpenSpec.upto (s : _root_.Go.ChangeSpec) : _root_.Go.OpenSpec := { _root_.Go.OpenSpec.ofChange s with cond := some uptoSmall }

/-- 'laws.FnGamePlays', WHERE WHAT IT READS IS OF BULK AT MOST 1048576: true; the input reads as it did. -/
def fnGamePlaysUptoRow : OpenClaim := { program := "ytailjbenichiaaa", sum := "3c7471a8ef4f14566a829ffa8412998a308d5dbe351ce758f7d12c8e50bc9b88", func := "loop.example/g01388/laws.FnGamePlays", spec := "fnGamePlays", unfollowed := true, recurses := true, apart := false, narrowed := true }
def FnGamePlaysUptoSaid : Prop := fnGamePlaysUptoRow.holds Try.pinned (OpenSpec.upto fnGamePlaysSpec)

/-- 'laws.FnExactIsGame', WHERE WHAT IT READS IS OF BULK AT MOST 1048576: true; the input reads as it did. -/
def fnExactIsGameUptoRow : OpenClaim := { program := "ytailjbenichiaaa", sum := "3c7471a8ef4f14566a829ffa8412998a308d5dbe351ce758f7d12c8e50bc9b88", func := "loop.example/g01388/laws.FnExactIsGame", spec := "fnExactIsGame", apart := false, narrowed := true }
def FnExactIsGameUptoSaid : Prop := fnExactIsGameUptoRow.holds Try.pinned (OpenSpec.upto fnExactIsGameSpec)

/-- 'laws.FnExactEndsOf', WHERE WHAT IT READS IS OF BULK AT MOST 1048576: true; the input reads as it did. -/
def fnExactEndsOfUptoRow : OpenClaim := { program := "ytailjbenichiaaa", sum := "3c7471a8ef4f14566a829ffa8412998a308d5dbe351ce758f7d12c8e50bc9b88", func := "loop.example/g01388/laws.FnExactEndsOf", spec := "fnExactEndsOf", apart := false, narrowed := true }
def FnExactEndsOfUptoSaid : Prop := fnExactEndsOfUptoRow.holds Try.pinned (OpenSpec.upto fnExactEndsOfSpec)

/-- 'laws.FnExactWonPlaces', WHERE WHAT IT READS IS OF BULK AT MOST 1048576: true; the input reads as it did. -/
def fnExactWonPlacesUptoRow : OpenClaim := { program := "ytailjbenichiaaa", sum := "3c7471a8ef4f14566a829ffa8412998a308d5dbe351ce758f7d12c8e50bc9b88", func := "loop.example/g01388/laws.FnExactWonPlaces", spec := "fnExactWonPlaces", unfollowed := true, recurses := true, apart := false, narrowed := true }
def FnExactWonPlacesUptoSaid : Prop := fnExactWonPlacesUptoRow.holds Try.pinned (OpenSpec.upto fnExactWonPlacesSpec)

/-- 'laws.FnExactWonInMisere', WHERE WHAT IT READS IS OF BULK AT MOST 1048576: true; the input reads as it did. -/
def fnExactWonInMisereUptoRow : OpenClaim := { program := "ytailjbenichiaaa", sum := "3c7471a8ef4f14566a829ffa8412998a308d5dbe351ce758f7d12c8e50bc9b88", func := "loop.example/g01388/laws.FnExactWonInMisere", spec := "fnExactWonInMisere", unfollowed := true, recurses := true, apart := false, narrowed := true }
def FnExactWonInMisereUptoSaid : Prop := fnExactWonInMisereUptoRow.holds Try.pinned (OpenSpec.upto fnExactWonInMisereSpec)

/-- 'laws.FnExactMexOf', WHERE WHAT IT READS IS OF BULK AT MOST 1048576: true; the input reads as it did. -/
def fnExactMexOfUptoRow : OpenClaim := { program := "ytailjbenichiaaa", sum := "3c7471a8ef4f14566a829ffa8412998a308d5dbe351ce758f7d12c8e50bc9b88", func := "loop.example/g01388/laws.FnExactMexOf", spec := "fnExactMexOf", apart := false, narrowed := true }
def FnExactMexOfUptoSaid : Prop := fnExactMexOfUptoRow.holds Try.pinned (OpenSpec.upto fnExactMexOfSpec)

/-- 'laws.FnExactNimSumOf', WHERE WHAT IT READS IS OF BULK AT MOST 1048576: true; the input reads as it did. -/
def fnExactNimSumOfUptoRow : OpenClaim := { program := "ytailjbenichiaaa", sum := "3c7471a8ef4f14566a829ffa8412998a308d5dbe351ce758f7d12c8e50bc9b88", func := "loop.example/g01388/laws.FnExactNimSumOf", spec := "fnExactNimSumOf", apart := false, narrowed := true }
def FnExactNimSumOfUptoSaid : Prop := fnExactNimSumOfUptoRow.holds Try.pinned (OpenSpec.upto fnExactNimSumOfSpec)

/-- 'laws.FnExactGrundyOf', WHERE WHAT IT READS IS OF BULK AT MOST 1048576: true; the input reads as it did. -/
def fnExactGrundyOfUptoRow : OpenClaim := { program := "ytailjbenichiaaa", sum := "3c7471a8ef4f14566a829ffa8412998a308d5dbe351ce758f7d12c8e50bc9b88", func := "loop.example/g01388/laws.FnExactGrundyOf", spec := "fnExactGrundyOf", unfollowed := true, recurses := true, apart := false, narrowed := true }
def FnExactGrundyOfUptoSaid : Prop := fnExactGrundyOfUptoRow.holds Try.pinned (OpenSpec.upto fnExactGrundyOfSpec)

/-- 'laws.FnExactFewestMoves', WHERE WHAT IT READS IS OF BULK AT MOST 1048576: true; the input reads as it did. -/
def fnExactFewestMovesUptoRow : OpenClaim := { program := "ytailjbenichiaaa", sum := "3c7471a8ef4f14566a829ffa8412998a308d5dbe351ce758f7d12c8e50bc9b88", func := "loop.example/g01388/laws.FnExactFewestMoves", spec := "fnExactFewestMoves", unfollowed := true, recurses := true, apart := false, narrowed := true }
def FnExactFewestMovesUptoSaid : Prop := fnExactFewestMovesUptoRow.holds Try.pinned (OpenSpec.upto fnExactFewestMovesSpec)

/-- 'laws.FnExactMostMoves', WHERE WHAT IT READS IS OF BULK AT MOST 1048576: true; the input reads as it did. -/
def fnExactMostMovesUptoRow : OpenClaim := { program := "ytailjbenichiaaa", sum := "3c7471a8ef4f14566a829ffa8412998a308d5dbe351ce758f7d12c8e50bc9b88", func := "loop.example/g01388/laws.FnExactMostMoves", spec := "fnExactMostMoves", unfollowed := true, recurses := true, apart := false, narrowed := true }
def FnExactMostMovesUptoSaid : Prop := fnExactMostMovesUptoRow.holds Try.pinned (OpenSpec.upto fnExactMostMovesSpec)

/-- 'laws.FnExactLengthsOf', WHERE WHAT IT READS IS OF BULK AT MOST 1048576: true; the input reads as it did. -/
def fnExactLengthsOfUptoRow : OpenClaim := { program := "ytailjbenichiaaa", sum := "3c7471a8ef4f14566a829ffa8412998a308d5dbe351ce758f7d12c8e50bc9b88", func := "loop.example/g01388/laws.FnExactLengthsOf", spec := "fnExactLengthsOf", unfollowed := true, recurses := true, apart := false, narrowed := true }
def FnExactLengthsOfUptoSaid : Prop := fnExactLengthsOfUptoRow.holds Try.pinned (OpenSpec.upto fnExactLengthsOfSpec)

end Rows
end Go.Proofs.Ytailjbenichiaaa
