/-
  No cell of these rows narrows 'for every input' (looked for: loops, veiled, ifaces, maps, wideKeys, modest, calm, conditions, laid).
  DERIVED. THE GIVEN ROWS OF THIS SEAT. 11 by the template 'for every input the law returns true; each argument reads behind the call as it read before'; 0 by the template 'total and deterministic' (their statements: YtfceiipfjfkehaaTotals.lean).
  GIVEN WITH THE SEED: the statements are not yours to turn. If you find one false, say at which input.
  Laid BY PROGRAM, IN A SANDBOX (cutbox-rows.mjs): the forced cells as the released guide's own fill.sh prints them over the translation 44daee6ede486b56… (all of the seat's roots in one cut). By AI agents, Wed Nov 11 2026. No macro, syntax, notation, axiom, sorry.
-/
import Derived.Test.YtfceiipfjfkehaaChecked
import GoSem.Claim
import GoSem.ClaimJoined
import GoSem.ClaimMapViews
import Derived.JoinedTies
import Derived.KernelRfl
namespace Go.Proofs.Ytfceiipfjfkehaa
/- THE CELL 'sum', in the pinned program and in every row, IS THE sha256 OF THE DUMP (.gsa) THAT YtfceiipfjfkehaaProg.lean LOADS. Nothing in Lean hashes anything: it is a label: what it is worth is what the hold of that sum in a sandbox is worth. -/
noncomputable def Try.pinned : Pinned := { name := "ytfceiipfjfkehaa", sum := "44daee6ede486b56a1f5d237f6e253fa0c14380e268b71c33816baafe7ff8523", checked := Try.checked }
namespace Rows
def none {H : Type} : Left H := { results := [], args := [] }

/-- 'laws.FnExactStartOf': WHATEVER THE INPUT: true; the input reads as it did. -/
def fnExactStartOfSpec : ChangeSpec := { name := "fnExactStartOf", fn := fun _ => fun
  | [d] => { results := [.lit (.bool true)], args := [d] }
  | _ => none }
def fnExactStartOfRow : OpenClaim := { program := "ytfceiipfjfkehaa", sum := "44daee6ede486b56a1f5d237f6e253fa0c14380e268b71c33816baafe7ff8523", func := "loop.example/g01388/laws.FnExactStartOf", spec := "fnExactStartOf", apart := false }
def FnExactStartOfSaid : Prop := fnExactStartOfRow.holds Try.pinned (OpenSpec.ofChange fnExactStartOfSpec)

/-- ITS FALSE NEIGHBOUR: 'it returns false'. Refute it at one input. -/
def fnExactStartOfWrong : ChangeSpec := { name := "fnExactStartOf", fn := fun _ => fun
  | [d] => { results := [.lit (.bool false)], args := [d] }
  | _ => none }
def FnExactStartOfWrongFalsely : Prop := fnExactStartOfRow.holds Try.pinned (OpenSpec.ofChange fnExactStartOfWrong)

/-- 'laws.FnExactIsSprouts': WHATEVER THE INPUT: true; the input reads as it did. -/
def fnExactIsSproutsSpec : ChangeSpec := { name := "fnExactIsSprouts", fn := fun _ => fun
  | [d] => { results := [.lit (.bool true)], args := [d] }
  | _ => none }
def fnExactIsSproutsRow : OpenClaim := { program := "ytfceiipfjfkehaa", sum := "44daee6ede486b56a1f5d237f6e253fa0c14380e268b71c33816baafe7ff8523", func := "loop.example/g01388/laws.FnExactIsSprouts", spec := "fnExactIsSprouts", unfollowed := true, recurses := true, apart := false }
def FnExactIsSproutsSaid : Prop := fnExactIsSproutsRow.holds Try.pinned (OpenSpec.ofChange fnExactIsSproutsSpec)

/-- ITS FALSE NEIGHBOUR: 'it returns false'. Refute it at one input. -/
def fnExactIsSproutsWrong : ChangeSpec := { name := "fnExactIsSprouts", fn := fun _ => fun
  | [d] => { results := [.lit (.bool false)], args := [d] }
  | _ => none }
def FnExactIsSproutsWrongFalsely : Prop := fnExactIsSproutsRow.holds Try.pinned (OpenSpec.ofChange fnExactIsSproutsWrong)

/-- 'laws.FnExactDegreesOf': WHATEVER THE INPUT: true; the input reads as it did. -/
def fnExactDegreesOfSpec : ChangeSpec := { name := "fnExactDegreesOf", fn := fun _ => fun
  | [d] => { results := [.lit (.bool true)], args := [d] }
  | _ => none }
def fnExactDegreesOfRow : OpenClaim := { program := "ytfceiipfjfkehaa", sum := "44daee6ede486b56a1f5d237f6e253fa0c14380e268b71c33816baafe7ff8523", func := "loop.example/g01388/laws.FnExactDegreesOf", spec := "fnExactDegreesOf", unfollowed := true, recurses := true, apart := false }
def FnExactDegreesOfSaid : Prop := fnExactDegreesOfRow.holds Try.pinned (OpenSpec.ofChange fnExactDegreesOfSpec)

/-- ITS FALSE NEIGHBOUR: 'it returns false'. Refute it at one input. -/
def fnExactDegreesOfWrong : ChangeSpec := { name := "fnExactDegreesOf", fn := fun _ => fun
  | [d] => { results := [.lit (.bool false)], args := [d] }
  | _ => none }
def FnExactDegreesOfWrongFalsely : Prop := fnExactDegreesOfRow.holds Try.pinned (OpenSpec.ofChange fnExactDegreesOfWrong)

/-- 'laws.FnExactLivesOf': WHATEVER THE INPUT: true; the input reads as it did. -/
def fnExactLivesOfSpec : ChangeSpec := { name := "fnExactLivesOf", fn := fun _ => fun
  | [d] => { results := [.lit (.bool true)], args := [d] }
  | _ => none }
def fnExactLivesOfRow : OpenClaim := { program := "ytfceiipfjfkehaa", sum := "44daee6ede486b56a1f5d237f6e253fa0c14380e268b71c33816baafe7ff8523", func := "loop.example/g01388/laws.FnExactLivesOf", spec := "fnExactLivesOf", unfollowed := true, recurses := true, apart := false }
def FnExactLivesOfSaid : Prop := fnExactLivesOfRow.holds Try.pinned (OpenSpec.ofChange fnExactLivesOfSpec)

/-- ITS FALSE NEIGHBOUR: 'it returns false'. Refute it at one input. -/
def fnExactLivesOfWrong : ChangeSpec := { name := "fnExactLivesOf", fn := fun _ => fun
  | [d] => { results := [.lit (.bool false)], args := [d] }
  | _ => none }
def FnExactLivesOfWrongFalsely : Prop := fnExactLivesOfRow.holds Try.pinned (OpenSpec.ofChange fnExactLivesOfWrong)

/-- 'laws.FnExactSproutMoves': WHATEVER THE INPUT: true; the input reads as it did. -/
def fnExactSproutMovesSpec : ChangeSpec := { name := "fnExactSproutMoves", fn := fun _ => fun
  | [d] => { results := [.lit (.bool true)], args := [d] }
  | _ => none }
def fnExactSproutMovesRow : OpenClaim := { program := "ytfceiipfjfkehaa", sum := "44daee6ede486b56a1f5d237f6e253fa0c14380e268b71c33816baafe7ff8523", func := "loop.example/g01388/laws.FnExactSproutMoves", spec := "fnExactSproutMoves", unfollowed := true, recurses := true, apart := false }
def FnExactSproutMovesSaid : Prop := fnExactSproutMovesRow.holds Try.pinned (OpenSpec.ofChange fnExactSproutMovesSpec)

/-- ITS FALSE NEIGHBOUR: 'it returns false'. Refute it at one input. -/
def fnExactSproutMovesWrong : ChangeSpec := { name := "fnExactSproutMoves", fn := fun _ => fun
  | [d] => { results := [.lit (.bool false)], args := [d] }
  | _ => none }
def FnExactSproutMovesWrongFalsely : Prop := fnExactSproutMovesRow.holds Try.pinned (OpenSpec.ofChange fnExactSproutMovesWrong)

/-- 'laws.FnExactMakeSproutMove': WHATEVER THE INPUT: true; the input reads as it did. -/
def fnExactMakeSproutMoveSpec : ChangeSpec := { name := "fnExactMakeSproutMove", fn := fun _ => fun
  | [d1, d2] => { results := [.lit (.bool true)], args := [d1, d2] }
  | _ => none }
def fnExactMakeSproutMoveRow : OpenClaim := { program := "ytfceiipfjfkehaa", sum := "44daee6ede486b56a1f5d237f6e253fa0c14380e268b71c33816baafe7ff8523", func := "loop.example/g01388/laws.FnExactMakeSproutMove", spec := "fnExactMakeSproutMove", unfollowed := true, recurses := true, apart := false }
def FnExactMakeSproutMoveSaid : Prop := fnExactMakeSproutMoveRow.holds Try.pinned (OpenSpec.ofChange fnExactMakeSproutMoveSpec)

/-- ITS FALSE NEIGHBOUR: 'it returns false'. Refute it at one input. -/
def fnExactMakeSproutMoveWrong : ChangeSpec := { name := "fnExactMakeSproutMove", fn := fun _ => fun
  | [d1, d2] => { results := [.lit (.bool false)], args := [d1, d2] }
  | _ => none }
def FnExactMakeSproutMoveWrongFalsely : Prop := fnExactMakeSproutMoveRow.holds Try.pinned (OpenSpec.ofChange fnExactMakeSproutMoveWrong)

/-- 'laws.FnExactSproutGrundy': WHATEVER THE INPUT: true; the input reads as it did. -/
def fnExactSproutGrundySpec : ChangeSpec := { name := "fnExactSproutGrundy", fn := fun _ => fun
  | [d] => { results := [.lit (.bool true)], args := [d] }
  | _ => none }
def fnExactSproutGrundyRow : OpenClaim := { program := "ytfceiipfjfkehaa", sum := "44daee6ede486b56a1f5d237f6e253fa0c14380e268b71c33816baafe7ff8523", func := "loop.example/g01388/laws.FnExactSproutGrundy", spec := "fnExactSproutGrundy", inPlace := ["internal/abi.NoEscape"], unfollowed := true, recurses := true, apart := false }
def FnExactSproutGrundySaid : Prop := fnExactSproutGrundyRow.holds Try.pinned (OpenSpec.ofChange fnExactSproutGrundySpec)

/-- ITS FALSE NEIGHBOUR: 'it returns false'. Refute it at one input. -/
def fnExactSproutGrundyWrong : ChangeSpec := { name := "fnExactSproutGrundy", fn := fun _ => fun
  | [d] => { results := [.lit (.bool false)], args := [d] }
  | _ => none }
def FnExactSproutGrundyWrongFalsely : Prop := fnExactSproutGrundyRow.holds Try.pinned (OpenSpec.ofChange fnExactSproutGrundyWrong)

/-- 'laws.FnExactSproutLengths': WHATEVER THE INPUT: true; the input reads as it did. -/
def fnExactSproutLengthsSpec : ChangeSpec := { name := "fnExactSproutLengths", fn := fun _ => fun
  | [d] => { results := [.lit (.bool true)], args := [d] }
  | _ => none }
def fnExactSproutLengthsRow : OpenClaim := { program := "ytfceiipfjfkehaa", sum := "44daee6ede486b56a1f5d237f6e253fa0c14380e268b71c33816baafe7ff8523", func := "loop.example/g01388/laws.FnExactSproutLengths", spec := "fnExactSproutLengths", inPlace := ["internal/abi.NoEscape"], unfollowed := true, recurses := true, apart := false }
def FnExactSproutLengthsSaid : Prop := fnExactSproutLengthsRow.holds Try.pinned (OpenSpec.ofChange fnExactSproutLengthsSpec)

/-- ITS FALSE NEIGHBOUR: 'it returns false'. Refute it at one input. -/
def fnExactSproutLengthsWrong : ChangeSpec := { name := "fnExactSproutLengths", fn := fun _ => fun
  | [d] => { results := [.lit (.bool false)], args := [d] }
  | _ => none }
def FnExactSproutLengthsWrongFalsely : Prop := fnExactSproutLengthsRow.holds Try.pinned (OpenSpec.ofChange fnExactSproutLengthsWrong)

/-- 'laws.FnExactFirstWinningMove': WHATEVER THE INPUT: true; the input reads as it did. -/
def fnExactFirstWinningMoveSpec : ChangeSpec := { name := "fnExactFirstWinningMove", fn := fun _ => fun
  | [d] => { results := [.lit (.bool true)], args := [d] }
  | _ => none }
def fnExactFirstWinningMoveRow : OpenClaim := { program := "ytfceiipfjfkehaa", sum := "44daee6ede486b56a1f5d237f6e253fa0c14380e268b71c33816baafe7ff8523", func := "loop.example/g01388/laws.FnExactFirstWinningMove", spec := "fnExactFirstWinningMove", inPlace := ["internal/abi.NoEscape"], unfollowed := true, recurses := true, apart := false }
def FnExactFirstWinningMoveSaid : Prop := fnExactFirstWinningMoveRow.holds Try.pinned (OpenSpec.ofChange fnExactFirstWinningMoveSpec)

/-- ITS FALSE NEIGHBOUR: 'it returns false'. Refute it at one input. -/
def fnExactFirstWinningMoveWrong : ChangeSpec := { name := "fnExactFirstWinningMove", fn := fun _ => fun
  | [d] => { results := [.lit (.bool false)], args := [d] }
  | _ => none }
def FnExactFirstWinningMoveWrongFalsely : Prop := fnExactFirstWinningMoveRow.holds Try.pinned (OpenSpec.ofChange fnExactFirstWinningMoveWrong)

/-- 'laws.FnExactPlaySprouts': WHATEVER THE INPUT: true; the input reads as it did. -/
def fnExactPlaySproutsSpec : ChangeSpec := { name := "fnExactPlaySprouts", fn := fun _ => fun
  | [d1, d2] => { results := [.lit (.bool true)], args := [d1, d2] }
  | _ => none }
def fnExactPlaySproutsRow : OpenClaim := { program := "ytfceiipfjfkehaa", sum := "44daee6ede486b56a1f5d237f6e253fa0c14380e268b71c33816baafe7ff8523", func := "loop.example/g01388/laws.FnExactPlaySprouts", spec := "fnExactPlaySprouts", unfollowed := true, recurses := true, apart := false }
def FnExactPlaySproutsSaid : Prop := fnExactPlaySproutsRow.holds Try.pinned (OpenSpec.ofChange fnExactPlaySproutsSpec)

/-- ITS FALSE NEIGHBOUR: 'it returns false'. Refute it at one input. -/
def fnExactPlaySproutsWrong : ChangeSpec := { name := "fnExactPlaySprouts", fn := fun _ => fun
  | [d1, d2] => { results := [.lit (.bool false)], args := [d1, d2] }
  | _ => none }
def FnExactPlaySproutsWrongFalsely : Prop := fnExactPlaySproutsRow.holds Try.pinned (OpenSpec.ofChange fnExactPlaySproutsWrong)

/-- 'laws.FnExactSproutsText': WHATEVER THE INPUT: true; the input reads as it did. -/
def fnExactSproutsTextSpec : ChangeSpec := { name := "fnExactSproutsText", fn := fun _ => fun
  | [d] => { results := [.lit (.bool true)], args := [d] }
  | _ => none }
def fnExactSproutsTextRow : OpenClaim := { program := "ytfceiipfjfkehaa", sum := "44daee6ede486b56a1f5d237f6e253fa0c14380e268b71c33816baafe7ff8523", func := "loop.example/g01388/laws.FnExactSproutsText", spec := "fnExactSproutsText", inPlace := ["internal/abi.NoEscape"], unfollowed := true, recurses := true, apart := false }
def FnExactSproutsTextSaid : Prop := fnExactSproutsTextRow.holds Try.pinned (OpenSpec.ofChange fnExactSproutsTextSpec)

/-- ITS FALSE NEIGHBOUR: 'it returns false'. Refute it at one input. -/
def fnExactSproutsTextWrong : ChangeSpec := { name := "fnExactSproutsText", fn := fun _ => fun
  | [d] => { results := [.lit (.bool false)], args := [d] }
  | _ => none }
def FnExactSproutsTextWrongFalsely : Prop := fnExactSproutsTextRow.holds Try.pinned (OpenSpec.ofChange fnExactSproutsTextWrong)

/- THE SECOND FORM. 'bulk': how many values and letters a reading holds, each counted each time it is reached (what is shared counts as often as it is met; a slice's spare places count too). A statement '..UptoSaid' is the law's where the arguments, and the package variables that the reading takes, are together of bulk at most 1048576: NARROWER than '..Said'. Prove '..Said' where nothing that the law and all that it calls make is longer than what came in: it says more and counts as full. Else prove '..UptoSaid'. A law counts once. -/
mutual
def uptoBulk {H : Type} : DataW H → Nat
  | .lit (.string bytes) => bytes.length + 1
  | .lit _ => 1
  | .nil => 1
  | .ptr d => uptoBulk d + 1
  | .slice elems spare => uptoBulkAll elems + uptoBulkAll spare + 1
  | .agg parts => uptoBulkAll parts + 1
  | .iface _ d => uptoBulk d + 1
  | .map entries => uptoBulkEntries entries + 1
  | .held _ => 1
def uptoBulkAll {H : Type} : List (DataW H) → Nat
  | [] => 0
  | d :: r => uptoBulk d + uptoBulkAll r
def uptoBulkEntries {H : Type} : List (Lit × DataW H) → Nat
  | [] => 0
  | x :: r => uptoBulkEntry x + uptoBulkEntries r
def uptoBulkEntry {H : Type} : Lit × DataW H → Nat
  | (.string bytes, d) => bytes.length + uptoBulk d + 1
  | (_, d) => uptoBulk d + 1
 end
def uptoSmall : (H : Type) → List (DataW H) → Bool := fun _ ds => decide (uptoBulkAll ds ≤ 1048576)
def OpenSpec.upto (s : _root_.Go.ChangeSpec) : _root_.Go.OpenSpec := { _root_.Go.OpenSpec.ofChange s with cond := some uptoSmall }

/-- 'laws.FnExactStartOf', WHERE WHAT IT READS IS OF BULK AT MOST 1048576: true; the input reads as it did. -/
def fnExactStartOfUptoRow : OpenClaim := { program := "ytfceiipfjfkehaa", sum := "44daee6ede486b56a1f5d237f6e253fa0c14380e268b71c33816baafe7ff8523", func := "loop.example/g01388/laws.FnExactStartOf", spec := "fnExactStartOf", apart := false, narrowed := true }
def FnExactStartOfUptoSaid : Prop := fnExactStartOfUptoRow.holds Try.pinned (OpenSpec.upto fnExactStartOfSpec)

/-- 'laws.FnExactIsSprouts', WHERE WHAT IT READS IS OF BULK AT MOST 1048576: true; the input reads as it did. -/
def fnExactIsSproutsUptoRow : OpenClaim := { program := "ytfceiipfjfkehaa", sum := "44daee6ede486b56a1f5d237f6e253fa0c14380e268b71c33816baafe7ff8523", func := "loop.example/g01388/laws.FnExactIsSprouts", spec := "fnExactIsSprouts", unfollowed := true, recurses := true, apart := false, narrowed := true }
def FnExactIsSproutsUptoSaid : Prop := fnExactIsSproutsUptoRow.holds Try.pinned (OpenSpec.upto fnExactIsSproutsSpec)

/-- 'laws.FnExactDegreesOf', WHERE WHAT IT READS IS OF BULK AT MOST 1048576: true; the input reads as it did. -/
def fnExactDegreesOfUptoRow : OpenClaim := { program := "ytfceiipfjfkehaa", sum := "44daee6ede486b56a1f5d237f6e253fa0c14380e268b71c33816baafe7ff8523", func := "loop.example/g01388/laws.FnExactDegreesOf", spec := "fnExactDegreesOf", unfollowed := true, recurses := true, apart := false, narrowed := true }
def FnExactDegreesOfUptoSaid : Prop := fnExactDegreesOfUptoRow.holds Try.pinned (OpenSpec.upto fnExactDegreesOfSpec)

/-- 'laws.FnExactLivesOf', WHERE WHAT IT READS IS OF BULK AT MOST 1048576: true; the input reads as it did. -/
def fnExactLivesOfUptoRow : OpenClaim := { program := "ytfceiipfjfkehaa", sum := "44daee6ede486b56a1f5d237f6e253fa0c14380e268b71c33816baafe7ff8523", func := "loop.example/g01388/laws.FnExactLivesOf", spec := "fnExactLivesOf", unfollowed := true, recurses := true, apart := false, narrowed := true }
def FnExactLivesOfUptoSaid : Prop := fnExactLivesOfUptoRow.holds Try.pinned (OpenSpec.upto fnExactLivesOfSpec)

/-- 'laws.FnExactSproutMoves', WHERE WHAT IT READS IS OF BULK AT MOST 1048576: true; the input reads as it did. -/
def fnExactSproutMovesUptoRow : OpenClaim := { program := "ytfceiipfjfkehaa", sum := "44daee6ede486b56a1f5d237f6e253fa0c14380e268b71c33816baafe7ff8523", func := "loop.example/g01388/laws.FnExactSproutMoves", spec := "fnExactSproutMoves", unfollowed := true, recurses := true, apart := false, narrowed := true }
def FnExactSproutMovesUptoSaid : Prop := fnExactSproutMovesUptoRow.holds Try.pinned (OpenSpec.upto fnExactSproutMovesSpec)

/-- 'laws.FnExactMakeSproutMove', WHERE WHAT IT READS IS OF BULK AT MOST 1048576: true; the input reads as it did. -/
def fnExactMakeSproutMoveUptoRow : OpenClaim := { program := "ytfceiipfjfkehaa", sum := "44daee6ede486b56a1f5d237f6e253fa0c14380e268b71c33816baafe7ff8523", func := "loop.example/g01388/laws.FnExactMakeSproutMove", spec := "fnExactMakeSproutMove", unfollowed := true, recurses := true, apart := false, narrowed := true }
def FnExactMakeSproutMoveUptoSaid : Prop := fnExactMakeSproutMoveUptoRow.holds Try.pinned (OpenSpec.upto fnExactMakeSproutMoveSpec)

/-- 'laws.FnExactSproutGrundy', WHERE WHAT IT READS IS OF BULK AT MOST 1048576: true; the input reads as it did. -/
def fnExactSproutGrundyUptoRow : OpenClaim := { program := "ytfceiipfjfkehaa", sum := "44daee6ede486b56a1f5d237f6e253fa0c14380e268b71c33816baafe7ff8523", func := "loop.example/g01388/laws.FnExactSproutGrundy", spec := "fnExactSproutGrundy", inPlace := ["internal/abi.NoEscape"], unfollowed := true, recurses := true, apart := false, narrowed := true }
def FnExactSproutGrundyUptoSaid : Prop := fnExactSproutGrundyUptoRow.holds Try.pinned (OpenSpec.upto fnExactSproutGrundySpec)

/-- 'laws.FnExactSproutLengths', WHERE WHAT IT READS IS OF BULK AT MOST 1048576: true; the input reads as it did. -/
def fnExactSproutLengthsUptoRow : OpenClaim := { program := "ytfceiipfjfkehaa", sum := "44daee6ede486b56a1f5d237f6e253fa0c14380e268b71c33816baafe7ff8523", func := "loop.example/g01388/laws.FnExactSproutLengths", spec := "fnExactSproutLengths", inPlace := ["internal/abi.NoEscape"], unfollowed := true, recurses := true, apart := false, narrowed := true }
def FnExactSproutLengthsUptoSaid : Prop := fnExactSproutLengthsUptoRow.holds Try.pinned (OpenSpec.upto fnExactSproutLengthsSpec)

/-- 'laws.FnExactFirstWinningMove', WHERE WHAT IT READS IS OF BULK AT MOST 1048576: true; the input reads as it did. -/
def fnExactFirstWinningMoveUptoRow : OpenClaim := { program := "ytfceiipfjfkehaa", sum := "44daee6ede486b56a1f5d237f6e253fa0c14380e268b71c33816baafe7ff8523", func := "loop.example/g01388/laws.FnExactFirstWinningMove", spec := "fnExactFirstWinningMove", inPlace := ["internal/abi.NoEscape"], unfollowed := true, recurses := true, apart := false, narrowed := true }
def FnExactFirstWinningMoveUptoSaid : Prop := fnExactFirstWinningMoveUptoRow.holds Try.pinned (OpenSpec.upto fnExactFirstWinningMoveSpec)

/-- 'laws.FnExactPlaySprouts', WHERE WHAT IT READS IS OF BULK AT MOST 1048576: true; the input reads as it did. -/
def fnExactPlaySproutsUptoRow : OpenClaim := { program := "ytfceiipfjfkehaa", sum := "44daee6ede486b56a1f5d237f6e253fa0c14380e268b71c33816baafe7ff8523", func := "loop.example/g01388/laws.FnExactPlaySprouts", spec := "fnExactPlaySprouts", unfollowed := true, recurses := true, apart := false, narrowed := true }
def FnExactPlaySproutsUptoSaid : Prop := fnExactPlaySproutsUptoRow.holds Try.pinned (OpenSpec.upto fnExactPlaySproutsSpec)

/-- 'laws.FnExactSproutsText', WHERE WHAT IT READS IS OF BULK AT MOST 1048576: true; the input reads as it did. -/
def fnExactSproutsTextUptoRow : OpenClaim := { program := "ytfceiipfjfkehaa", sum := "44daee6ede486b56a1f5d237f6e253fa0c14380e268b71c33816baafe7ff8523", func := "loop.example/g01388/laws.FnExactSproutsText", spec := "fnExactSproutsText", inPlace := ["internal/abi.NoEscape"], unfollowed := true, recurses := true, apart := false, narrowed := true }
def FnExactSproutsTextUptoSaid : Prop := fnExactSproutsTextUptoRow.holds Try.pinned (OpenSpec.upto fnExactSproutsTextSpec)

end Rows
end Go.Proofs.Ytfceiipfjfkehaa
