/-
  No cell of these rows narrows 'for every input' (looked for: loops, veiled, ifaces, maps, wideKeys, modest, calm, conditions, laid).
  DERIVED. THE GIVEN ROWS OF THIS SEAT. 7 by the template 'for every input the law returns true; each argument reads behind the call as it read before'; 0 by the template 'total and deterministic' (their statements: YtlgogpphlnogoaaTotals.lean).
  GIVEN WITH THE SEED: the statements are not yours to turn. If you find one false, say at which input.
  Laid BY PROGRAM, IN A SANDBOX (cutbox-rows.mjs): the forced cells as the released guide's own fill.sh prints them over the translation b55fa8237f41814d… (all of the seat's roots in one cut). By AI agents, Wed Nov 11 2026. No macro, syntax, notation, axiom, sorry.
-/
import Derived.Test.YtlgogpphlnogoaaChecked
import GoSem.Claim
import GoSem.ClaimJoined
import GoSem.ClaimMapViews
import Derived.JoinedTies
import Derived.KernelRfl
namespace Go.Proofs.Ytlgogpphlnogoaa
/- THE CELL 'sum', in the pinned program and in every row, IS THE sha256 OF THE DUMP (.gsa) THAT YtlgogpphlnogoaaProg.lean LOADS. Nothing in Lean hashes anything: it is a label: what it is worth is what the hold of that sum in a sandbox is worth. -/
noncomputable def Try.pinned : Pinned := { name := "ytlgogpphlnogoaa", sum := "b55fa8237f41814d7b645af7a63c9ce34c2d31714b78f9358427ea1fc65ba90f", checked := Try.checked }
namespace Rows
def none {H : Type} : Left H := { results := [], args := [] }

/-- 'laws.FnExactFewestMoves': WHATEVER THE INPUT: true; the input reads as it did. -/
def fnExactFewestMovesSpec : ChangeSpec := { name := "fnExactFewestMoves", fn := fun _ => fun
  | [d] => { results := [.lit (.bool true)], args := [d] }
  | _ => none }
def fnExactFewestMovesRow : OpenClaim := { program := "ytlgogpphlnogoaa", sum := "b55fa8237f41814d7b645af7a63c9ce34c2d31714b78f9358427ea1fc65ba90f", func := "loop.example/g01388/laws.FnExactFewestMoves", spec := "fnExactFewestMoves", unfollowed := true, recurses := true, apart := false }
def FnExactFewestMovesSaid : Prop := fnExactFewestMovesRow.holds Try.pinned (OpenSpec.ofChange fnExactFewestMovesSpec)

/-- ITS FALSE NEIGHBOUR: 'it returns false'. Refute it at one input. -/
def fnExactFewestMovesWrong : ChangeSpec := { name := "fnExactFewestMoves", fn := fun _ => fun
  | [d] => { results := [.lit (.bool false)], args := [d] }
  | _ => none }
def FnExactFewestMovesWrongFalsely : Prop := fnExactFewestMovesRow.holds Try.pinned (OpenSpec.ofChange fnExactFewestMovesWrong)

/-- 'laws.FnExactMostMoves': WHATEVER THE INPUT: true; the input reads as it did. -/
def fnExactMostMovesSpec : ChangeSpec := { name := "fnExactMostMoves", fn := fun _ => fun
  | [d] => { results := [.lit (.bool true)], args := [d] }
  | _ => none }
def fnExactMostMovesRow : OpenClaim := { program := "ytlgogpphlnogoaa", sum := "b55fa8237f41814d7b645af7a63c9ce34c2d31714b78f9358427ea1fc65ba90f", func := "loop.example/g01388/laws.FnExactMostMoves", spec := "fnExactMostMoves", unfollowed := true, recurses := true, apart := false }
def FnExactMostMovesSaid : Prop := fnExactMostMovesRow.holds Try.pinned (OpenSpec.ofChange fnExactMostMovesSpec)

/-- ITS FALSE NEIGHBOUR: 'it returns false'. Refute it at one input. -/
def fnExactMostMovesWrong : ChangeSpec := { name := "fnExactMostMoves", fn := fun _ => fun
  | [d] => { results := [.lit (.bool false)], args := [d] }
  | _ => none }
def FnExactMostMovesWrongFalsely : Prop := fnExactMostMovesRow.holds Try.pinned (OpenSpec.ofChange fnExactMostMovesWrong)

/-- 'laws.FnExactLengthsOf': WHATEVER THE INPUT: true; the input reads as it did. -/
def fnExactLengthsOfSpec : ChangeSpec := { name := "fnExactLengthsOf", fn := fun _ => fun
  | [d] => { results := [.lit (.bool true)], args := [d] }
  | _ => none }
def fnExactLengthsOfRow : OpenClaim := { program := "ytlgogpphlnogoaa", sum := "b55fa8237f41814d7b645af7a63c9ce34c2d31714b78f9358427ea1fc65ba90f", func := "loop.example/g01388/laws.FnExactLengthsOf", spec := "fnExactLengthsOf", unfollowed := true, recurses := true, apart := false }
def FnExactLengthsOfSaid : Prop := fnExactLengthsOfRow.holds Try.pinned (OpenSpec.ofChange fnExactLengthsOfSpec)

/-- ITS FALSE NEIGHBOUR: 'it returns false'. Refute it at one input. -/
def fnExactLengthsOfWrong : ChangeSpec := { name := "fnExactLengthsOf", fn := fun _ => fun
  | [d] => { results := [.lit (.bool false)], args := [d] }
  | _ => none }
def FnExactLengthsOfWrongFalsely : Prop := fnExactLengthsOfRow.holds Try.pinned (OpenSpec.ofChange fnExactLengthsOfWrong)

/-- 'laws.FnExactSumOfGames': WHATEVER THE INPUT: true; the input reads as it did. -/
def fnExactSumOfGamesSpec : ChangeSpec := { name := "fnExactSumOfGames", fn := fun _ => fun
  | [d1, d2] => { results := [.lit (.bool true)], args := [d1, d2] }
  | _ => none }
def fnExactSumOfGamesRow : OpenClaim := { program := "ytlgogpphlnogoaa", sum := "b55fa8237f41814d7b645af7a63c9ce34c2d31714b78f9358427ea1fc65ba90f", func := "loop.example/g01388/laws.FnExactSumOfGames", spec := "fnExactSumOfGames", apart := false }
def FnExactSumOfGamesSaid : Prop := fnExactSumOfGamesRow.holds Try.pinned (OpenSpec.ofChange fnExactSumOfGamesSpec)

/-- ITS FALSE NEIGHBOUR: 'it returns false'. Refute it at one input. -/
def fnExactSumOfGamesWrong : ChangeSpec := { name := "fnExactSumOfGames", fn := fun _ => fun
  | [d1, d2] => { results := [.lit (.bool false)], args := [d1, d2] }
  | _ => none }
def FnExactSumOfGamesWrongFalsely : Prop := fnExactSumOfGamesRow.holds Try.pinned (OpenSpec.ofChange fnExactSumOfGamesWrong)

/-- 'laws.FnExactHeapGame': WHATEVER THE INPUT: true; the input reads as it did. -/
def fnExactHeapGameSpec : ChangeSpec := { name := "fnExactHeapGame", fn := fun _ => fun
  | [d1, d2] => { results := [.lit (.bool true)], args := [d1, d2] }
  | _ => none }
def fnExactHeapGameRow : OpenClaim := { program := "ytlgogpphlnogoaa", sum := "b55fa8237f41814d7b645af7a63c9ce34c2d31714b78f9358427ea1fc65ba90f", func := "loop.example/g01388/laws.FnExactHeapGame", spec := "fnExactHeapGame", apart := false }
def FnExactHeapGameSaid : Prop := fnExactHeapGameRow.holds Try.pinned (OpenSpec.ofChange fnExactHeapGameSpec)

/-- ITS FALSE NEIGHBOUR: 'it returns false'. Refute it at one input. -/
def fnExactHeapGameWrong : ChangeSpec := { name := "fnExactHeapGame", fn := fun _ => fun
  | [d1, d2] => { results := [.lit (.bool false)], args := [d1, d2] }
  | _ => none }
def FnExactHeapGameWrongFalsely : Prop := fnExactHeapGameRow.holds Try.pinned (OpenSpec.ofChange fnExactHeapGameWrong)

/-- 'laws.FnExactAreEqualGames': WHATEVER THE INPUT: true; the input reads as it did. -/
def fnExactAreEqualGamesSpec : ChangeSpec := { name := "fnExactAreEqualGames", fn := fun _ => fun
  | [d1, d2, d3, d4] => { results := [.lit (.bool true)], args := [d1, d2, d3, d4] }
  | _ => none }
def fnExactAreEqualGamesRow : OpenClaim := { program := "ytlgogpphlnogoaa", sum := "b55fa8237f41814d7b645af7a63c9ce34c2d31714b78f9358427ea1fc65ba90f", func := "loop.example/g01388/laws.FnExactAreEqualGames", spec := "fnExactAreEqualGames", unfollowed := true, recurses := true, apart := false }
def FnExactAreEqualGamesSaid : Prop := fnExactAreEqualGamesRow.holds Try.pinned (OpenSpec.ofChange fnExactAreEqualGamesSpec)

/-- ITS FALSE NEIGHBOUR: 'it returns false'. Refute it at one input. -/
def fnExactAreEqualGamesWrong : ChangeSpec := { name := "fnExactAreEqualGames", fn := fun _ => fun
  | [d1, d2, d3, d4] => { results := [.lit (.bool false)], args := [d1, d2, d3, d4] }
  | _ => none }
def FnExactAreEqualGamesWrongFalsely : Prop := fnExactAreEqualGamesRow.holds Try.pinned (OpenSpec.ofChange fnExactAreEqualGamesWrong)

/-- 'laws.FnGamePlays': WHATEVER THE INPUT: true; the input reads as it did. -/
def fnGamePlaysSpec : ChangeSpec := { name := "fnGamePlays", fn := fun _ => fun
  | [d] => { results := [.lit (.bool true)], args := [d] }
  | _ => none }
def fnGamePlaysRow : OpenClaim := { program := "ytlgogpphlnogoaa", sum := "b55fa8237f41814d7b645af7a63c9ce34c2d31714b78f9358427ea1fc65ba90f", func := "loop.example/g01388/laws.FnGamePlays", spec := "fnGamePlays", unfollowed := true, recurses := true, apart := false }
def FnGamePlaysSaid : Prop := fnGamePlaysRow.holds Try.pinned (OpenSpec.ofChange fnGamePlaysSpec)

/-- ITS FALSE NEIGHBOUR: 'it returns false'. Refute it at one input. -/
def fnGamePlaysWrong : ChangeSpec := { name := "fnGamePlays", fn := fun _ => fun
  | [d] => { results := [.lit (.bool false)], args := [d] }
  | _ => none }
def FnGamePlaysWrongFalsely : Prop := fnGamePlaysRow.holds Try.pinned (OpenSpec.ofChange fnGamePlaysWrong)

/- THE SECOND FORM. 'bulk': how many values and letters a reading holds, each counted each time it is reached (what is shared counts as often as it is met; a slice's spare places count too). A statement '..UptoSaid' is the law's where the arguments, and the package variables that the reading takes, are together of bulk at most 1048576: NARROWER than '..Said'. Prove '..Said' where nothing that the law and all that it calls make is longer than what came in: it says more and counts as full. Else prove '..UptoSaid'. A law counts once. -/
mutual
def uptoBulk {H : Type} : DataW H → Nat
  | .lit (.string bytes) => bytes.length + 1
  | .lit _ => 1
  | .nil => 1
  | .ptr d => uptoBulk d + 1
  | .slice elems spare => uptoBulkAll elems + uptoBulkAll spare + 1
  | .agg parts => uptoBulkAll parts + 1
  | .iface _ d => uptoBulk d + 1
  | .map entries => uptoBulkEntries entries + 1
  | .held _ => 1
def uptoBulkAll {H : Type} : List (DataW H) → Nat
  | [] => 0
  | d :: r => uptoBulk d + uptoBulkAll r
def uptoBulkEntries {H : Type} : List (Lit × DataW H) → Nat
  | [] => 0
  | x :: r => uptoBulkEntry x + uptoBulkEntries r
def uptoBulkEntry {H : Type} : Lit × DataW H → Nat
  | (.string bytes, d) => bytes.length + uptoBulk d + 1
  | (_, d) => uptoBulk d + 1
 end
def uptoSmall : (H : Type) → List (DataW H) → Bool := fun _ ds => decide (uptoBulkAll ds ≤ 1048576)
def OpenSpec.upto (s : _root_.Go.ChangeSpec) : _root_.Go.OpenSpec := { _root_.Go.OpenSpec.ofChange s with cond := some uptoSmall }

/-- 'laws.FnExactFewestMoves', WHERE WHAT IT READS IS OF BULK AT MOST 1048576: true; the input reads as it did. -/
def fnExactFewestMovesUptoRow : OpenClaim := { program := "ytlgogpphlnogoaa", sum := "b55fa8237f41814d7b645af7a63c9ce34c2d31714b78f9358427ea1fc65ba90f", func := "loop.example/g01388/laws.FnExactFewestMoves", spec := "fnExactFewestMoves", unfollowed := true, recurses := true, apart := false, narrowed := true }
def FnExactFewestMovesUptoSaid : Prop := fnExactFewestMovesUptoRow.holds Try.pinned (OpenSpec.upto fnExactFewestMovesSpec)

/-- 'laws.FnExactMostMoves', WHERE WHAT IT READS IS OF BULK AT MOST 1048576: true; the input reads as it did. -/
def fnExactMostMovesUptoRow : OpenClaim := { program := "ytlgogpphlnogoaa", sum := "b55fa8237f41814d7b645af7a63c9ce34c2d31714b78f9358427ea1fc65ba90f", func := "loop.example/g01388/laws.FnExactMostMoves", spec := "fnExactMostMoves", unfollowed := true, recurses := true, apart := false, narrowed := true }
def FnExactMostMovesUptoSaid : Prop := fnExactMostMovesUptoRow.holds Try.pinned (OpenSpec.upto fnExactMostMovesSpec)

/-- 'laws.FnExactLengthsOf', WHERE WHAT IT READS IS OF BULK AT MOST 1048576: true; the input reads as it did. -/
def fnExactLengthsOfUptoRow : OpenClaim := { program := "ytlgogpphlnogoaa", sum := "b55fa8237f41814d7b645af7a63c9ce34c2d31714b78f9358427ea1fc65ba90f", func := "loop.example/g01388/laws.FnExactLengthsOf", spec := "fnExactLengthsOf", unfollowed := true, recurses := true, apart := false, narrowed := true }
def FnExactLengthsOfUptoSaid : Prop := fnExactLengthsOfUptoRow.holds Try.pinned (OpenSpec.upto fnExactLengthsOfSpec)

/-- 'laws.FnExactSumOfGames', WHERE WHAT IT READS IS OF BULK AT MOST 1048576: true; the input reads as it did. -/
def fnExactSumOfGamesUptoRow : OpenClaim := { program := "ytlgogpphlnogoaa", sum := "b55fa8237f41814d7b645af7a63c9ce34c2d31714b78f9358427ea1fc65ba90f", func := "loop.example/g01388/laws.FnExactSumOfGames", spec := "fnExactSumOfGames", apart := false, narrowed := true }
def FnExactSumOfGamesUptoSaid : Prop := fnExactSumOfGamesUptoRow.holds Try.pinned (OpenSpec.upto fnExactSumOfGamesSpec)

/-- 'laws.FnExactHeapGame', WHERE WHAT IT READS IS OF BULK AT MOST 1048576: true; the input reads as it did. -/
def fnExactHeapGameUptoRow : OpenClaim := { program := "ytlgogpphlnogoaa", sum := "b55fa8237f41814d7b645af7a63c9ce34c2d31714b78f9358427ea1fc65ba90f", func := "loop.example/g01388/laws.FnExactHeapGame", spec := "fnExactHeapGame", apart := false, narrowed := true }
def FnExactHeapGameUptoSaid : Prop := fnExactHeapGameUptoRow.holds Try.pinned (OpenSpec.upto fnExactHeapGameSpec)

/-- 'laws.FnExactAreEqualGames', WHERE WHAT IT READS IS OF BULK AT MOST 1048576: true; the input reads as it did. -/
def fnExactAreEqualGamesUptoRow : OpenClaim := { program := "ytlgogpphlnogoaa", sum := "b55fa8237f41814d7b645af7a63c9ce34c2d31714b78f9358427ea1fc65ba90f", func := "loop.example/g01388/laws.FnExactAreEqualGames", spec := "fnExactAreEqualGames", unfollowed := true, recurses := true, apart := false, narrowed := true }
def FnExactAreEqualGamesUptoSaid : Prop := fnExactAreEqualGamesUptoRow.holds Try.pinned (OpenSpec.upto fnExactAreEqualGamesSpec)

/-- 'laws.FnGamePlays', WHERE WHAT IT READS IS OF BULK AT MOST 1048576: true; the input reads as it did. -/
def fnGamePlaysUptoRow : OpenClaim := { program := "ytlgogpphlnogoaa", sum := "b55fa8237f41814d7b645af7a63c9ce34c2d31714b78f9358427ea1fc65ba90f", func := "loop.example/g01388/laws.FnGamePlays", spec := "fnGamePlays", unfollowed := true, recurses := true, apart := false, narrowed := true }
def FnGamePlaysUptoSaid : Prop := fnGamePlaysUptoRow.holds Try.pinned (OpenSpec.upto fnGamePlaysSpec)

end Rows
end Go.Proofs.Ytlgogpphlnogoaa
