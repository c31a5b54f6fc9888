/-
  No cell of these rows narrows 'for every input' (looked for: loops, veiled, ifaces, maps, wideKeys, modest, calm, conditions, laid).
  DERIVED. THE GIVEN ROWS OF THIS SEAT. 7 by the template 'for every input the law returns true; each argument reads behind the call as it read before'; 0 by the template 'total and deterministic' (their statements: YtailjbenichiaabTotals.lean).
  GIVEN WITH THE SEED: the statements are not yours to turn. If you find one false, say at which input.
  Laid BY PROGRAM, IN A SANDBOX (cutbox-rows.mjs): the forced cells as the released guide's own fill.sh prints them over the translation b91d266b18068b8a… (all of the seat's roots in one cut). By AI agents, Wed Nov 11 2026. No macro, syntax, notation, axiom, sorry.
-/
import Derived.Test.YtailjbenichiaabChecked
import GoSem.Claim
import GoSem.ClaimJoined
import GoSem.ClaimMapViews
import Derived.JoinedTies
import Derived.KernelRfl
namespace Go.Proofs.Ytailjbenichiaab
/- THE CELL 'sum', in the pinned program and in every row, IS THE sha256 OF THE DUMP (.gsa) THAT YtailjbenichiaabProg.lean LOADS. Nothing in Lean hashes anything: it is a label: what it is worth is what the hold of that sum in a sandbox is worth. -/
noncomputable def Try.pinned : Pinned := { name := "ytailjbenichiaab", sum := "b91d266b18068b8ab3096430b3a6044b1503df2941c9cf5ddd6b9ae8cdfdd368", checked := Try.checked }
namespace Rows
def none {H : Type} : Left H := { results := [], args := [] }

/-- 'laws.FnExactCountPlays': WHATEVER THE INPUT: true; the input reads as it did. -/
def fnExactCountPlaysSpec : ChangeSpec := { name := "fnExactCountPlays", fn := fun _ => fun
  | [d] => { results := [.lit (.bool true)], args := [d] }
  | _ => none }
def fnExactCountPlaysRow : OpenClaim := { program := "ytailjbenichiaab", sum := "b91d266b18068b8ab3096430b3a6044b1503df2941c9cf5ddd6b9ae8cdfdd368", func := "loop.example/g01388/laws.FnExactCountPlays", spec := "fnExactCountPlays", unfollowed := true, recurses := true, apart := false }
def FnExactCountPlaysSaid : Prop := fnExactCountPlaysRow.holds Try.pinned (OpenSpec.ofChange fnExactCountPlaysSpec)

/-- ITS FALSE NEIGHBOUR: 'it returns false'. Refute it at one input. -/
def fnExactCountPlaysWrong : ChangeSpec := { name := "fnExactCountPlays", fn := fun _ => fun
  | [d] => { results := [.lit (.bool false)], args := [d] }
  | _ => none }
def FnExactCountPlaysWrongFalsely : Prop := fnExactCountPlaysRow.holds Try.pinned (OpenSpec.ofChange fnExactCountPlaysWrong)

/-- 'laws.FnExactReachedFrom': WHATEVER THE INPUT: true; the input reads as it did. -/
def fnExactReachedFromSpec : ChangeSpec := { name := "fnExactReachedFrom", fn := fun _ => fun
  | [d1, d2] => { results := [.lit (.bool true)], args := [d1, d2] }
  | _ => none }
def fnExactReachedFromRow : OpenClaim := { program := "ytailjbenichiaab", sum := "b91d266b18068b8ab3096430b3a6044b1503df2941c9cf5ddd6b9ae8cdfdd368", func := "loop.example/g01388/laws.FnExactReachedFrom", spec := "fnExactReachedFrom", apart := false }
def FnExactReachedFromSaid : Prop := fnExactReachedFromRow.holds Try.pinned (OpenSpec.ofChange fnExactReachedFromSpec)

/-- ITS FALSE NEIGHBOUR: 'it returns false'. Refute it at one input. -/
def fnExactReachedFromWrong : ChangeSpec := { name := "fnExactReachedFrom", fn := fun _ => fun
  | [d1, d2] => { results := [.lit (.bool false)], args := [d1, d2] }
  | _ => none }
def FnExactReachedFromWrongFalsely : Prop := fnExactReachedFromRow.holds Try.pinned (OpenSpec.ofChange fnExactReachedFromWrong)

/-- 'laws.FnExactBestMoves': WHATEVER THE INPUT: true; the input reads as it did. -/
def fnExactBestMovesSpec : ChangeSpec := { name := "fnExactBestMoves", fn := fun _ => fun
  | [d1, d2] => { results := [.lit (.bool true)], args := [d1, d2] }
  | _ => none }
def fnExactBestMovesRow : OpenClaim := { program := "ytailjbenichiaab", sum := "b91d266b18068b8ab3096430b3a6044b1503df2941c9cf5ddd6b9ae8cdfdd368", func := "loop.example/g01388/laws.FnExactBestMoves", spec := "fnExactBestMoves", unfollowed := true, recurses := true, apart := false }
def FnExactBestMovesSaid : Prop := fnExactBestMovesRow.holds Try.pinned (OpenSpec.ofChange fnExactBestMovesSpec)

/-- ITS FALSE NEIGHBOUR: 'it returns false'. Refute it at one input. -/
def fnExactBestMovesWrong : ChangeSpec := { name := "fnExactBestMoves", fn := fun _ => fun
  | [d1, d2] => { results := [.lit (.bool false)], args := [d1, d2] }
  | _ => none }
def FnExactBestMovesWrongFalsely : Prop := fnExactBestMovesRow.holds Try.pinned (OpenSpec.ofChange fnExactBestMovesWrong)

/-- 'laws.FnExactPlayFrom': WHATEVER THE INPUT: true; the input reads as it did. -/
def fnExactPlayFromSpec : ChangeSpec := { name := "fnExactPlayFrom", fn := fun _ => fun
  | [d1, d2] => { results := [.lit (.bool true)], args := [d1, d2] }
  | _ => none }
def fnExactPlayFromRow : OpenClaim := { program := "ytailjbenichiaab", sum := "b91d266b18068b8ab3096430b3a6044b1503df2941c9cf5ddd6b9ae8cdfdd368", func := "loop.example/g01388/laws.FnExactPlayFrom", spec := "fnExactPlayFrom", unfollowed := true, recurses := true, apart := false }
def FnExactPlayFromSaid : Prop := fnExactPlayFromRow.holds Try.pinned (OpenSpec.ofChange fnExactPlayFromSpec)

/-- ITS FALSE NEIGHBOUR: 'it returns false'. Refute it at one input. -/
def fnExactPlayFromWrong : ChangeSpec := { name := "fnExactPlayFrom", fn := fun _ => fun
  | [d1, d2] => { results := [.lit (.bool false)], args := [d1, d2] }
  | _ => none }
def FnExactPlayFromWrongFalsely : Prop := fnExactPlayFromRow.holds Try.pinned (OpenSpec.ofChange fnExactPlayFromWrong)

/-- 'laws.FnExactSumOfGames': WHATEVER THE INPUT: true; the input reads as it did. -/
def fnExactSumOfGamesSpec : ChangeSpec := { name := "fnExactSumOfGames", fn := fun _ => fun
  | [d1, d2] => { results := [.lit (.bool true)], args := [d1, d2] }
  | _ => none }
def fnExactSumOfGamesRow : OpenClaim := { program := "ytailjbenichiaab", sum := "b91d266b18068b8ab3096430b3a6044b1503df2941c9cf5ddd6b9ae8cdfdd368", func := "loop.example/g01388/laws.FnExactSumOfGames", spec := "fnExactSumOfGames", apart := false }
def FnExactSumOfGamesSaid : Prop := fnExactSumOfGamesRow.holds Try.pinned (OpenSpec.ofChange fnExactSumOfGamesSpec)

/-- ITS FALSE NEIGHBOUR: 'it returns false'. Refute it at one input. -/
def fnExactSumOfGamesWrong : ChangeSpec := { name := "fnExactSumOfGames", fn := fun _ => fun
  | [d1, d2] => { results := [.lit (.bool false)], args := [d1, d2] }
  | _ => none }
def FnExactSumOfGamesWrongFalsely : Prop := fnExactSumOfGamesRow.holds Try.pinned (OpenSpec.ofChange fnExactSumOfGamesWrong)

/-- 'laws.FnExactHeapGame': WHATEVER THE INPUT: true; the input reads as it did. -/
def fnExactHeapGameSpec : ChangeSpec := { name := "fnExactHeapGame", fn := fun _ => fun
  | [d1, d2] => { results := [.lit (.bool true)], args := [d1, d2] }
  | _ => none }
def fnExactHeapGameRow : OpenClaim := { program := "ytailjbenichiaab", sum := "b91d266b18068b8ab3096430b3a6044b1503df2941c9cf5ddd6b9ae8cdfdd368", func := "loop.example/g01388/laws.FnExactHeapGame", spec := "fnExactHeapGame", apart := false }
def FnExactHeapGameSaid : Prop := fnExactHeapGameRow.holds Try.pinned (OpenSpec.ofChange fnExactHeapGameSpec)

/-- ITS FALSE NEIGHBOUR: 'it returns false'. Refute it at one input. -/
def fnExactHeapGameWrong : ChangeSpec := { name := "fnExactHeapGame", fn := fun _ => fun
  | [d1, d2] => { results := [.lit (.bool false)], args := [d1, d2] }
  | _ => none }
def FnExactHeapGameWrongFalsely : Prop := fnExactHeapGameRow.holds Try.pinned (OpenSpec.ofChange fnExactHeapGameWrong)

/-- 'laws.FnExactAreEqualGames': WHATEVER THE INPUT: true; the input reads as it did. -/
def fnExactAreEqualGamesSpec : ChangeSpec := { name := "fnExactAreEqualGames", fn := fun _ => fun
  | [d1, d2, d3, d4] => { results := [.lit (.bool true)], args := [d1, d2, d3, d4] }
  | _ => none }
def fnExactAreEqualGamesRow : OpenClaim := { program := "ytailjbenichiaab", sum := "b91d266b18068b8ab3096430b3a6044b1503df2941c9cf5ddd6b9ae8cdfdd368", func := "loop.example/g01388/laws.FnExactAreEqualGames", spec := "fnExactAreEqualGames", unfollowed := true, recurses := true, apart := false }
def FnExactAreEqualGamesSaid : Prop := fnExactAreEqualGamesRow.holds Try.pinned (OpenSpec.ofChange fnExactAreEqualGamesSpec)

/-- ITS FALSE NEIGHBOUR: 'it returns false'. Refute it at one input. -/
def fnExactAreEqualGamesWrong : ChangeSpec := { name := "fnExactAreEqualGames", fn := fun _ => fun
  | [d1, d2, d3, d4] => { results := [.lit (.bool false)], args := [d1, d2, d3, d4] }
  | _ => none }
def FnExactAreEqualGamesWrongFalsely : Prop := fnExactAreEqualGamesRow.holds Try.pinned (OpenSpec.ofChange fnExactAreEqualGamesWrong)

/- THE SECOND FORM. 'bulk': how many values and letters a reading holds, each counted each time it is reached (what is shared counts as often as it is met; a slice's spare places count too). A statement '..UptoSaid' is the law's where the arguments, and the package variables that the reading takes, are together of bulk at most 1048576: NARROWER than '..Said'. Prove '..Said' where nothing that the law and all that it calls make is longer than what came in: it says more and counts as full. Else prove '..UptoSaid'. A law counts once. -/
mutual
def uptoBulk {H : Type} : DataW H → Nat
  | .lit (.string bytes) => bytes.length + 1
  | .lit _ => 1
  | .nil => 1
  | .ptr d => uptoBulk d + 1
  | .slice elems spare => uptoBulkAll elems + uptoBulkAll spare + 1
  | .agg parts => uptoBulkAll parts + 1
  | .iface _ d => uptoBulk d + 1
  | .map entries => uptoBulkEntries entries + 1
  | .held _ => 1
def uptoBulkAll {H : Type} : List (DataW H) → Nat
  | [] => 0
  | d :: r => uptoBulk d + uptoBulkAll r
def uptoBulkEntries {H : Type} : List (Lit × DataW H) → Nat
  | [] => 0
  | x :: r => uptoBulkEntry x + uptoBulkEntries r
def uptoBulkEntry {H : Type} : Lit × DataW H → Nat
  | (.string bytes, d) => bytes.length + uptoBulk d + 1
  | (_, d) => uptoBulk d + 1
 end
def uptoSmall : (H : Type) → List (DataW H) → Bool := fun _ ds => decide (uptoBulkAll ds ≤ 1048576)
def OpenSpec.upto (s : _root_.Go.ChangeSpec) : _root_.Go.OpenSpec := { _root_.Go.OpenSpec.ofChange s with cond := some uptoSmall }

/-- 'laws.FnExactCountPlays', WHERE WHAT IT READS IS OF BULK AT MOST 1048576: true; the input reads as it did. -/
def fnExactCountPlaysUptoRow : OpenClaim := { program := "ytailjbenichiaab", sum := "b91d266b18068b8ab3096430b3a6044b1503df2941c9cf5ddd6b9ae8cdfdd368", func := "loop.example/g01388/laws.FnExactCountPlays", spec := "fnExactCountPlays", unfollowed := true, recurses := true, apart := false, narrowed := true }
def FnExactCountPlaysUptoSaid : Prop := fnExactCountPlaysUptoRow.holds Try.pinned (OpenSpec.upto fnExactCountPlaysSpec)

/-- 'laws.FnExactReachedFrom', WHERE WHAT IT READS IS OF BULK AT MOST 1048576: true; the input reads as it did. -/
def fnExactReachedFromUptoRow : OpenClaim := { program := "ytailjbenichiaab", sum := "b91d266b18068b8ab3096430b3a6044b1503df2941c9cf5ddd6b9ae8cdfdd368", func := "loop.example/g01388/laws.FnExactReachedFrom", spec := "fnExactReachedFrom", apart := false, narrowed := true }
def FnExactReachedFromUptoSaid : Prop := fnExactReachedFromUptoRow.holds Try.pinned (OpenSpec.upto fnExactReachedFromSpec)

/-- 'laws.FnExactBestMoves', WHERE WHAT IT READS IS OF BULK AT MOST 1048576: true; the input reads as it did. -/
def fnExactBestMovesUptoRow : OpenClaim := { program := "ytailjbenichiaab", sum := "b91d266b18068b8ab3096430b3a6044b1503df2941c9cf5ddd6b9ae8cdfdd368", func := "loop.example/g01388/laws.FnExactBestMoves", spec := "fnExactBestMoves", unfollowed := true, recurses := true, apart := false, narrowed := true }
def FnExactBestMovesUptoSaid : Prop := fnExactBestMovesUptoRow.holds Try.pinned (OpenSpec.upto fnExactBestMovesSpec)

/-- 'laws.FnExactPlayFrom', WHERE WHAT IT READS IS OF BULK AT MOST 1048576: true; the input reads as it did. -/
def fnExactPlayFromUptoRow : OpenClaim := { program := "ytailjbenichiaab", sum := "b91d266b18068b8ab3096430b3a6044b1503df2941c9cf5ddd6b9ae8cdfdd368", func := "loop.example/g01388/laws.FnExactPlayFrom", spec := "fnExactPlayFrom", unfollowed := true, recurses := true, apart := false, narrowed := true }
def FnExactPlayFromUptoSaid : Prop := fnExactPlayFromUptoRow.holds Try.pinned (OpenSpec.upto fnExactPlayFromSpec)

/-- 'laws.FnExactSumOfGames', WHERE WHAT IT READS IS OF BULK AT MOST 1048576: true; the input reads as it did. -/
def fnExactSumOfGamesUptoRow : OpenClaim := { program := "ytailjbenichiaab", sum := "b91d266b18068b8ab3096430b3a6044b1503df2941c9cf5ddd6b9ae8cdfdd368", func := "loop.example/g01388/laws.FnExactSumOfGames", spec := "fnExactSumOfGames", apart := false, narrowed := true }
def FnExactSumOfGamesUptoSaid : Prop := fnExactSumOfGamesUptoRow.holds Try.pinned (OpenSpec.upto fnExactSumOfGamesSpec)

/-- 'laws.FnExactHeapGame', WHERE WHAT IT READS IS OF BULK AT MOST 1048576: true; the input reads as it did. -/
def fnExactHeapGameUptoRow : OpenClaim := { program := "ytailjbenichiaab", sum := "b91d266b18068b8ab3096430b3a6044b1503df2941c9cf5ddd6b9ae8cdfdd368", func := "loop.example/g01388/laws.FnExactHeapGame", spec := "fnExactHeapGame", apart := false, narrowed := true }
def FnExactHeapGameUptoSaid : Prop := fnExactHeapGameUptoRow.holds Try.pinned (OpenSpec.upto fnExactHeapGameSpec)

/-- 'laws.FnExactAreEqualGames', WHERE WHAT IT READS IS OF BULK AT MOST 1048576: true; the input reads as it did. -/
def fnExactAreEqualGamesUptoRow : OpenClaim := { program := "ytailjbenichiaab", sum := "b91d266b18068b8ab3096430b3a6044b1503df2941c9cf5ddd6b9ae8cdfdd368", func := "loop.example/g01388/laws.FnExactAreEqualGames", spec := "fnExactAreEqualGames", unfollowed := true, recurses := true, apart := false, narrowed := true }
def FnExactAreEqualGamesUptoSaid : Prop := fnExactAreEqualGamesUptoRow.holds Try.pinned (OpenSpec.upto fnExactAreEqualGamesSpec)

end Rows
end Go.Proofs.Ytailjbenichiaab
