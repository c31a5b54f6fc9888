/-
  No cell of these rows narrows 'for every input' (looked for: loops, veiled, ifaces, maps, wideKeys, modest, calm, conditions, laid).
  DERIVED. THE GIVEN ROWS OF THIS SEAT. 4 by the template 'for every input the law returns true; each argument reads behind the call as it read before'; 0 by the template 'total and deterministic' (their statements: YtincdnlinepcgabTotals.lean).
  GIVEN WITH THE SEED: the statements are not yours to turn. If you find one false, say at which input.
  Laid BY PROGRAM, IN A SANDBOX (cutbox-rows.mjs): the forced cells as the released guide's own fill.sh prints them over the translation 597c597a32a9164f… (all of the seat's roots in one cut). By AI agents, Wed Nov 11 2026. No macro, syntax, notation, axiom, sorry.
-/
import Derived.Test.YtincdnlinepcgabChecked
import GoSem.Claim
import GoSem.ClaimJoined
import GoSem.ClaimMapViews
import Derived.JoinedTies
import Derived.KernelRfl
namespace Go.Proofs.Ytincdnlinepcgab
/- THE CELL 'sum', in the pinned program and in every row, IS THE sha256 OF THE DUMP (.gsa) THAT YtincdnlinepcgabProg.lean LOADS. Nothing in Lean hashes anything: it is a label: what it is worth is what the hold of that sum in a sandbox is worth. -/
noncomputable def Try.pinned : Pinned := { name := "ytincdnlinepcgab", sum := "597c597a32a9164f9ca658c52395cd7208092cca11d6cc83b3918f87b93b326a", checked := Try.checked }
namespace Rows
def none {H : Type} : Left H := { results := [], args := [] }

/-- 'laws.FnExactNetScore': WHATEVER THE INPUT: true; the input reads as it did. -/
def fnExactNetScoreSpec : ChangeSpec := { name := "fnExactNetScore", fn := fun _ => fun
  | [d] => { results := [.lit (.bool true)], args := [d] }
  | _ => none }
def fnExactNetScoreRow : OpenClaim := { program := "ytincdnlinepcgab", sum := "597c597a32a9164f9ca658c52395cd7208092cca11d6cc83b3918f87b93b326a", func := "loop.example/g01388/laws.FnExactNetScore", spec := "fnExactNetScore", recurses := true, plainKeys := false, apart := false }
def FnExactNetScoreSaid : Prop := fnExactNetScoreRow.holds Try.pinned (OpenSpec.ofChange fnExactNetScoreSpec)

/-- ITS FALSE NEIGHBOUR: 'it returns false'. Refute it at one input. -/
def fnExactNetScoreWrong : ChangeSpec := { name := "fnExactNetScore", fn := fun _ => fun
  | [d] => { results := [.lit (.bool false)], args := [d] }
  | _ => none }
def FnExactNetScoreWrongFalsely : Prop := fnExactNetScoreRow.holds Try.pinned (OpenSpec.ofChange fnExactNetScoreWrong)

/-- 'laws.FnExactBestEdges': WHATEVER THE INPUT: true; the input reads as it did. -/
def fnExactBestEdgesSpec : ChangeSpec := { name := "fnExactBestEdges", fn := fun _ => fun
  | [d] => { results := [.lit (.bool true)], args := [d] }
  | _ => none }
def fnExactBestEdgesRow : OpenClaim := { program := "ytincdnlinepcgab", sum := "597c597a32a9164f9ca658c52395cd7208092cca11d6cc83b3918f87b93b326a", func := "loop.example/g01388/laws.FnExactBestEdges", spec := "fnExactBestEdges", recurses := true, plainKeys := false, apart := false }
def FnExactBestEdgesSaid : Prop := fnExactBestEdgesRow.holds Try.pinned (OpenSpec.ofChange fnExactBestEdgesSpec)

/-- ITS FALSE NEIGHBOUR: 'it returns false'. Refute it at one input. -/
def fnExactBestEdgesWrong : ChangeSpec := { name := "fnExactBestEdges", fn := fun _ => fun
  | [d] => { results := [.lit (.bool false)], args := [d] }
  | _ => none }
def FnExactBestEdgesWrongFalsely : Prop := fnExactBestEdgesRow.holds Try.pinned (OpenSpec.ofChange fnExactBestEdgesWrong)

/-- 'laws.FnExactPlayBoxes': WHATEVER THE INPUT: true; the input reads as it did. -/
def fnExactPlayBoxesSpec : ChangeSpec := { name := "fnExactPlayBoxes", fn := fun _ => fun
  | [d] => { results := [.lit (.bool true)], args := [d] }
  | _ => none }
def fnExactPlayBoxesRow : OpenClaim := { program := "ytincdnlinepcgab", sum := "597c597a32a9164f9ca658c52395cd7208092cca11d6cc83b3918f87b93b326a", func := "loop.example/g01388/laws.FnExactPlayBoxes", spec := "fnExactPlayBoxes", recurses := true, plainKeys := false, apart := false }
def FnExactPlayBoxesSaid : Prop := fnExactPlayBoxesRow.holds Try.pinned (OpenSpec.ofChange fnExactPlayBoxesSpec)

/-- ITS FALSE NEIGHBOUR: 'it returns false'. Refute it at one input. -/
def fnExactPlayBoxesWrong : ChangeSpec := { name := "fnExactPlayBoxes", fn := fun _ => fun
  | [d] => { results := [.lit (.bool false)], args := [d] }
  | _ => none }
def FnExactPlayBoxesWrongFalsely : Prop := fnExactPlayBoxesRow.holds Try.pinned (OpenSpec.ofChange fnExactPlayBoxesWrong)

/-- 'laws.FnBoxScores': WHATEVER THE INPUT: true; the input reads as it did. -/
def fnBoxScoresSpec : ChangeSpec := { name := "fnBoxScores", fn := fun _ => fun
  | [d] => { results := [.lit (.bool true)], args := [d] }
  | _ => none }
def fnBoxScoresRow : OpenClaim := { program := "ytincdnlinepcgab", sum := "597c597a32a9164f9ca658c52395cd7208092cca11d6cc83b3918f87b93b326a", func := "loop.example/g01388/laws.FnBoxScores", spec := "fnBoxScores", unfollowed := true, recurses := true, plainKeys := false, apart := false }
def FnBoxScoresSaid : Prop := fnBoxScoresRow.holds Try.pinned (OpenSpec.ofChange fnBoxScoresSpec)

/-- ITS FALSE NEIGHBOUR: 'it returns false'. Refute it at one input. -/
def fnBoxScoresWrong : ChangeSpec := { name := "fnBoxScores", fn := fun _ => fun
  | [d] => { results := [.lit (.bool false)], args := [d] }
  | _ => none }
def FnBoxScoresWrongFalsely : Prop := fnBoxScoresRow.holds Try.pinned (OpenSpec.ofChange fnBoxScoresWrong)

/- THE SECOND FORM. 'bulk': how many values and letters a reading holds, each counted each time it is reached (what is shared counts as often as it is met; a slice's spare places count too). A statement '..UptoSaid' is the law's where the arguments, and the package variables that the reading takes, are together of bulk at most 1048576: NARROWER than '..Said'. Prove '..Said' where nothing that the law and all that it calls make is longer than what came in: it says more and counts as full. Else prove '..UptoSaid'. A law counts once. -/
mutual
def uptoBulk {H : Type} : DataW H → Nat
  | .lit (.string bytes) => bytes.length + 1
  | .lit _ => 1
  | .nil => 1
  | .ptr d => uptoBulk d + 1
  | .slice elems spare => uptoBulkAll elems + uptoBulkAll spare + 1
  | .agg parts => uptoBulkAll parts + 1
  | .iface _ d => uptoBulk d + 1
  | .map entries => uptoBulkEntries entries + 1
  | .held _ => 1
def uptoBulkAll {H : Type} : List (DataW H) → Nat
  | [] => 0
  | d :: r => uptoBulk d + uptoBulkAll r
def uptoBulkEntries {H : Type} : List (Lit × DataW H) → Nat
  | [] => 0
  | x :: r => uptoBulkEntry x + uptoBulkEntries r
def uptoBulkEntry {H : Type} : Lit × DataW H → Nat
  | (.string bytes, d) => bytes.length + uptoBulk d + 1
  | (_, d) => uptoBulk d + 1
 end
def uptoSmall : (H : Type) → List (DataW H) → Bool := fun _ ds => decide (uptoBulkAll ds ≤ 1048576)
def OpenSpec.upto (s : _root_.Go.ChangeSpec) : _root_.Go.OpenSpec := { _root_.Go.OpenSpec.ofChange s with cond := some uptoSmall }

/-- 'laws.FnExactNetScore', WHERE WHAT IT READS IS OF BULK AT MOST 1048576: true; the input reads as it did. -/
def fnExactNetScoreUptoRow : OpenClaim := { program := "ytincdnlinepcgab", sum := "597c597a32a9164f9ca658c52395cd7208092cca11d6cc83b3918f87b93b326a", func := "loop.example/g01388/laws.FnExactNetScore", spec := "fnExactNetScore", recurses := true, plainKeys := false, apart := false, narrowed := true }
def FnExactNetScoreUptoSaid : Prop := fnExactNetScoreUptoRow.holds Try.pinned (OpenSpec.upto fnExactNetScoreSpec)

/-- 'laws.FnExactBestEdges', WHERE WHAT IT READS IS OF BULK AT MOST 1048576: true; the input reads as it did. -/
def fnExactBestEdgesUptoRow : OpenClaim := { program := "ytincdnlinepcgab", sum := "597c597a32a9164f9ca658c52395cd7208092cca11d6cc83b3918f87b93b326a", func := "loop.example/g01388/laws.FnExactBestEdges", spec := "fnExactBestEdges", recurses := true, plainKeys := false, apart := false, narrowed := true }
def FnExactBestEdgesUptoSaid : Prop := fnExactBestEdgesUptoRow.holds Try.pinned (OpenSpec.upto fnExactBestEdgesSpec)

/-- 'laws.FnExactPlayBoxes', WHERE WHAT IT READS IS OF BULK AT MOST 1048576: true; the input reads as it did. -/
def fnExactPlayBoxesUptoRow : OpenClaim := { program := "ytincdnlinepcgab", sum := "597c597a32a9164f9ca658c52395cd7208092cca11d6cc83b3918f87b93b326a", func := "loop.example/g01388/laws.FnExactPlayBoxes", spec := "fnExactPlayBoxes", recurses := true, plainKeys := false, apart := false, narrowed := true }
def FnExactPlayBoxesUptoSaid : Prop := fnExactPlayBoxesUptoRow.holds Try.pinned (OpenSpec.upto fnExactPlayBoxesSpec)

/-- 'laws.FnBoxScores', WHERE WHAT IT READS IS OF BULK AT MOST 1048576: true; the input reads as it did. -/
def fnBoxScoresUptoRow : OpenClaim := { program := "ytincdnlinepcgab", sum := "597c597a32a9164f9ca658c52395cd7208092cca11d6cc83b3918f87b93b326a", func := "loop.example/g01388/laws.FnBoxScores", spec := "fnBoxScores", unfollowed := true, recurses := true, plainKeys := false, apart := false, narrowed := true }
def FnBoxScoresUptoSaid : Prop := fnBoxScoresUptoRow.holds Try.pinned (OpenSpec.upto fnBoxScoresSpec)

end Rows
end Go.Proofs.Ytincdnlinepcgab
