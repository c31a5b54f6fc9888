/-
  No cell of these rows narrows 'for every input' (looked for: loops, veiled, ifaces, maps, wideKeys, modest, calm, conditions, laid).
  DERIVED. THE GIVEN ROWS OF THIS SEAT. 10 by the template 'for every input the law returns true; each argument reads behind the call as it read before'; 0 by the template 'total and deterministic' (their statements: YtincdnlinepcgaaTotals.lean).
  GIVEN WITH THE SEED: the statements are not yours to turn. If you find one false, say at which input.
  Laid BY PROGRAM, IN A SANDBOX (cutbox-rows.mjs): the forced cells as the released guide's own fill.sh prints them over the translation 0067b1cb6edfc178… (all of the seat's roots in one cut). By AI agents, Wed Nov 11 2026. No macro, syntax, notation, axiom, sorry.
-/
import Derived.Test.YtincdnlinepcgaaChecked
import GoSem.Claim
import GoSem.ClaimJoined
import GoSem.ClaimMapViews
import Derived.JoinedTies
import Derived.KernelRfl
namespace Go.Proofs.Ytincdnlinepcgaa
/- THE CELL 'sum', in the pinned program and in every row, IS THE sha256 OF THE DUMP (.gsa) THAT YtincdnlinepcgaaProg.lean LOADS. Nothing in Lean hashes anything: it is a label: what it is worth is what the hold of that sum in a sandbox is worth. -/
noncomputable def Try.pinned : Pinned := { name := "ytincdnlinepcgaa", sum := "0067b1cb6edfc17842c729e83f0a1cb0387eb86d757d9d88d78233825964d1c8", checked := Try.checked }
namespace Rows
def none {H : Type} : Left H := { results := [], args := [] }

/-- 'laws.FnExactIsBoxes': WHATEVER THE INPUT: true; the input reads as it did. -/
def fnExactIsBoxesSpec : ChangeSpec := { name := "fnExactIsBoxes", fn := fun _ => fun
  | [d] => { results := [.lit (.bool true)], args := [d] }
  | _ => none }
def fnExactIsBoxesRow : OpenClaim := { program := "ytincdnlinepcgaa", sum := "0067b1cb6edfc17842c729e83f0a1cb0387eb86d757d9d88d78233825964d1c8", func := "loop.example/g01388/laws.FnExactIsBoxes", spec := "fnExactIsBoxes", apart := false }
def FnExactIsBoxesSaid : Prop := fnExactIsBoxesRow.holds Try.pinned (OpenSpec.ofChange fnExactIsBoxesSpec)

/-- ITS FALSE NEIGHBOUR: 'it returns false'. Refute it at one input. -/
def fnExactIsBoxesWrong : ChangeSpec := { name := "fnExactIsBoxes", fn := fun _ => fun
  | [d] => { results := [.lit (.bool false)], args := [d] }
  | _ => none }
def FnExactIsBoxesWrongFalsely : Prop := fnExactIsBoxesRow.holds Try.pinned (OpenSpec.ofChange fnExactIsBoxesWrong)

/-- 'laws.FnExactCountEdges': WHATEVER THE INPUT: true; the input reads as it did. -/
def fnExactCountEdgesSpec : ChangeSpec := { name := "fnExactCountEdges", fn := fun _ => fun
  | [d] => { results := [.lit (.bool true)], args := [d] }
  | _ => none }
def fnExactCountEdgesRow : OpenClaim := { program := "ytincdnlinepcgaa", sum := "0067b1cb6edfc17842c729e83f0a1cb0387eb86d757d9d88d78233825964d1c8", func := "loop.example/g01388/laws.FnExactCountEdges", spec := "fnExactCountEdges", apart := false }
def FnExactCountEdgesSaid : Prop := fnExactCountEdgesRow.holds Try.pinned (OpenSpec.ofChange fnExactCountEdgesSpec)

/-- ITS FALSE NEIGHBOUR: 'it returns false'. Refute it at one input. -/
def fnExactCountEdgesWrong : ChangeSpec := { name := "fnExactCountEdges", fn := fun _ => fun
  | [d] => { results := [.lit (.bool false)], args := [d] }
  | _ => none }
def FnExactCountEdgesWrongFalsely : Prop := fnExactCountEdgesRow.holds Try.pinned (OpenSpec.ofChange fnExactCountEdgesWrong)

/-- 'laws.FnExactEdgesOfBox': WHATEVER THE INPUT: true; the input reads as it did. -/
def fnExactEdgesOfBoxSpec : ChangeSpec := { name := "fnExactEdgesOfBox", fn := fun _ => fun
  | [d1, d2] => { results := [.lit (.bool true)], args := [d1, d2] }
  | _ => none }
def fnExactEdgesOfBoxRow : OpenClaim := { program := "ytincdnlinepcgaa", sum := "0067b1cb6edfc17842c729e83f0a1cb0387eb86d757d9d88d78233825964d1c8", func := "loop.example/g01388/laws.FnExactEdgesOfBox", spec := "fnExactEdgesOfBox", apart := false }
def FnExactEdgesOfBoxSaid : Prop := fnExactEdgesOfBoxRow.holds Try.pinned (OpenSpec.ofChange fnExactEdgesOfBoxSpec)

/-- ITS FALSE NEIGHBOUR: 'it returns false'. Refute it at one input. -/
def fnExactEdgesOfBoxWrong : ChangeSpec := { name := "fnExactEdgesOfBox", fn := fun _ => fun
  | [d1, d2] => { results := [.lit (.bool false)], args := [d1, d2] }
  | _ => none }
def FnExactEdgesOfBoxWrongFalsely : Prop := fnExactEdgesOfBoxRow.holds Try.pinned (OpenSpec.ofChange fnExactEdgesOfBoxWrong)

/-- 'laws.FnExactTakenBoxes': WHATEVER THE INPUT: true; the input reads as it did. -/
def fnExactTakenBoxesSpec : ChangeSpec := { name := "fnExactTakenBoxes", fn := fun _ => fun
  | [d] => { results := [.lit (.bool true)], args := [d] }
  | _ => none }
def fnExactTakenBoxesRow : OpenClaim := { program := "ytincdnlinepcgaa", sum := "0067b1cb6edfc17842c729e83f0a1cb0387eb86d757d9d88d78233825964d1c8", func := "loop.example/g01388/laws.FnExactTakenBoxes", spec := "fnExactTakenBoxes", apart := false }
def FnExactTakenBoxesSaid : Prop := fnExactTakenBoxesRow.holds Try.pinned (OpenSpec.ofChange fnExactTakenBoxesSpec)

/-- ITS FALSE NEIGHBOUR: 'it returns false'. Refute it at one input. -/
def fnExactTakenBoxesWrong : ChangeSpec := { name := "fnExactTakenBoxes", fn := fun _ => fun
  | [d] => { results := [.lit (.bool false)], args := [d] }
  | _ => none }
def FnExactTakenBoxesWrongFalsely : Prop := fnExactTakenBoxesRow.holds Try.pinned (OpenSpec.ofChange fnExactTakenBoxesWrong)

/-- 'laws.FnExactBoxesWith': WHATEVER THE INPUT: true; the input reads as it did. -/
def fnExactBoxesWithSpec : ChangeSpec := { name := "fnExactBoxesWith", fn := fun _ => fun
  | [d1, d2] => { results := [.lit (.bool true)], args := [d1, d2] }
  | _ => none }
def fnExactBoxesWithRow : OpenClaim := { program := "ytincdnlinepcgaa", sum := "0067b1cb6edfc17842c729e83f0a1cb0387eb86d757d9d88d78233825964d1c8", func := "loop.example/g01388/laws.FnExactBoxesWith", spec := "fnExactBoxesWith", apart := false }
def FnExactBoxesWithSaid : Prop := fnExactBoxesWithRow.holds Try.pinned (OpenSpec.ofChange fnExactBoxesWithSpec)

/-- ITS FALSE NEIGHBOUR: 'it returns false'. Refute it at one input. -/
def fnExactBoxesWithWrong : ChangeSpec := { name := "fnExactBoxesWith", fn := fun _ => fun
  | [d1, d2] => { results := [.lit (.bool false)], args := [d1, d2] }
  | _ => none }
def FnExactBoxesWithWrongFalsely : Prop := fnExactBoxesWithRow.holds Try.pinned (OpenSpec.ofChange fnExactBoxesWithWrong)

/-- 'laws.FnExactFreeEdges': WHATEVER THE INPUT: true; the input reads as it did. -/
def fnExactFreeEdgesSpec : ChangeSpec := { name := "fnExactFreeEdges", fn := fun _ => fun
  | [d] => { results := [.lit (.bool true)], args := [d] }
  | _ => none }
def fnExactFreeEdgesRow : OpenClaim := { program := "ytincdnlinepcgaa", sum := "0067b1cb6edfc17842c729e83f0a1cb0387eb86d757d9d88d78233825964d1c8", func := "loop.example/g01388/laws.FnExactFreeEdges", spec := "fnExactFreeEdges", apart := false }
def FnExactFreeEdgesSaid : Prop := fnExactFreeEdgesRow.holds Try.pinned (OpenSpec.ofChange fnExactFreeEdgesSpec)

/-- ITS FALSE NEIGHBOUR: 'it returns false'. Refute it at one input. -/
def fnExactFreeEdgesWrong : ChangeSpec := { name := "fnExactFreeEdges", fn := fun _ => fun
  | [d] => { results := [.lit (.bool false)], args := [d] }
  | _ => none }
def FnExactFreeEdgesWrongFalsely : Prop := fnExactFreeEdgesRow.holds Try.pinned (OpenSpec.ofChange fnExactFreeEdgesWrong)

/-- 'laws.FnExactAddEdge': WHATEVER THE INPUT: true; the input reads as it did. -/
def fnExactAddEdgeSpec : ChangeSpec := { name := "fnExactAddEdge", fn := fun _ => fun
  | [d1, d2] => { results := [.lit (.bool true)], args := [d1, d2] }
  | _ => none }
def fnExactAddEdgeRow : OpenClaim := { program := "ytincdnlinepcgaa", sum := "0067b1cb6edfc17842c729e83f0a1cb0387eb86d757d9d88d78233825964d1c8", func := "loop.example/g01388/laws.FnExactAddEdge", spec := "fnExactAddEdge", apart := false }
def FnExactAddEdgeSaid : Prop := fnExactAddEdgeRow.holds Try.pinned (OpenSpec.ofChange fnExactAddEdgeSpec)

/-- ITS FALSE NEIGHBOUR: 'it returns false'. Refute it at one input. -/
def fnExactAddEdgeWrong : ChangeSpec := { name := "fnExactAddEdge", fn := fun _ => fun
  | [d1, d2] => { results := [.lit (.bool false)], args := [d1, d2] }
  | _ => none }
def FnExactAddEdgeWrongFalsely : Prop := fnExactAddEdgeRow.holds Try.pinned (OpenSpec.ofChange fnExactAddEdgeWrong)

/-- 'laws.FnExactSafeEdges': WHATEVER THE INPUT: true; the input reads as it did. -/
def fnExactSafeEdgesSpec : ChangeSpec := { name := "fnExactSafeEdges", fn := fun _ => fun
  | [d] => { results := [.lit (.bool true)], args := [d] }
  | _ => none }
def fnExactSafeEdgesRow : OpenClaim := { program := "ytincdnlinepcgaa", sum := "0067b1cb6edfc17842c729e83f0a1cb0387eb86d757d9d88d78233825964d1c8", func := "loop.example/g01388/laws.FnExactSafeEdges", spec := "fnExactSafeEdges", apart := false }
def FnExactSafeEdgesSaid : Prop := fnExactSafeEdgesRow.holds Try.pinned (OpenSpec.ofChange fnExactSafeEdgesSpec)

/-- ITS FALSE NEIGHBOUR: 'it returns false'. Refute it at one input. -/
def fnExactSafeEdgesWrong : ChangeSpec := { name := "fnExactSafeEdges", fn := fun _ => fun
  | [d] => { results := [.lit (.bool false)], args := [d] }
  | _ => none }
def FnExactSafeEdgesWrongFalsely : Prop := fnExactSafeEdgesRow.holds Try.pinned (OpenSpec.ofChange fnExactSafeEdgesWrong)

/-- 'laws.FnExactReflectBoxes': WHATEVER THE INPUT: true; the input reads as it did. -/
def fnExactReflectBoxesSpec : ChangeSpec := { name := "fnExactReflectBoxes", fn := fun _ => fun
  | [d1, d2] => { results := [.lit (.bool true)], args := [d1, d2] }
  | _ => none }
def fnExactReflectBoxesRow : OpenClaim := { program := "ytincdnlinepcgaa", sum := "0067b1cb6edfc17842c729e83f0a1cb0387eb86d757d9d88d78233825964d1c8", func := "loop.example/g01388/laws.FnExactReflectBoxes", spec := "fnExactReflectBoxes", apart := false }
def FnExactReflectBoxesSaid : Prop := fnExactReflectBoxesRow.holds Try.pinned (OpenSpec.ofChange fnExactReflectBoxesSpec)

/-- ITS FALSE NEIGHBOUR: 'it returns false'. Refute it at one input. -/
def fnExactReflectBoxesWrong : ChangeSpec := { name := "fnExactReflectBoxes", fn := fun _ => fun
  | [d1, d2] => { results := [.lit (.bool false)], args := [d1, d2] }
  | _ => none }
def FnExactReflectBoxesWrongFalsely : Prop := fnExactReflectBoxesRow.holds Try.pinned (OpenSpec.ofChange fnExactReflectBoxesWrong)

/-- 'laws.FnExactLeastBoxes': WHATEVER THE INPUT: true; the input reads as it did. -/
def fnExactLeastBoxesSpec : ChangeSpec := { name := "fnExactLeastBoxes", fn := fun _ => fun
  | [d] => { results := [.lit (.bool true)], args := [d] }
  | _ => none }
def fnExactLeastBoxesRow : OpenClaim := { program := "ytincdnlinepcgaa", sum := "0067b1cb6edfc17842c729e83f0a1cb0387eb86d757d9d88d78233825964d1c8", func := "loop.example/g01388/laws.FnExactLeastBoxes", spec := "fnExactLeastBoxes", unfollowed := true, recurses := true, apart := false }
def FnExactLeastBoxesSaid : Prop := fnExactLeastBoxesRow.holds Try.pinned (OpenSpec.ofChange fnExactLeastBoxesSpec)

/-- ITS FALSE NEIGHBOUR: 'it returns false'. Refute it at one input. -/
def fnExactLeastBoxesWrong : ChangeSpec := { name := "fnExactLeastBoxes", fn := fun _ => fun
  | [d] => { results := [.lit (.bool false)], args := [d] }
  | _ => none }
def FnExactLeastBoxesWrongFalsely : Prop := fnExactLeastBoxesRow.holds Try.pinned (OpenSpec.ofChange fnExactLeastBoxesWrong)

/- THE SECOND FORM. 'bulk': how many values and letters a reading holds, each counted each time it is reached (what is shared counts as often as it is met; a slice's spare places count too). A statement '..UptoSaid' is the law's where the arguments, and the package variables that the reading takes, are together of bulk at most 1048576: NARROWER than '..Said'. Prove '..Said' where nothing that the law and all that it calls make is longer than what came in: it says more and counts as full. Else prove '..UptoSaid'. A law counts once. -/
mutual
def uptoBulk {H : Type} : DataW H → Nat
  | .lit (.string bytes) => bytes.length + 1
  | .lit _ => 1
  | .nil => 1
  | .ptr d => uptoBulk d + 1
  | .slice elems spare => uptoBulkAll elems + uptoBulkAll spare + 1
  | .agg parts => uptoBulkAll parts + 1
  | .iface _ d => uptoBulk d + 1
  | .map entries => uptoBulkEntries entries + 1
  | .held _ => 1
def uptoBulkAll {H : Type} : List (DataW H) → Nat
  | [] => 0
  | d :: r => uptoBulk d + uptoBulkAll r
def uptoBulkEntries {H : Type} : List (Lit × DataW H) → Nat
  | [] => 0
  | x :: r => uptoBulkEntry x + uptoBulkEntries r
def uptoBulkEntry {H : Type} : Lit × DataW H → Nat
  | (.string bytes, d) => bytes.length + uptoBulk d + 1
  | (_, d) => uptoBulk d + 1
 end
def uptoSmall : (H : Type) → List (DataW H) → Bool := fun _ ds => decide (uptoBulkAll ds ≤ 1048576)
def OpenSpec.upto (s : _root_.Go.ChangeSpec) : _root_.Go.OpenSpec := { _root_.Go.OpenSpec.ofChange s with cond := some uptoSmall }

/-- 'laws.FnExactIsBoxes', WHERE WHAT IT READS IS OF BULK AT MOST 1048576: true; the input reads as it did. -/
def fnExactIsBoxesUptoRow : OpenClaim := { program := "ytincdnlinepcgaa", sum := "0067b1cb6edfc17842c729e83f0a1cb0387eb86d757d9d88d78233825964d1c8", func := "loop.example/g01388/laws.FnExactIsBoxes", spec := "fnExactIsBoxes", apart := false, narrowed := true }
def FnExactIsBoxesUptoSaid : Prop := fnExactIsBoxesUptoRow.holds Try.pinned (OpenSpec.upto fnExactIsBoxesSpec)

/-- 'laws.FnExactCountEdges', WHERE WHAT IT READS IS OF BULK AT MOST 1048576: true; the input reads as it did. -/
def fnExactCountEdgesUptoRow : OpenClaim := { program := "ytincdnlinepcgaa", sum := "0067b1cb6edfc17842c729e83f0a1cb0387eb86d757d9d88d78233825964d1c8", func := "loop.example/g01388/laws.FnExactCountEdges", spec := "fnExactCountEdges", apart := false, narrowed := true }
def FnExactCountEdgesUptoSaid : Prop := fnExactCountEdgesUptoRow.holds Try.pinned (OpenSpec.upto fnExactCountEdgesSpec)

/-- 'laws.FnExactEdgesOfBox', WHERE WHAT IT READS IS OF BULK AT MOST 1048576: true; the input reads as it did. -/
def fnExactEdgesOfBoxUptoRow : OpenClaim := { program := "ytincdnlinepcgaa", sum := "0067b1cb6edfc17842c729e83f0a1cb0387eb86d757d9d88d78233825964d1c8", func := "loop.example/g01388/laws.FnExactEdgesOfBox", spec := "fnExactEdgesOfBox", apart := false, narrowed := true }
def FnExactEdgesOfBoxUptoSaid : Prop := fnExactEdgesOfBoxUptoRow.holds Try.pinned (OpenSpec.upto fnExactEdgesOfBoxSpec)

/-- 'laws.FnExactTakenBoxes', WHERE WHAT IT READS IS OF BULK AT MOST 1048576: true; the input reads as it did. -/
def fnExactTakenBoxesUptoRow : OpenClaim := { program := "ytincdnlinepcgaa", sum := "0067b1cb6edfc17842c729e83f0a1cb0387eb86d757d9d88d78233825964d1c8", func := "loop.example/g01388/laws.FnExactTakenBoxes", spec := "fnExactTakenBoxes", apart := false, narrowed := true }
def FnExactTakenBoxesUptoSaid : Prop := fnExactTakenBoxesUptoRow.holds Try.pinned (OpenSpec.upto fnExactTakenBoxesSpec)

/-- 'laws.FnExactBoxesWith', WHERE WHAT IT READS IS OF BULK AT MOST 1048576: true; the input reads as it did. -/
def fnExactBoxesWithUptoRow : OpenClaim := { program := "ytincdnlinepcgaa", sum := "0067b1cb6edfc17842c729e83f0a1cb0387eb86d757d9d88d78233825964d1c8", func := "loop.example/g01388/laws.FnExactBoxesWith", spec := "fnExactBoxesWith", apart := false, narrowed := true }
def FnExactBoxesWithUptoSaid : Prop := fnExactBoxesWithUptoRow.holds Try.pinned (OpenSpec.upto fnExactBoxesWithSpec)

/-- 'laws.FnExactFreeEdges', WHERE WHAT IT READS IS OF BULK AT MOST 1048576: true; the input reads as it did. -/
def fnExactFreeEdgesUptoRow : OpenClaim := { program := "ytincdnlinepcgaa", sum := "0067b1cb6edfc17842c729e83f0a1cb0387eb86d757d9d88d78233825964d1c8", func := "loop.example/g01388/laws.FnExactFreeEdges", spec := "fnExactFreeEdges", apart := false, narrowed := true }
def FnExactFreeEdgesUptoSaid : Prop := fnExactFreeEdgesUptoRow.holds Try.pinned (OpenSpec.upto fnExactFreeEdgesSpec)

/-- 'laws.FnExactAddEdge', WHERE WHAT IT READS IS OF BULK AT MOST 1048576: true; the input reads as it did. -/
def fnExactAddEdgeUptoRow : OpenClaim := { program := "ytincdnlinepcgaa", sum := "0067b1cb6edfc17842c729e83f0a1cb0387eb86d757d9d88d78233825964d1c8", func := "loop.example/g01388/laws.FnExactAddEdge", spec := "fnExactAddEdge", apart := false, narrowed := true }
def FnExactAddEdgeUptoSaid : Prop := fnExactAddEdgeUptoRow.holds Try.pinned (OpenSpec.upto fnExactAddEdgeSpec)

/-- 'laws.FnExactSafeEdges', WHERE WHAT IT READS IS OF BULK AT MOST 1048576: true; the input reads as it did. -/
def fnExactSafeEdgesUptoRow : OpenClaim := { program := "ytincdnlinepcgaa", sum := "0067b1cb6edfc17842c729e83f0a1cb0387eb86d757d9d88d78233825964d1c8", func := "loop.example/g01388/laws.FnExactSafeEdges", spec := "fnExactSafeEdges", apart := false, narrowed := true }
def FnExactSafeEdgesUptoSaid : Prop := fnExactSafeEdgesUptoRow.holds Try.pinned (OpenSpec.upto fnExactSafeEdgesSpec)

/-- 'laws.FnExactReflectBoxes', WHERE WHAT IT READS IS OF BULK AT MOST 1048576: true; the input reads as it did. -/
def fnExactReflectBoxesUptoRow : OpenClaim := { program := "ytincdnlinepcgaa", sum := "0067b1cb6edfc17842c729e83f0a1cb0387eb86d757d9d88d78233825964d1c8", func := "loop.example/g01388/laws.FnExactReflectBoxes", spec := "fnExactReflectBoxes", apart := false, narrowed := true }
def FnExactReflectBoxesUptoSaid : Prop := fnExactReflectBoxesUptoRow.holds Try.pinned (OpenSpec.upto fnExactReflectBoxesSpec)

/-- 'laws.FnExactLeastBoxes', WHERE WHAT IT READS IS OF BULK AT MOST 1048576: true; the input reads as it did. -/
def fnExactLeastBoxesUptoRow : OpenClaim := { program := "ytincdnlinepcgaa", sum := "0067b1cb6edfc17842c729e83f0a1cb0387eb86d757d9d88d78233825964d1c8", func := "loop.example/g01388/laws.FnExactLeastBoxes", spec := "fnExactLeastBoxes", unfollowed := true, recurses := true, apart := false, narrowed := true }
def FnExactLeastBoxesUptoSaid : Prop := fnExactLeastBoxesUptoRow.holds Try.pinned (OpenSpec.upto fnExactLeastBoxesSpec)

end Rows
end Go.Proofs.Ytincdnlinepcgaa
