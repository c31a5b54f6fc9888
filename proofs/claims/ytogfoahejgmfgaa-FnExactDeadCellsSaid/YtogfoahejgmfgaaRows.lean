/-
  No cell of these rows narrows 'for every input' (looked for: loops, veiled, ifaces, maps, wideKeys, modest, calm, conditions, laid).
  DERIVED. THE GIVEN ROWS OF THIS SEAT. 7 by the template 'for every input the law returns true; each argument reads behind the call as it read before'; 0 by the template 'total and deterministic' (their statements: YtogfoahejgmfgaaTotals.lean).
  GIVEN WITH THE SEED: the statements are not yours to turn. If you find one false, say at which input.
  Laid BY PROGRAM, IN A SANDBOX (cutbox-rows.mjs): the forced cells as the released guide's own fill.sh prints them over the translation c75102ba8a466c69… (all of the seat's roots in one cut). By AI agents, Wed Nov 11 2026. No macro, syntax, notation, axiom, sorry.
-/
import Derived.Test.YtogfoahejgmfgaaChecked
import GoSem.Claim
import GoSem.ClaimJoined
import GoSem.ClaimMapViews
import Derived.JoinedTies
import Derived.KernelRfl
namespace Go.Proofs.Ytogfoahejgmfgaa
/- THE CELL 'sum', in the pinned program and in every row, IS THE sha256 OF THE DUMP (.gsa) THAT YtogfoahejgmfgaaProg.lean LOADS. Nothing in Lean hashes anything: it is a label: what it is worth is what the hold of that sum in a sandbox is worth. -/
noncomputable def Try.pinned : Pinned := { name := "ytogfoahejgmfgaa", sum := "c75102ba8a466c69022b1bf484a2ffeac73b1d0d6966ba2ca5c227d332bd15b4", checked := Try.checked }
namespace Rows
def none {H : Type} : Left H := { results := [], args := [] }

/-- 'laws.FnExactNeedOf': WHATEVER THE INPUT: true; the input reads as it did. -/
def fnExactNeedOfSpec : ChangeSpec := { name := "fnExactNeedOf", fn := fun _ => fun
  | [d1, d2] => { results := [.lit (.bool true)], args := [d1, d2] }
  | _ => none }
def fnExactNeedOfRow : OpenClaim := { program := "ytogfoahejgmfgaa", sum := "c75102ba8a466c69022b1bf484a2ffeac73b1d0d6966ba2ca5c227d332bd15b4", func := "loop.example/g01388/laws.FnExactNeedOf", spec := "fnExactNeedOf", unfollowed := true, recurses := true, apart := false }
def FnExactNeedOfSaid : Prop := fnExactNeedOfRow.holds Try.pinned (OpenSpec.ofChange fnExactNeedOfSpec)

/-- ITS FALSE NEIGHBOUR: 'it returns false'. Refute it at one input. -/
def fnExactNeedOfWrong : ChangeSpec := { name := "fnExactNeedOf", fn := fun _ => fun
  | [d1, d2] => { results := [.lit (.bool false)], args := [d1, d2] }
  | _ => none }
def FnExactNeedOfWrongFalsely : Prop := fnExactNeedOfRow.holds Try.pinned (OpenSpec.ofChange fnExactNeedOfWrong)

/-- 'laws.FnExactJoinerOf': WHATEVER THE INPUT: true; the input reads as it did. -/
def fnExactJoinerOfSpec : ChangeSpec := { name := "fnExactJoinerOf", fn := fun _ => fun
  | [d] => { results := [.lit (.bool true)], args := [d] }
  | _ => none }
def fnExactJoinerOfRow : OpenClaim := { program := "ytogfoahejgmfgaa", sum := "c75102ba8a466c69022b1bf484a2ffeac73b1d0d6966ba2ca5c227d332bd15b4", func := "loop.example/g01388/laws.FnExactJoinerOf", spec := "fnExactJoinerOf", unfollowed := true, recurses := true, apart := false }
def FnExactJoinerOfSaid : Prop := fnExactJoinerOfRow.holds Try.pinned (OpenSpec.ofChange fnExactJoinerOfSpec)

/-- ITS FALSE NEIGHBOUR: 'it returns false'. Refute it at one input. -/
def fnExactJoinerOfWrong : ChangeSpec := { name := "fnExactJoinerOf", fn := fun _ => fun
  | [d] => { results := [.lit (.bool false)], args := [d] }
  | _ => none }
def FnExactJoinerOfWrongFalsely : Prop := fnExactJoinerOfRow.holds Try.pinned (OpenSpec.ofChange fnExactJoinerOfWrong)

/-- 'laws.FnExactDeadCells': WHATEVER THE INPUT: true; the input reads as it did. -/
def fnExactDeadCellsSpec : ChangeSpec := { name := "fnExactDeadCells", fn := fun _ => fun
  | [d] => { results := [.lit (.bool true)], args := [d] }
  | _ => none }
def fnExactDeadCellsRow : OpenClaim := { program := "ytogfoahejgmfgaa", sum := "c75102ba8a466c69022b1bf484a2ffeac73b1d0d6966ba2ca5c227d332bd15b4", func := "loop.example/g01388/laws.FnExactDeadCells", spec := "fnExactDeadCells", unfollowed := true, recurses := true, apart := false }
def FnExactDeadCellsSaid : Prop := fnExactDeadCellsRow.holds Try.pinned (OpenSpec.ofChange fnExactDeadCellsSpec)

/-- ITS FALSE NEIGHBOUR: 'it returns false'. Refute it at one input. -/
def fnExactDeadCellsWrong : ChangeSpec := { name := "fnExactDeadCells", fn := fun _ => fun
  | [d] => { results := [.lit (.bool false)], args := [d] }
  | _ => none }
def FnExactDeadCellsWrongFalsely : Prop := fnExactDeadCellsRow.holds Try.pinned (OpenSpec.ofChange fnExactDeadCellsWrong)

/-- 'laws.FnExactHexBridges': WHATEVER THE INPUT: true; the input reads as it did. -/
def fnExactHexBridgesSpec : ChangeSpec := { name := "fnExactHexBridges", fn := fun _ => fun
  | [d1, d2] => { results := [.lit (.bool true)], args := [d1, d2] }
  | _ => none }
def fnExactHexBridgesRow : OpenClaim := { program := "ytogfoahejgmfgaa", sum := "c75102ba8a466c69022b1bf484a2ffeac73b1d0d6966ba2ca5c227d332bd15b4", func := "loop.example/g01388/laws.FnExactHexBridges", spec := "fnExactHexBridges", unfollowed := true, recurses := true, apart := false }
def FnExactHexBridgesSaid : Prop := fnExactHexBridgesRow.holds Try.pinned (OpenSpec.ofChange fnExactHexBridgesSpec)

/-- ITS FALSE NEIGHBOUR: 'it returns false'. Refute it at one input. -/
def fnExactHexBridgesWrong : ChangeSpec := { name := "fnExactHexBridges", fn := fun _ => fun
  | [d1, d2] => { results := [.lit (.bool false)], args := [d1, d2] }
  | _ => none }
def FnExactHexBridgesWrongFalsely : Prop := fnExactHexBridgesRow.holds Try.pinned (OpenSpec.ofChange fnExactHexBridgesWrong)

/-- 'laws.FnExactNetOf': WHATEVER THE INPUT: true; the input reads as it did. -/
def fnExactNetOfSpec : ChangeSpec := { name := "fnExactNetOf", fn := fun _ => fun
  | [d] => { results := [.lit (.bool true)], args := [d] }
  | _ => none }
def fnExactNetOfRow : OpenClaim := { program := "ytogfoahejgmfgaa", sum := "c75102ba8a466c69022b1bf484a2ffeac73b1d0d6966ba2ca5c227d332bd15b4", func := "loop.example/g01388/laws.FnExactNetOf", spec := "fnExactNetOf", unfollowed := true, recurses := true, apart := false }
def FnExactNetOfSaid : Prop := fnExactNetOfRow.holds Try.pinned (OpenSpec.ofChange fnExactNetOfSpec)

/-- ITS FALSE NEIGHBOUR: 'it returns false'. Refute it at one input. -/
def fnExactNetOfWrong : ChangeSpec := { name := "fnExactNetOf", fn := fun _ => fun
  | [d] => { results := [.lit (.bool false)], args := [d] }
  | _ => none }
def FnExactNetOfWrongFalsely : Prop := fnExactNetOfRow.holds Try.pinned (OpenSpec.ofChange fnExactNetOfWrong)

/-- 'laws.FnExactNewDesk': WHATEVER THE INPUT: true; the input reads as it did. -/
def fnExactNewDeskSpec : ChangeSpec := { name := "fnExactNewDesk", fn := fun _ => fun
  | [] => { results := [.lit (.bool true)], args := [] }
  | _ => none }
def fnExactNewDeskRow : OpenClaim := { program := "ytogfoahejgmfgaa", sum := "c75102ba8a466c69022b1bf484a2ffeac73b1d0d6966ba2ca5c227d332bd15b4", func := "loop.example/g01388/laws.FnExactNewDesk", spec := "fnExactNewDesk", apart := false }
def FnExactNewDeskSaid : Prop := fnExactNewDeskRow.holds Try.pinned (OpenSpec.ofChange fnExactNewDeskSpec)

/-- ITS FALSE NEIGHBOUR: 'it returns false'. Refute it at one input. -/
def fnExactNewDeskWrong : ChangeSpec := { name := "fnExactNewDesk", fn := fun _ => fun
  | [] => { results := [.lit (.bool false)], args := [] }
  | _ => none }
def FnExactNewDeskWrongFalsely : Prop := fnExactNewDeskRow.holds Try.pinned (OpenSpec.ofChange fnExactNewDeskWrong)

/-- 'laws.FnExactIsDesk': WHATEVER THE INPUT: true; the input reads as it did. -/
def fnExactIsDeskSpec : ChangeSpec := { name := "fnExactIsDesk", fn := fun _ => fun
  | [d] => { results := [.lit (.bool true)], args := [d] }
  | _ => none }
def fnExactIsDeskRow : OpenClaim := { program := "ytogfoahejgmfgaa", sum := "c75102ba8a466c69022b1bf484a2ffeac73b1d0d6966ba2ca5c227d332bd15b4", func := "loop.example/g01388/laws.FnExactIsDesk", spec := "fnExactIsDesk", unfollowed := true, recurses := true, apart := false }
def FnExactIsDeskSaid : Prop := fnExactIsDeskRow.holds Try.pinned (OpenSpec.ofChange fnExactIsDeskSpec)

/-- ITS FALSE NEIGHBOUR: 'it returns false'. Refute it at one input. -/
def fnExactIsDeskWrong : ChangeSpec := { name := "fnExactIsDesk", fn := fun _ => fun
  | [d] => { results := [.lit (.bool false)], args := [d] }
  | _ => none }
def FnExactIsDeskWrongFalsely : Prop := fnExactIsDeskRow.holds Try.pinned (OpenSpec.ofChange fnExactIsDeskWrong)

/- THE SECOND FORM. 'bulk': how many values and letters a reading holds, each counted each time it is reached (what is shared counts as often as it is met; a slice's spare places count too). A statement '..UptoSaid' is the law's where the arguments, and the package variables that the reading takes, are together of bulk at most 1048576: NARROWER than '..Said'. Prove '..Said' where nothing that the law and all that it calls make is longer than what came in: it says more and counts as full. Else prove '..UptoSaid'. A law counts once. -/
mutual
def uptoBulk {H : Type} : DataW H → Nat
  | .lit (.string bytes) => bytes.length + 1
  | .lit _ => 1
  | .nil => 1
  | .ptr d => uptoBulk d + 1
  | .slice elems spare => uptoBulkAll elems + uptoBulkAll spare + 1
  | .agg parts => uptoBulkAll parts + 1
  | .iface _ d => uptoBulk d + 1
  | .map entries => uptoBulkEntries entries + 1
  | .held _ => 1
def uptoBulkAll {H : Type} : List (DataW H) → Nat
  | [] => 0
  | d :: r => uptoBulk d + uptoBulkAll r
def uptoBulkEntries {H : Type} : List (Lit × DataW H) → Nat
  | [] => 0
  | x :: r => uptoBulkEntry x + uptoBulkEntries r
def uptoBulkEntry {H : Type} : Lit × DataW H → Nat
  | (.string bytes, d) => bytes.length + uptoBulk d + 1
  | (_, d) => uptoBulk d + 1
 end
def uptoSmall : (H : Type) → List (DataW H) → Bool := fun _ ds => decide (uptoBulkAll ds ≤ 1048576)
def OpenSpec.upto (s : _root_.Go.ChangeSpec) : _root_.Go.OpenSpec := { _root_.Go.OpenSpec.ofChange s with cond := some uptoSmall }

/-- 'laws.FnExactNeedOf', WHERE WHAT IT READS IS OF BULK AT MOST 1048576: true; the input reads as it did. -/
def fnExactNeedOfUptoRow : OpenClaim := { program := "ytogfoahejgmfgaa", sum := "c75102ba8a466c69022b1bf484a2ffeac73b1d0d6966ba2ca5c227d332bd15b4", func := "loop.example/g01388/laws.FnExactNeedOf", spec := "fnExactNeedOf", unfollowed := true, recurses := true, apart := false, narrowed := true }
def FnExactNeedOfUptoSaid : Prop := fnExactNeedOfUptoRow.holds Try.pinned (OpenSpec.upto fnExactNeedOfSpec)

/-- 'laws.FnExactJoinerOf', WHERE WHAT IT READS IS OF BULK AT MOST 1048576: true; the input reads as it did. -/
def fnExactJoinerOfUptoRow : OpenClaim := { program := "ytogfoahejgmfgaa", sum := "c75102ba8a466c69022b1bf484a2ffeac73b1d0d6966ba2ca5c227d332bd15b4", func := "loop.example/g01388/laws.FnExactJoinerOf", spec := "fnExactJoinerOf", unfollowed := true, recurses := true, apart := false, narrowed := true }
def FnExactJoinerOfUptoSaid : Prop := fnExactJoinerOfUptoRow.holds Try.pinned (OpenSpec.upto fnExactJoinerOfSpec)

/-- 'laws.FnExactDeadCells', WHERE WHAT IT READS IS OF BULK AT MOST 1048576: true; the input reads as it did. -/
def fnExactDeadCellsUptoRow : OpenClaim := { program := "ytogfoahejgmfgaa", sum := "c75102ba8a466c69022b1bf484a2ffeac73b1d0d6966ba2ca5c227d332bd15b4", func := "loop.example/g01388/laws.FnExactDeadCells", spec := "fnExactDeadCells", unfollowed := true, recurses := true, apart := false, narrowed := true }
def FnExactDeadCellsUptoSaid : Prop := fnExactDeadCellsUptoRow.holds Try.pinned (OpenSpec.upto fnExactDeadCellsSpec)

/-- 'laws.FnExactHexBridges', WHERE WHAT IT READS IS OF BULK AT MOST 1048576: true; the input reads as it did. -/
def fnExactHexBridgesUptoRow : OpenClaim := { program := "ytogfoahejgmfgaa", sum := "c75102ba8a466c69022b1bf484a2ffeac73b1d0d6966ba2ca5c227d332bd15b4", func := "loop.example/g01388/laws.FnExactHexBridges", spec := "fnExactHexBridges", unfollowed := true, recurses := true, apart := false, narrowed := true }
def FnExactHexBridgesUptoSaid : Prop := fnExactHexBridgesUptoRow.holds Try.pinned (OpenSpec.upto fnExactHexBridgesSpec)

/-- 'laws.FnExactNetOf', WHERE WHAT IT READS IS OF BULK AT MOST 1048576: true; the input reads as it did. -/
def fnExactNetOfUptoRow : OpenClaim := { program := "ytogfoahejgmfgaa", sum := "c75102ba8a466c69022b1bf484a2ffeac73b1d0d6966ba2ca5c227d332bd15b4", func := "loop.example/g01388/laws.FnExactNetOf", spec := "fnExactNetOf", unfollowed := true, recurses := true, apart := false, narrowed := true }
def FnExactNetOfUptoSaid : Prop := fnExactNetOfUptoRow.holds Try.pinned (OpenSpec.upto fnExactNetOfSpec)

/-- 'laws.FnExactNewDesk', WHERE WHAT IT READS IS OF BULK AT MOST 1048576: true; the input reads as it did. -/
def fnExactNewDeskUptoRow : OpenClaim := { program := "ytogfoahejgmfgaa", sum := "c75102ba8a466c69022b1bf484a2ffeac73b1d0d6966ba2ca5c227d332bd15b4", func := "loop.example/g01388/laws.FnExactNewDesk", spec := "fnExactNewDesk", apart := false, narrowed := true }
def FnExactNewDeskUptoSaid : Prop := fnExactNewDeskUptoRow.holds Try.pinned (OpenSpec.upto fnExactNewDeskSpec)

/-- 'laws.FnExactIsDesk', WHERE WHAT IT READS IS OF BULK AT MOST 1048576: true; the input reads as it did. -/
def fnExactIsDeskUptoRow : OpenClaim := { program := "ytogfoahejgmfgaa", sum := "c75102ba8a466c69022b1bf484a2ffeac73b1d0d6966ba2ca5c227d332bd15b4", func := "loop.example/g01388/laws.FnExactIsDesk", spec := "fnExactIsDesk", unfollowed := true, recurses := true, apart := false, narrowed := true }
def FnExactIsDeskUptoSaid : Prop := fnExactIsDeskUptoRow.holds Try.pinned (OpenSpec.upto fnExactIsDeskSpec)

end Rows
end Go.Proofs.Ytogfoahejgmfgaa
