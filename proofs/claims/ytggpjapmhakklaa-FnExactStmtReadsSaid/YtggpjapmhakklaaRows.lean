/-
  NARROWER THAN 'FOR EVERY INPUT', by the rows' own cells (each row's printed sentence says how): FnExactStmtReads: loops.
  DERIVED. THE GIVEN ROWS OF THIS SEAT. 6 by the template 'for every input the law returns true; each argument reads behind the call as it read before'; 0 by the template 'total and deterministic' (their statements: YtggpjapmhakklaaTotals.lean).
  GIVEN WITH THE SEED: the statements are not yours to turn. If you find one false, say at which input.
  Laid BY PROGRAM, IN A SANDBOX (cutbox-rows.mjs): the forced cells as the released guide's own fill.sh prints them over the translation 639e9565b80ba747… (all of the seat's roots in one cut). By AI agents, Wed Nov 11 2026. No macro, syntax, notation, axiom, sorry.
-/
import Derived.Test.YtggpjapmhakklaaChecked
import GoSem.Claim
import GoSem.ClaimJoined
import GoSem.ClaimMapViews
import Derived.JoinedTies
import Derived.KernelRfl
namespace Go.Proofs.Ytggpjapmhakklaa
/- THE CELL 'sum', in the pinned program and in every row, IS THE sha256 OF THE DUMP (.gsa) THAT YtggpjapmhakklaaProg.lean LOADS. Nothing in Lean hashes anything: it is a label: what it is worth is what the hold of that sum in a sandbox is worth. -/
noncomputable def Try.pinned : Pinned := { name := "ytggpjapmhakklaa", sum := "639e9565b80ba7476f730f8ff5c982cd9028b233499240fe749c44f65c6ba717", checked := Try.checked }
namespace Rows
def none {H : Type} : Left H := { results := [], args := [] }

/-- 'laws.FnExactLruMisses': WHATEVER THE INPUT: true; the input reads as it did. -/
def fnExactLruMissesSpec : ChangeSpec := { name := "fnExactLruMisses", fn := fun _ => fun
  | [d1, d2] => { results := [.lit (.bool true)], args := [d1, d2] }
  | _ => none }
def fnExactLruMissesRow : OpenClaim := { program := "ytggpjapmhakklaa", sum := "639e9565b80ba7476f730f8ff5c982cd9028b233499240fe749c44f65c6ba717", func := "loop.example/loopnests/laws.FnExactLruMisses", spec := "fnExactLruMisses", unfollowed := true, recurses := true, apart := false }
def FnExactLruMissesSaid : Prop := fnExactLruMissesRow.holds Try.pinned (OpenSpec.ofChange fnExactLruMissesSpec)

/-- ITS FALSE NEIGHBOUR: 'it returns false'. Refute it at one input. -/
def fnExactLruMissesWrong : ChangeSpec := { name := "fnExactLruMisses", fn := fun _ => fun
  | [d1, d2] => { results := [.lit (.bool false)], args := [d1, d2] }
  | _ => none }
def FnExactLruMissesWrongFalsely : Prop := fnExactLruMissesRow.holds Try.pinned (OpenSpec.ofChange fnExactLruMissesWrong)

/-- 'laws.FnExactStackDistances': WHATEVER THE INPUT: true; the input reads as it did. -/
def fnExactStackDistancesSpec : ChangeSpec := { name := "fnExactStackDistances", fn := fun _ => fun
  | [d] => { results := [.lit (.bool true)], args := [d] }
  | _ => none }
def fnExactStackDistancesRow : OpenClaim := { program := "ytggpjapmhakklaa", sum := "639e9565b80ba7476f730f8ff5c982cd9028b233499240fe749c44f65c6ba717", func := "loop.example/loopnests/laws.FnExactStackDistances", spec := "fnExactStackDistances", unfollowed := true, recurses := true, apart := false }
def FnExactStackDistancesSaid : Prop := fnExactStackDistancesRow.holds Try.pinned (OpenSpec.ofChange fnExactStackDistancesSpec)

/-- ITS FALSE NEIGHBOUR: 'it returns false'. Refute it at one input. -/
def fnExactStackDistancesWrong : ChangeSpec := { name := "fnExactStackDistances", fn := fun _ => fun
  | [d] => { results := [.lit (.bool false)], args := [d] }
  | _ => none }
def FnExactStackDistancesWrongFalsely : Prop := fnExactStackDistancesRow.holds Try.pinned (OpenSpec.ofChange fnExactStackDistancesWrong)

/-- 'laws.FnExactBestMisses': WHATEVER THE INPUT: true; the input reads as it did. -/
def fnExactBestMissesSpec : ChangeSpec := { name := "fnExactBestMisses", fn := fun _ => fun
  | [d1, d2] => { results := [.lit (.bool true)], args := [d1, d2] }
  | _ => none }
def fnExactBestMissesRow : OpenClaim := { program := "ytggpjapmhakklaa", sum := "639e9565b80ba7476f730f8ff5c982cd9028b233499240fe749c44f65c6ba717", func := "loop.example/loopnests/laws.FnExactBestMisses", spec := "fnExactBestMisses", unfollowed := true, recurses := true, apart := false }
def FnExactBestMissesSaid : Prop := fnExactBestMissesRow.holds Try.pinned (OpenSpec.ofChange fnExactBestMissesSpec)

/-- ITS FALSE NEIGHBOUR: 'it returns false'. Refute it at one input. -/
def fnExactBestMissesWrong : ChangeSpec := { name := "fnExactBestMisses", fn := fun _ => fun
  | [d1, d2] => { results := [.lit (.bool false)], args := [d1, d2] }
  | _ => none }
def FnExactBestMissesWrongFalsely : Prop := fnExactBestMissesRow.holds Try.pinned (OpenSpec.ofChange fnExactBestMissesWrong)

/-- 'laws.FnExactDistinctCells': WHATEVER THE INPUT: true; the input reads as it did. -/
def fnExactDistinctCellsSpec : ChangeSpec := { name := "fnExactDistinctCells", fn := fun _ => fun
  | [d] => { results := [.lit (.bool true)], args := [d] }
  | _ => none }
def fnExactDistinctCellsRow : OpenClaim := { program := "ytggpjapmhakklaa", sum := "639e9565b80ba7476f730f8ff5c982cd9028b233499240fe749c44f65c6ba717", func := "loop.example/loopnests/laws.FnExactDistinctCells", spec := "fnExactDistinctCells", recurses := true, apart := false }
def FnExactDistinctCellsSaid : Prop := fnExactDistinctCellsRow.holds Try.pinned (OpenSpec.ofChange fnExactDistinctCellsSpec)

/-- ITS FALSE NEIGHBOUR: 'it returns false'. Refute it at one input. -/
def fnExactDistinctCellsWrong : ChangeSpec := { name := "fnExactDistinctCells", fn := fun _ => fun
  | [d] => { results := [.lit (.bool false)], args := [d] }
  | _ => none }
def FnExactDistinctCellsWrongFalsely : Prop := fnExactDistinctCellsRow.holds Try.pinned (OpenSpec.ofChange fnExactDistinctCellsWrong)

/-- 'laws.FnExactFitSize': WHATEVER THE INPUT: true; the input reads as it did. -/
def fnExactFitSizeSpec : ChangeSpec := { name := "fnExactFitSize", fn := fun _ => fun
  | [d] => { results := [.lit (.bool true)], args := [d] }
  | _ => none }
def fnExactFitSizeRow : OpenClaim := { program := "ytggpjapmhakklaa", sum := "639e9565b80ba7476f730f8ff5c982cd9028b233499240fe749c44f65c6ba717", func := "loop.example/loopnests/laws.FnExactFitSize", spec := "fnExactFitSize", unfollowed := true, recurses := true, apart := false }
def FnExactFitSizeSaid : Prop := fnExactFitSizeRow.holds Try.pinned (OpenSpec.ofChange fnExactFitSizeSpec)

/-- ITS FALSE NEIGHBOUR: 'it returns false'. Refute it at one input. -/
def fnExactFitSizeWrong : ChangeSpec := { name := "fnExactFitSize", fn := fun _ => fun
  | [d] => { results := [.lit (.bool false)], args := [d] }
  | _ => none }
def FnExactFitSizeWrongFalsely : Prop := fnExactFitSizeRow.holds Try.pinned (OpenSpec.ofChange fnExactFitSizeWrong)

/-- 'laws.FnExactStmtReads': WHATEVER THE INPUT: true; the input reads as it did. -/
def fnExactStmtReadsSpec : ChangeSpec := { name := "fnExactStmtReads", fn := fun _ => fun
  | [d] => { results := [.lit (.bool true)], args := [d] }
  | _ => none }
def fnExactStmtReadsRow : OpenClaim := { program := "ytggpjapmhakklaa", sum := "639e9565b80ba7476f730f8ff5c982cd9028b233499240fe749c44f65c6ba717", func := "loop.example/loopnests/laws.FnExactStmtReads", spec := "fnExactStmtReads", inPlace := ["internal/bytealg.IndexByteString", "internal/bytealg.IndexString"], unfollowed := true, recurses := true, named := ["internal/bytealg.MaxLen"], loops := true, apart := false }
def FnExactStmtReadsSaid : Prop := fnExactStmtReadsRow.holds Try.pinned (OpenSpec.ofChange fnExactStmtReadsSpec)

/-- ITS FALSE NEIGHBOUR: 'it returns false'. Refute it at one input. -/
def fnExactStmtReadsWrong : ChangeSpec := { name := "fnExactStmtReads", fn := fun _ => fun
  | [d] => { results := [.lit (.bool false)], args := [d] }
  | _ => none }
def FnExactStmtReadsWrongFalsely : Prop := fnExactStmtReadsRow.holds Try.pinned (OpenSpec.ofChange fnExactStmtReadsWrong)

/- THE SECOND FORM. 'bulk': how many values and letters a reading holds, each counted each time it is reached (what is shared counts as often as it is met; a slice's spare places count too). A statement '..UptoSaid' is the law's where the arguments, and the package variables that the reading takes, are together of bulk at most 1048576: NARROWER than '..Said'. Prove '..Said' where nothing that the law and all that it calls make is longer than what came in: it says more and counts as full. Else prove '..UptoSaid'. A law counts once. -/
mutual
def uptoBulk {H : Type} : DataW H → Nat
  | .lit (.string bytes) => bytes.length + 1
  | .lit _ => 1
  | .nil => 1
  | .ptr d => uptoBulk d + 1
  | .slice elems spare => uptoBulkAll elems + uptoBulkAll spare + 1
  | .agg parts => uptoBulkAll parts + 1
  | .iface _ d => uptoBulk d + 1
  | .map entries => uptoBulkEntries entries + 1
  | .held _ => 1
def uptoBulkAll {H : Type} : List (DataW H) → Nat
  | [] => 0
  | d :: r => uptoBulk d + uptoBulkAll r
def uptoBulkEntries {H : Type} : List (Lit × DataW H) → Nat
  | [] => 0
  | x :: r => uptoBulkEntry x + uptoBulkEntries r
def uptoBulkEntry {H : Type} : Lit × DataW H → Nat
  | (.string bytes, d) => bytes.length + uptoBulk d + 1
  | (_, d) => uptoBulk d + 1
 end
def uptoSmall : (H : Type) → List (DataW H) → Bool := fun _ ds => decide (uptoBulkAll ds ≤ 1048576)
def OpenSpec.upto (s : _root_.Go.ChangeSpec) : _root_.Go.OpenSpec := { _root_.Go.OpenSpec.ofChange s with cond := some uptoSmall }

/-- 'laws.FnExactLruMisses', WHERE WHAT IT READS IS OF BULK AT MOST 1048576: true; the input reads as it did. -/
def fnExactLruMissesUptoRow : OpenClaim := { program := "ytggpjapmhakklaa", sum := "639e9565b80ba7476f730f8ff5c982cd9028b233499240fe749c44f65c6ba717", func := "loop.example/loopnests/laws.FnExactLruMisses", spec := "fnExactLruMisses", unfollowed := true, recurses := true, apart := false, narrowed := true }
def FnExactLruMissesUptoSaid : Prop := fnExactLruMissesUptoRow.holds Try.pinned (OpenSpec.upto fnExactLruMissesSpec)

/-- 'laws.FnExactStackDistances', WHERE WHAT IT READS IS OF BULK AT MOST 1048576: true; the input reads as it did. -/
def fnExactStackDistancesUptoRow : OpenClaim := { program := "ytggpjapmhakklaa", sum := "639e9565b80ba7476f730f8ff5c982cd9028b233499240fe749c44f65c6ba717", func := "loop.example/loopnests/laws.FnExactStackDistances", spec := "fnExactStackDistances", unfollowed := true, recurses := true, apart := false, narrowed := true }
def FnExactStackDistancesUptoSaid : Prop := fnExactStackDistancesUptoRow.holds Try.pinned (OpenSpec.upto fnExactStackDistancesSpec)

/-- 'laws.FnExactBestMisses', WHERE WHAT IT READS IS OF BULK AT MOST 1048576: true; the input reads as it did. -/
def fnExactBestMissesUptoRow : OpenClaim := { program := "ytggpjapmhakklaa", sum := "639e9565b80ba7476f730f8ff5c982cd9028b233499240fe749c44f65c6ba717", func := "loop.example/loopnests/laws.FnExactBestMisses", spec := "fnExactBestMisses", unfollowed := true, recurses := true, apart := false, narrowed := true }
def FnExactBestMissesUptoSaid : Prop := fnExactBestMissesUptoRow.holds Try.pinned (OpenSpec.upto fnExactBestMissesSpec)

/-- 'laws.FnExactDistinctCells', WHERE WHAT IT READS IS OF BULK AT MOST 1048576: true; the input reads as it did. -/
def fnExactDistinctCellsUptoRow : OpenClaim := { program := "ytggpjapmhakklaa", sum := "639e9565b80ba7476f730f8ff5c982cd9028b233499240fe749c44f65c6ba717", func := "loop.example/loopnests/laws.FnExactDistinctCells", spec := "fnExactDistinctCells", recurses := true, apart := false, narrowed := true }
def FnExactDistinctCellsUptoSaid : Prop := fnExactDistinctCellsUptoRow.holds Try.pinned (OpenSpec.upto fnExactDistinctCellsSpec)

/-- 'laws.FnExactFitSize', WHERE WHAT IT READS IS OF BULK AT MOST 1048576: true; the input reads as it did. -/
def fnExactFitSizeUptoRow : OpenClaim := { program := "ytggpjapmhakklaa", sum := "639e9565b80ba7476f730f8ff5c982cd9028b233499240fe749c44f65c6ba717", func := "loop.example/loopnests/laws.FnExactFitSize", spec := "fnExactFitSize", unfollowed := true, recurses := true, apart := false, narrowed := true }
def FnExactFitSizeUptoSaid : Prop := fnExactFitSizeUptoRow.holds Try.pinned (OpenSpec.upto fnExactFitSizeSpec)

/-- 'laws.FnExactStmtReads', WHERE WHAT IT READS IS OF BULK AT MOST 1048576: true; the input reads as it did. -/
def fnExactStmtReadsUptoRow : OpenClaim := { program := "ytggpjapmhakklaa", sum := "639e9565b80ba7476f730f8ff5c982cd9028b233499240fe749c44f65c6ba717", func := "loop.example/loopnests/laws.FnExactStmtReads", spec := "fnExactStmtReads", inPlace := ["internal/bytealg.IndexByteString", "internal/bytealg.IndexString"], unfollowed := true, recurses := true, named := ["internal/bytealg.MaxLen"], loops := true, apart := false, narrowed := true }
def FnExactStmtReadsUptoSaid : Prop := fnExactStmtReadsUptoRow.holds Try.pinned (OpenSpec.upto fnExactStmtReadsSpec)

end Rows
end Go.Proofs.Ytggpjapmhakklaa
