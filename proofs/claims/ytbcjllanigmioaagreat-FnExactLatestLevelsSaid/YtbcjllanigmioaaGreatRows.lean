/-
  NARROWER THAN 'FOR EVERY INPUT', by the rows' own cells (each row's printed sentence says how): FnExactInputCells: loops · FnExactDeadInstances: loops · FnExactLiveInstances: loops · FnExactFlowSources: loops · FnExactDependences: loops · FnExactOrderLegal: loops · FnExactLevelsOf: loops · FnExactCriticalLength: loops · FnExactLatestLevels: loops · FnExactLevelOrder: loops · FnExactConnectedParts: loops · FnExactOrderBroken: loops.
  DERIVED. THE GIVEN ROWS OF THIS SEAT. 12 by the template 'for every input the law returns true; each argument reads behind the call as it read before'; 0 by the template 'total and deterministic' (their statements: YtbcjllanigmioaaGreatTotals.lean).
  GIVEN WITH THE SEED: the statements are not yours to turn. If you find one false, say at which input.
  Laid BY PROGRAM, IN A SANDBOX (cutbox-rows.mjs): the forced cells as the released guide's own fill.sh prints them over the translation d59894d7ee7b3c63… (all of the seat's roots in one cut). By AI agents, Wed Nov 11 2026. No macro, syntax, notation, axiom, sorry.
-/
import Derived.Test.YtbcjllanigmioaaGreatChecked
import GoSem.Claim
import GoSem.ClaimJoined
import GoSem.ClaimMapViews
import Derived.JoinedTies
import Derived.KernelRfl
namespace Go.Proofs.YtbcjllanigmioaaGreat
/- THE CELL 'sum', in the pinned program and in every row, IS THE sha256 OF THE DUMP (.gsa) THAT YtbcjllanigmioaaGreatProg.lean LOADS. Nothing in Lean hashes anything: it is a label: what it is worth is what the hold of that sum in a sandbox is worth. -/
noncomputable def Tryz.pinned : Pinned := { name := "ytbcjllanigmioaagreat", sum := "d59894d7ee7b3c63cbf8b009127833d8583cb0705761dedeffb49dbeba0da66f", checked := Tryz.checked }
namespace Rows
def none {H : Type} : Left H := { results := [], args := [] }

/-- 'laws.FnExactInputCells': WHATEVER THE INPUT: true; the input reads as it did. -/
def fnExactInputCellsSpec : ChangeSpec := { name := "fnExactInputCells", fn := fun _ => fun
  | [d] => { results := [.lit (.bool true)], args := [d] }
  | _ => none }
def fnExactInputCellsRow : OpenClaim := { program := "ytbcjllanigmioaagreat", sum := "d59894d7ee7b3c63cbf8b009127833d8583cb0705761dedeffb49dbeba0da66f", func := "loop.example/loopnests/laws.FnExactInputCells", spec := "fnExactInputCells", inPlace := ["internal/bytealg.IndexByteString", "internal/bytealg.IndexString"], unfollowed := true, recurses := true, named := ["internal/bytealg.MaxLen"], loops := true, apart := false }
def FnExactInputCellsSaid : Prop := fnExactInputCellsRow.holds Tryz.pinned (OpenSpec.ofChange fnExactInputCellsSpec)

/-- ITS FALSE NEIGHBOUR: 'it returns false'. Refute it at one input. -/
def fnExactInputCellsWrong : ChangeSpec := { name := "fnExactInputCells", fn := fun _ => fun
  | [d] => { results := [.lit (.bool false)], args := [d] }
  | _ => none }
def FnExactInputCellsWrongFalsely : Prop := fnExactInputCellsRow.holds Tryz.pinned (OpenSpec.ofChange fnExactInputCellsWrong)

/-- 'laws.FnExactDeadInstances': WHATEVER THE INPUT: true; the input reads as it did. -/
def fnExactDeadInstancesSpec : ChangeSpec := { name := "fnExactDeadInstances", fn := fun _ => fun
  | [d] => { results := [.lit (.bool true)], args := [d] }
  | _ => none }
def fnExactDeadInstancesRow : OpenClaim := { program := "ytbcjllanigmioaagreat", sum := "d59894d7ee7b3c63cbf8b009127833d8583cb0705761dedeffb49dbeba0da66f", func := "loop.example/loopnests/laws.FnExactDeadInstances", spec := "fnExactDeadInstances", inPlace := ["internal/bytealg.IndexByteString", "internal/bytealg.IndexString"], unfollowed := true, recurses := true, named := ["internal/bytealg.MaxLen"], loops := true, apart := false }
def FnExactDeadInstancesSaid : Prop := fnExactDeadInstancesRow.holds Tryz.pinned (OpenSpec.ofChange fnExactDeadInstancesSpec)

/-- ITS FALSE NEIGHBOUR: 'it returns false'. Refute it at one input. -/
def fnExactDeadInstancesWrong : ChangeSpec := { name := "fnExactDeadInstances", fn := fun _ => fun
  | [d] => { results := [.lit (.bool false)], args := [d] }
  | _ => none }
def FnExactDeadInstancesWrongFalsely : Prop := fnExactDeadInstancesRow.holds Tryz.pinned (OpenSpec.ofChange fnExactDeadInstancesWrong)

/-- 'laws.FnExactLiveInstances': WHATEVER THE INPUT: true; the input reads as it did. -/
def fnExactLiveInstancesSpec : ChangeSpec := { name := "fnExactLiveInstances", fn := fun _ => fun
  | [d] => { results := [.lit (.bool true)], args := [d] }
  | _ => none }
def fnExactLiveInstancesRow : OpenClaim := { program := "ytbcjllanigmioaagreat", sum := "d59894d7ee7b3c63cbf8b009127833d8583cb0705761dedeffb49dbeba0da66f", func := "loop.example/loopnests/laws.FnExactLiveInstances", spec := "fnExactLiveInstances", inPlace := ["internal/bytealg.IndexByteString", "internal/bytealg.IndexString"], unfollowed := true, recurses := true, named := ["internal/bytealg.MaxLen"], loops := true, apart := false }
def FnExactLiveInstancesSaid : Prop := fnExactLiveInstancesRow.holds Tryz.pinned (OpenSpec.ofChange fnExactLiveInstancesSpec)

/-- ITS FALSE NEIGHBOUR: 'it returns false'. Refute it at one input. -/
def fnExactLiveInstancesWrong : ChangeSpec := { name := "fnExactLiveInstances", fn := fun _ => fun
  | [d] => { results := [.lit (.bool false)], args := [d] }
  | _ => none }
def FnExactLiveInstancesWrongFalsely : Prop := fnExactLiveInstancesRow.holds Tryz.pinned (OpenSpec.ofChange fnExactLiveInstancesWrong)

/-- 'laws.FnExactFlowSources': WHATEVER THE INPUT: true; the input reads as it did. -/
def fnExactFlowSourcesSpec : ChangeSpec := { name := "fnExactFlowSources", fn := fun _ => fun
  | [d1, d2] => { results := [.lit (.bool true)], args := [d1, d2] }
  | _ => none }
def fnExactFlowSourcesRow : OpenClaim := { program := "ytbcjllanigmioaagreat", sum := "d59894d7ee7b3c63cbf8b009127833d8583cb0705761dedeffb49dbeba0da66f", func := "loop.example/loopnests/laws.FnExactFlowSources", spec := "fnExactFlowSources", inPlace := ["internal/bytealg.IndexByteString", "internal/bytealg.IndexString"], unfollowed := true, recurses := true, named := ["internal/bytealg.MaxLen"], loops := true, apart := false }
def FnExactFlowSourcesSaid : Prop := fnExactFlowSourcesRow.holds Tryz.pinned (OpenSpec.ofChange fnExactFlowSourcesSpec)

/-- ITS FALSE NEIGHBOUR: 'it returns false'. Refute it at one input. -/
def fnExactFlowSourcesWrong : ChangeSpec := { name := "fnExactFlowSources", fn := fun _ => fun
  | [d1, d2] => { results := [.lit (.bool false)], args := [d1, d2] }
  | _ => none }
def FnExactFlowSourcesWrongFalsely : Prop := fnExactFlowSourcesRow.holds Tryz.pinned (OpenSpec.ofChange fnExactFlowSourcesWrong)

/-- 'laws.FnExactDependences': WHATEVER THE INPUT: true; the input reads as it did. -/
def fnExactDependencesSpec : ChangeSpec := { name := "fnExactDependences", fn := fun _ => fun
  | [d] => { results := [.lit (.bool true)], args := [d] }
  | _ => none }
def fnExactDependencesRow : OpenClaim := { program := "ytbcjllanigmioaagreat", sum := "d59894d7ee7b3c63cbf8b009127833d8583cb0705761dedeffb49dbeba0da66f", func := "loop.example/loopnests/laws.FnExactDependences", spec := "fnExactDependences", inPlace := ["internal/bytealg.IndexByteString", "internal/bytealg.IndexString"], unfollowed := true, recurses := true, named := ["internal/bytealg.MaxLen"], loops := true, apart := false }
def FnExactDependencesSaid : Prop := fnExactDependencesRow.holds Tryz.pinned (OpenSpec.ofChange fnExactDependencesSpec)

/-- ITS FALSE NEIGHBOUR: 'it returns false'. Refute it at one input. -/
def fnExactDependencesWrong : ChangeSpec := { name := "fnExactDependences", fn := fun _ => fun
  | [d] => { results := [.lit (.bool false)], args := [d] }
  | _ => none }
def FnExactDependencesWrongFalsely : Prop := fnExactDependencesRow.holds Tryz.pinned (OpenSpec.ofChange fnExactDependencesWrong)

/-- 'laws.FnExactOrderLegal': WHATEVER THE INPUT: true; the input reads as it did. -/
def fnExactOrderLegalSpec : ChangeSpec := { name := "fnExactOrderLegal", fn := fun _ => fun
  | [d1, d2] => { results := [.lit (.bool true)], args := [d1, d2] }
  | _ => none }
def fnExactOrderLegalRow : OpenClaim := { program := "ytbcjllanigmioaagreat", sum := "d59894d7ee7b3c63cbf8b009127833d8583cb0705761dedeffb49dbeba0da66f", func := "loop.example/loopnests/laws.FnExactOrderLegal", spec := "fnExactOrderLegal", inPlace := ["internal/bytealg.IndexByteString", "internal/bytealg.IndexString"], unfollowed := true, recurses := true, named := ["internal/bytealg.MaxLen"], loops := true, apart := false }
def FnExactOrderLegalSaid : Prop := fnExactOrderLegalRow.holds Tryz.pinned (OpenSpec.ofChange fnExactOrderLegalSpec)

/-- ITS FALSE NEIGHBOUR: 'it returns false'. Refute it at one input. -/
def fnExactOrderLegalWrong : ChangeSpec := { name := "fnExactOrderLegal", fn := fun _ => fun
  | [d1, d2] => { results := [.lit (.bool false)], args := [d1, d2] }
  | _ => none }
def FnExactOrderLegalWrongFalsely : Prop := fnExactOrderLegalRow.holds Tryz.pinned (OpenSpec.ofChange fnExactOrderLegalWrong)

/-- 'laws.FnExactLevelsOf': WHATEVER THE INPUT: true; the input reads as it did. -/
def fnExactLevelsOfSpec : ChangeSpec := { name := "fnExactLevelsOf", fn := fun _ => fun
  | [d] => { results := [.lit (.bool true)], args := [d] }
  | _ => none }
def fnExactLevelsOfRow : OpenClaim := { program := "ytbcjllanigmioaagreat", sum := "d59894d7ee7b3c63cbf8b009127833d8583cb0705761dedeffb49dbeba0da66f", func := "loop.example/loopnests/laws.FnExactLevelsOf", spec := "fnExactLevelsOf", inPlace := ["internal/bytealg.IndexByteString", "internal/bytealg.IndexString"], unfollowed := true, recurses := true, named := ["internal/bytealg.MaxLen"], loops := true, apart := false }
def FnExactLevelsOfSaid : Prop := fnExactLevelsOfRow.holds Tryz.pinned (OpenSpec.ofChange fnExactLevelsOfSpec)

/-- ITS FALSE NEIGHBOUR: 'it returns false'. Refute it at one input. -/
def fnExactLevelsOfWrong : ChangeSpec := { name := "fnExactLevelsOf", fn := fun _ => fun
  | [d] => { results := [.lit (.bool false)], args := [d] }
  | _ => none }
def FnExactLevelsOfWrongFalsely : Prop := fnExactLevelsOfRow.holds Tryz.pinned (OpenSpec.ofChange fnExactLevelsOfWrong)

/-- 'laws.FnExactCriticalLength': WHATEVER THE INPUT: true; the input reads as it did. -/
def fnExactCriticalLengthSpec : ChangeSpec := { name := "fnExactCriticalLength", fn := fun _ => fun
  | [d] => { results := [.lit (.bool true)], args := [d] }
  | _ => none }
def fnExactCriticalLengthRow : OpenClaim := { program := "ytbcjllanigmioaagreat", sum := "d59894d7ee7b3c63cbf8b009127833d8583cb0705761dedeffb49dbeba0da66f", func := "loop.example/loopnests/laws.FnExactCriticalLength", spec := "fnExactCriticalLength", inPlace := ["internal/bytealg.IndexByteString", "internal/bytealg.IndexString"], unfollowed := true, recurses := true, named := ["internal/bytealg.MaxLen"], loops := true, apart := false }
def FnExactCriticalLengthSaid : Prop := fnExactCriticalLengthRow.holds Tryz.pinned (OpenSpec.ofChange fnExactCriticalLengthSpec)

/-- ITS FALSE NEIGHBOUR: 'it returns false'. Refute it at one input. -/
def fnExactCriticalLengthWrong : ChangeSpec := { name := "fnExactCriticalLength", fn := fun _ => fun
  | [d] => { results := [.lit (.bool false)], args := [d] }
  | _ => none }
def FnExactCriticalLengthWrongFalsely : Prop := fnExactCriticalLengthRow.holds Tryz.pinned (OpenSpec.ofChange fnExactCriticalLengthWrong)

/-- 'laws.FnExactLatestLevels': WHATEVER THE INPUT: true; the input reads as it did. -/
def fnExactLatestLevelsSpec : ChangeSpec := { name := "fnExactLatestLevels", fn := fun _ => fun
  | [d] => { results := [.lit (.bool true)], args := [d] }
  | _ => none }
def fnExactLatestLevelsRow : OpenClaim := { program := "ytbcjllanigmioaagreat", sum := "d59894d7ee7b3c63cbf8b009127833d8583cb0705761dedeffb49dbeba0da66f", func := "loop.example/loopnests/laws.FnExactLatestLevels", spec := "fnExactLatestLevels", inPlace := ["internal/bytealg.IndexByteString", "internal/bytealg.IndexString"], unfollowed := true, recurses := true, named := ["internal/bytealg.MaxLen"], loops := true, apart := false }
def FnExactLatestLevelsSaid : Prop := fnExactLatestLevelsRow.holds Tryz.pinned (OpenSpec.ofChange fnExactLatestLevelsSpec)

/-- ITS FALSE NEIGHBOUR: 'it returns false'. Refute it at one input. -/
def fnExactLatestLevelsWrong : ChangeSpec := { name := "fnExactLatestLevels", fn := fun _ => fun
  | [d] => { results := [.lit (.bool false)], args := [d] }
  | _ => none }
def FnExactLatestLevelsWrongFalsely : Prop := fnExactLatestLevelsRow.holds Tryz.pinned (OpenSpec.ofChange fnExactLatestLevelsWrong)

/-- 'laws.FnExactLevelOrder': WHATEVER THE INPUT: true; the input reads as it did. -/
def fnExactLevelOrderSpec : ChangeSpec := { name := "fnExactLevelOrder", fn := fun _ => fun
  | [d] => { results := [.lit (.bool true)], args := [d] }
  | _ => none }
def fnExactLevelOrderRow : OpenClaim := { program := "ytbcjllanigmioaagreat", sum := "d59894d7ee7b3c63cbf8b009127833d8583cb0705761dedeffb49dbeba0da66f", func := "loop.example/loopnests/laws.FnExactLevelOrder", spec := "fnExactLevelOrder", inPlace := ["internal/bytealg.IndexByteString", "internal/bytealg.IndexString"], unfollowed := true, recurses := true, named := ["internal/bytealg.MaxLen"], loops := true, apart := false }
def FnExactLevelOrderSaid : Prop := fnExactLevelOrderRow.holds Tryz.pinned (OpenSpec.ofChange fnExactLevelOrderSpec)

/-- ITS FALSE NEIGHBOUR: 'it returns false'. Refute it at one input. -/
def fnExactLevelOrderWrong : ChangeSpec := { name := "fnExactLevelOrder", fn := fun _ => fun
  | [d] => { results := [.lit (.bool false)], args := [d] }
  | _ => none }
def FnExactLevelOrderWrongFalsely : Prop := fnExactLevelOrderRow.holds Tryz.pinned (OpenSpec.ofChange fnExactLevelOrderWrong)

/-- 'laws.FnExactConnectedParts': WHATEVER THE INPUT: true; the input reads as it did. -/
def fnExactConnectedPartsSpec : ChangeSpec := { name := "fnExactConnectedParts", fn := fun _ => fun
  | [d] => { results := [.lit (.bool true)], args := [d] }
  | _ => none }
def fnExactConnectedPartsRow : OpenClaim := { program := "ytbcjllanigmioaagreat", sum := "d59894d7ee7b3c63cbf8b009127833d8583cb0705761dedeffb49dbeba0da66f", func := "loop.example/loopnests/laws.FnExactConnectedParts", spec := "fnExactConnectedParts", inPlace := ["internal/bytealg.IndexByteString", "internal/bytealg.IndexString"], unfollowed := true, recurses := true, named := ["internal/bytealg.MaxLen"], loops := true, apart := false }
def FnExactConnectedPartsSaid : Prop := fnExactConnectedPartsRow.holds Tryz.pinned (OpenSpec.ofChange fnExactConnectedPartsSpec)

/-- ITS FALSE NEIGHBOUR: 'it returns false'. Refute it at one input. -/
def fnExactConnectedPartsWrong : ChangeSpec := { name := "fnExactConnectedParts", fn := fun _ => fun
  | [d] => { results := [.lit (.bool false)], args := [d] }
  | _ => none }
def FnExactConnectedPartsWrongFalsely : Prop := fnExactConnectedPartsRow.holds Tryz.pinned (OpenSpec.ofChange fnExactConnectedPartsWrong)

/-- 'laws.FnExactOrderBroken': WHATEVER THE INPUT: true; the input reads as it did. -/
def fnExactOrderBrokenSpec : ChangeSpec := { name := "fnExactOrderBroken", fn := fun _ => fun
  | [d1, d2] => { results := [.lit (.bool true)], args := [d1, d2] }
  | _ => none }
def fnExactOrderBrokenRow : OpenClaim := { program := "ytbcjllanigmioaagreat", sum := "d59894d7ee7b3c63cbf8b009127833d8583cb0705761dedeffb49dbeba0da66f", func := "loop.example/loopnests/laws.FnExactOrderBroken", spec := "fnExactOrderBroken", inPlace := ["internal/bytealg.IndexByteString", "internal/bytealg.IndexString"], unfollowed := true, recurses := true, named := ["internal/bytealg.MaxLen"], loops := true, apart := false }
def FnExactOrderBrokenSaid : Prop := fnExactOrderBrokenRow.holds Tryz.pinned (OpenSpec.ofChange fnExactOrderBrokenSpec)

/-- ITS FALSE NEIGHBOUR: 'it returns false'. Refute it at one input. -/
def fnExactOrderBrokenWrong : ChangeSpec := { name := "fnExactOrderBroken", fn := fun _ => fun
  | [d1, d2] => { results := [.lit (.bool false)], args := [d1, d2] }
  | _ => none }
def FnExactOrderBrokenWrongFalsely : Prop := fnExactOrderBrokenRow.holds Tryz.pinned (OpenSpec.ofChange fnExactOrderBrokenWrong)

/- THE SECOND FORM. 'bulk': how many values and letters a reading holds, each counted each time it is reached (what is shared counts as often as it is met; a slice's spare places count too). A statement '..UptoSaid' is the law's where the arguments, and the package variables that the reading takes, are together of bulk at most 1048576: NARROWER than '..Said'. Prove '..Said' where nothing that the law and all that it calls make is longer than what came in: it says more and counts as full. Else prove '..UptoSaid'. A law counts once. -/
mutual
def uptoBulk {H : Type} : DataW H → Nat
  | .lit (.string bytes) => bytes.length + 1
  | .lit _ => 1
  | .nil => 1
  | .ptr d => uptoBulk d + 1
  | .slice elems spare => uptoBulkAll elems + uptoBulkAll spare + 1
  | .agg parts => uptoBulkAll parts + 1
  | .iface _ d => uptoBulk d + 1
  | .map entries => uptoBulkEntries entries + 1
  | .held _ => 1
def uptoBulkAll {H : Type} : List (DataW H) → Nat
  | [] => 0
  | d :: r => uptoBulk d + uptoBulkAll r
def uptoBulkEntries {H : Type} : List (Lit × DataW H) → Nat
  | [] => 0
  | x :: r => uptoBulkEntry x + uptoBulkEntries r
def uptoBulkEntry {H : Type} : Lit × DataW H → Nat
  | (.string bytes, d) => bytes.length + uptoBulk d + 1
  | (_, d) => uptoBulk d + 1
 end
def uptoSmall : (H : Type) → List (DataW H) → Bool := fun _ ds => decide (uptoBulkAll ds ≤ 1048576)
def OpenSpec.upto (s : _root_.Go.ChangeSpec) : _root_.Go.OpenSpec := { _root_.Go.OpenSpec.ofChange s with cond := some uptoSmall }

/-- 'laws.FnExactInputCells', WHERE WHAT IT READS IS OF BULK AT MOST 1048576: true; the input reads as it did. -/
def fnExactInputCellsUptoRow : OpenClaim := { program := "ytbcjllanigmioaagreat", sum := "d59894d7ee7b3c63cbf8b009127833d8583cb0705761dedeffb49dbeba0da66f", func := "loop.example/loopnests/laws.FnExactInputCells", spec := "fnExactInputCells", inPlace := ["internal/bytealg.IndexByteString", "internal/bytealg.IndexString"], unfollowed := true, recurses := true, named := ["internal/bytealg.MaxLen"], loops := true, apart := false, narrowed := true }
def FnExactInputCellsUptoSaid : Prop := fnExactInputCellsUptoRow.holds Tryz.pinned (OpenSpec.upto fnExactInputCellsSpec)

/-- 'laws.FnExactDeadInstances', WHERE WHAT IT READS IS OF BULK AT MOST 1048576: true; the input reads as it did. -/
def fnExactDeadInstancesUptoRow : OpenClaim := { program := "ytbcjllanigmioaagreat", sum := "d59894d7ee7b3c63cbf8b009127833d8583cb0705761dedeffb49dbeba0da66f", func := "loop.example/loopnests/laws.FnExactDeadInstances", spec := "fnExactDeadInstances", inPlace := ["internal/bytealg.IndexByteString", "internal/bytealg.IndexString"], unfollowed := true, recurses := true, named := ["internal/bytealg.MaxLen"], loops := true, apart := false, narrowed := true }
def FnExactDeadInstancesUptoSaid : Prop := fnExactDeadInstancesUptoRow.holds Tryz.pinned (OpenSpec.upto fnExactDeadInstancesSpec)

/-- 'laws.FnExactLiveInstances', WHERE WHAT IT READS IS OF BULK AT MOST 1048576: true; the input reads as it did. -/
def fnExactLiveInstancesUptoRow : OpenClaim := { program := "ytbcjllanigmioaagreat", sum := "d59894d7ee7b3c63cbf8b009127833d8583cb0705761dedeffb49dbeba0da66f", func := "loop.example/loopnests/laws.FnExactLiveInstances", spec := "fnExactLiveInstances", inPlace := ["internal/bytealg.IndexByteString", "internal/bytealg.IndexString"], unfollowed := true, recurses := true, named := ["internal/bytealg.MaxLen"], loops := true, apart := false, narrowed := true }
def FnExactLiveInstancesUptoSaid : Prop := fnExactLiveInstancesUptoRow.holds Tryz.pinned (OpenSpec.upto fnExactLiveInstancesSpec)

/-- 'laws.FnExactFlowSources', WHERE WHAT IT READS IS OF BULK AT MOST 1048576: true; the input reads as it did. -/
def fnExactFlowSourcesUptoRow : OpenClaim := { program := "ytbcjllanigmioaagreat", sum := "d59894d7ee7b3c63cbf8b009127833d8583cb0705761dedeffb49dbeba0da66f", func := "loop.example/loopnests/laws.FnExactFlowSources", spec := "fnExactFlowSources", inPlace := ["internal/bytealg.IndexByteString", "internal/bytealg.IndexString"], unfollowed := true, recurses := true, named := ["internal/bytealg.MaxLen"], loops := true, apart := false, narrowed := true }
def FnExactFlowSourcesUptoSaid : Prop := fnExactFlowSourcesUptoRow.holds Tryz.pinned (OpenSpec.upto fnExactFlowSourcesSpec)

/-- 'laws.FnExactDependences', WHERE WHAT IT READS IS OF BULK AT MOST 1048576: true; the input reads as it did. -/
def fnExactDependencesUptoRow : OpenClaim := { program := "ytbcjllanigmioaagreat", sum := "d59894d7ee7b3c63cbf8b009127833d8583cb0705761dedeffb49dbeba0da66f", func := "loop.example/loopnests/laws.FnExactDependences", spec := "fnExactDependences", inPlace := ["internal/bytealg.IndexByteString", "internal/bytealg.IndexString"], unfollowed := true, recurses := true, named := ["internal/bytealg.MaxLen"], loops := true, apart := false, narrowed := true }
def FnExactDependencesUptoSaid : Prop := fnExactDependencesUptoRow.holds Tryz.pinned (OpenSpec.upto fnExactDependencesSpec)

/-- 'laws.FnExactOrderLegal', WHERE WHAT IT READS IS OF BULK AT MOST 1048576: true; the input reads as it did. -/
def fnExactOrderLegalUptoRow : OpenClaim := { program := "ytbcjllanigmioaagreat", sum := "d59894d7ee7b3c63cbf8b009127833d8583cb0705761dedeffb49dbeba0da66f", func := "loop.example/loopnests/laws.FnExactOrderLegal", spec := "fnExactOrderLegal", inPlace := ["internal/bytealg.IndexByteString", "internal/bytealg.IndexString"], unfollowed := true, recurses := true, named := ["internal/bytealg.MaxLen"], loops := true, apart := false, narrowed := true }
def FnExactOrderLegalUptoSaid : Prop := fnExactOrderLegalUptoRow.holds Tryz.pinned (OpenSpec.upto fnExactOrderLegalSpec)

/-- 'laws.FnExactLevelsOf', WHERE WHAT IT READS IS OF BULK AT MOST 1048576: true; the input reads as it did. -/
def fnExactLevelsOfUptoRow : OpenClaim := { program := "ytbcjllanigmioaagreat", sum := "d59894d7ee7b3c63cbf8b009127833d8583cb0705761dedeffb49dbeba0da66f", func := "loop.example/loopnests/laws.FnExactLevelsOf", spec := "fnExactLevelsOf", inPlace := ["internal/bytealg.IndexByteString", "internal/bytealg.IndexString"], unfollowed := true, recurses := true, named := ["internal/bytealg.MaxLen"], loops := true, apart := false, narrowed := true }
def FnExactLevelsOfUptoSaid : Prop := fnExactLevelsOfUptoRow.holds Tryz.pinned (OpenSpec.upto fnExactLevelsOfSpec)

/-- 'laws.FnExactCriticalLength', WHERE WHAT IT READS IS OF BULK AT MOST 1048576: true; the input reads as it did. -/
def fnExactCriticalLengthUptoRow : OpenClaim := { program := "ytbcjllanigmioaagreat", sum := "d59894d7ee7b3c63cbf8b009127833d8583cb0705761dedeffb49dbeba0da66f", func := "loop.example/loopnests/laws.FnExactCriticalLength", spec := "fnExactCriticalLength", inPlace := ["internal/bytealg.IndexByteString", "internal/bytealg.IndexString"], unfollowed := true, recurses := true, named := ["internal/bytealg.MaxLen"], loops := true, apart := false, narrowed := true }
def FnExactCriticalLengthUptoSaid : Prop := fnExactCriticalLengthUptoRow.holds Tryz.pinned (OpenSpec.upto fnExactCriticalLengthSpec)

/-- 'laws.FnExactLatestLevels', WHERE WHAT IT READS IS OF BULK AT MOST 1048576: true; the input reads as it did. -/
def fnExactLatestLevelsUptoRow : OpenClaim := { program := "ytbcjllanigmioaagreat", sum := "d59894d7ee7b3c63cbf8b009127833d8583cb0705761dedeffb49dbeba0da66f", func := "loop.example/loopnests/laws.FnExactLatestLevels", spec := "fnExactLatestLevels", inPlace := ["internal/bytealg.IndexByteString", "internal/bytealg.IndexString"], unfollowed := true, recurses := true, named := ["internal/bytealg.MaxLen"], loops := true, apart := false, narrowed := true }
def FnExactLatestLevelsUptoSaid : Prop := fnExactLatestLevelsUptoRow.holds Tryz.pinned (OpenSpec.upto fnExactLatestLevelsSpec)

/-- 'laws.FnExactLevelOrder', WHERE WHAT IT READS IS OF BULK AT MOST 1048576: true; the input reads as it did. -/
def fnExactLevelOrderUptoRow : OpenClaim := { program := "ytbcjllanigmioaagreat", sum := "d59894d7ee7b3c63cbf8b009127833d8583cb0705761dedeffb49dbeba0da66f", func := "loop.example/loopnests/laws.FnExactLevelOrder", spec := "fnExactLevelOrder", inPlace := ["internal/bytealg.IndexByteString", "internal/bytealg.IndexString"], unfollowed := true, recurses := true, named := ["internal/bytealg.MaxLen"], loops := true, apart := false, narrowed := true }
def FnExactLevelOrderUptoSaid : Prop := fnExactLevelOrderUptoRow.holds Tryz.pinned (OpenSpec.upto fnExactLevelOrderSpec)

/-- 'laws.FnExactConnectedParts', WHERE WHAT IT READS IS OF BULK AT MOST 1048576: true; the input reads as it did. -/
def fnExactConnectedPartsUptoRow : OpenClaim := { program := "ytbcjllanigmioaagreat", sum := "d59894d7ee7b3c63cbf8b009127833d8583cb0705761dedeffb49dbeba0da66f", func := "loop.example/loopnests/laws.FnExactConnectedParts", spec := "fnExactConnectedParts", inPlace := ["internal/bytealg.IndexByteString", "internal/bytealg.IndexString"], unfollowed := true, recurses := true, named := ["internal/bytealg.MaxLen"], loops := true, apart := false, narrowed := true }
def FnExactConnectedPartsUptoSaid : Prop := fnExactConnectedPartsUptoRow.holds Tryz.pinned (OpenSpec.upto fnExactConnectedPartsSpec)

/-- 'laws.FnExactOrderBroken', WHERE WHAT IT READS IS OF BULK AT MOST 1048576: true; the input reads as it did. -/
def fnExactOrderBrokenUptoRow : OpenClaim := { program := "ytbcjllanigmioaagreat", sum := "d59894d7ee7b3c63cbf8b009127833d8583cb0705761dedeffb49dbeba0da66f", func := "loop.example/loopnests/laws.FnExactOrderBroken", spec := "fnExactOrderBroken", inPlace := ["internal/bytealg.IndexByteString", "internal/bytealg.IndexString"], unfollowed := true, recurses := true, named := ["internal/bytealg.MaxLen"], loops := true, apart := false, narrowed := true }
def FnExactOrderBrokenUptoSaid : Prop := fnExactOrderBrokenUptoRow.holds Tryz.pinned (OpenSpec.upto fnExactOrderBrokenSpec)

end Rows
end Go.Proofs.YtbcjllanigmioaaGreat
