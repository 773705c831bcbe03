/-
  NARROWER THAN 'FOR EVERY INPUT', by the rows' own cells (each row's printed sentence says how): FnExactProgramInstances: loops · FnExactRunOrder: loops · FnExactDistances: loops · FnExactGreedyOrder: loops · FnExactCarriedLevels: loops · FnExactLoopParallel: loops · FnExactParallelLoops: loops · FnExactParallelOrder: loops · FnExactWaveOrder: loops.
  DERIVED. THE GIVEN ROWS OF THIS SEAT. 9 by the template 'for every input the law returns true; each argument reads behind the call as it read before'; 0 by the template 'total and deterministic' (their statements: YtklehkkclojccaaGreatTotals.lean).
  GIVEN WITH THE SEED: the statements are not yours to turn. If you find one false, say at which input.
  Laid BY PROGRAM, IN A SANDBOX (cutbox-rows.mjs): the forced cells as the released guide's own fill.sh prints them over the translation ba5b2b8fb08d7a5d… (all of the seat's roots in one cut). By AI agents, Wed Nov 11 2026. No macro, syntax, notation, axiom, sorry.
-/
import Derived.Test.YtklehkkclojccaaGreatChecked
import GoSem.Claim
import GoSem.ClaimJoined
import GoSem.ClaimMapViews
import Derived.JoinedTies
import Derived.KernelRfl
namespace Go.Proofs.YtklehkkclojccaaGreat
/- THE CELL 'sum', in the pinned program and in every row, IS THE sha256 OF THE DUMP (.gsa) THAT YtklehkkclojccaaGreatProg.lean LOADS. Nothing in Lean hashes anything: it is a label: what it is worth is what the hold of that sum in a sandbox is worth. -/
noncomputable def Tryz.pinned : Pinned := { name := "ytklehkkclojccaagreat", sum := "ba5b2b8fb08d7a5db23d34b69c9c013ddc3492d023bdc84634b014a93a2e1d75", checked := Tryz.checked }
namespace Rows
def none {H : Type} : Left H := { results := [], args := [] }

/-- 'laws.FnExactProgramInstances': WHATEVER THE INPUT: true; the input reads as it did. -/
def fnExactProgramInstancesSpec : ChangeSpec := { name := "fnExactProgramInstances", fn := fun _ => fun
  | [d] => { results := [.lit (.bool true)], args := [d] }
  | _ => none }
def fnExactProgramInstancesRow : OpenClaim := { program := "ytklehkkclojccaagreat", sum := "ba5b2b8fb08d7a5db23d34b69c9c013ddc3492d023bdc84634b014a93a2e1d75", func := "loop.example/loopnests/laws.FnExactProgramInstances", spec := "fnExactProgramInstances", inPlace := ["internal/bytealg.IndexByteString", "internal/bytealg.IndexString"], unfollowed := true, recurses := true, named := ["internal/bytealg.MaxLen"], loops := true, leaving := true, apart := false }
def FnExactProgramInstancesSaid : Prop := fnExactProgramInstancesRow.holds Tryz.pinned (OpenSpec.ofChange fnExactProgramInstancesSpec)

/-- ITS FALSE NEIGHBOUR: 'it returns false'. Refute it at one input. -/
def fnExactProgramInstancesWrong : ChangeSpec := { name := "fnExactProgramInstances", fn := fun _ => fun
  | [d] => { results := [.lit (.bool false)], args := [d] }
  | _ => none }
def FnExactProgramInstancesWrongFalsely : Prop := fnExactProgramInstancesRow.holds Tryz.pinned (OpenSpec.ofChange fnExactProgramInstancesWrong)

/-- 'laws.FnExactRunOrder': WHATEVER THE INPUT: true; the input reads as it did. -/
def fnExactRunOrderSpec : ChangeSpec := { name := "fnExactRunOrder", fn := fun _ => fun
  | [d1, d2, d3] => { results := [.lit (.bool true)], args := [d1, d2, d3] }
  | _ => none }
def fnExactRunOrderRow : OpenClaim := { program := "ytklehkkclojccaagreat", sum := "ba5b2b8fb08d7a5db23d34b69c9c013ddc3492d023bdc84634b014a93a2e1d75", func := "loop.example/loopnests/laws.FnExactRunOrder", spec := "fnExactRunOrder", inPlace := ["internal/bytealg.IndexByteString", "internal/bytealg.IndexString"], unfollowed := true, recurses := true, named := ["internal/bytealg.MaxLen"], loops := true, leaving := true, apart := false }
def FnExactRunOrderSaid : Prop := fnExactRunOrderRow.holds Tryz.pinned (OpenSpec.ofChange fnExactRunOrderSpec)

/-- ITS FALSE NEIGHBOUR: 'it returns false'. Refute it at one input. -/
def fnExactRunOrderWrong : ChangeSpec := { name := "fnExactRunOrder", fn := fun _ => fun
  | [d1, d2, d3] => { results := [.lit (.bool false)], args := [d1, d2, d3] }
  | _ => none }
def FnExactRunOrderWrongFalsely : Prop := fnExactRunOrderRow.holds Tryz.pinned (OpenSpec.ofChange fnExactRunOrderWrong)

/-- 'laws.FnExactDistances': WHATEVER THE INPUT: true; the input reads as it did. -/
def fnExactDistancesSpec : ChangeSpec := { name := "fnExactDistances", fn := fun _ => fun
  | [d1, d2] => { results := [.lit (.bool true)], args := [d1, d2] }
  | _ => none }
def fnExactDistancesRow : OpenClaim := { program := "ytklehkkclojccaagreat", sum := "ba5b2b8fb08d7a5db23d34b69c9c013ddc3492d023bdc84634b014a93a2e1d75", func := "loop.example/loopnests/laws.FnExactDistances", spec := "fnExactDistances", inPlace := ["internal/bytealg.IndexByteString", "internal/bytealg.IndexString"], unfollowed := true, recurses := true, named := ["internal/bytealg.MaxLen"], loops := true, leaving := true, apart := false }
def FnExactDistancesSaid : Prop := fnExactDistancesRow.holds Tryz.pinned (OpenSpec.ofChange fnExactDistancesSpec)

/-- ITS FALSE NEIGHBOUR: 'it returns false'. Refute it at one input. -/
def fnExactDistancesWrong : ChangeSpec := { name := "fnExactDistances", fn := fun _ => fun
  | [d1, d2] => { results := [.lit (.bool false)], args := [d1, d2] }
  | _ => none }
def FnExactDistancesWrongFalsely : Prop := fnExactDistancesRow.holds Tryz.pinned (OpenSpec.ofChange fnExactDistancesWrong)

/-- 'laws.FnExactGreedyOrder': WHATEVER THE INPUT: true; the input reads as it did. -/
def fnExactGreedyOrderSpec : ChangeSpec := { name := "fnExactGreedyOrder", fn := fun _ => fun
  | [d1, d2] => { results := [.lit (.bool true)], args := [d1, d2] }
  | _ => none }
def fnExactGreedyOrderRow : OpenClaim := { program := "ytklehkkclojccaagreat", sum := "ba5b2b8fb08d7a5db23d34b69c9c013ddc3492d023bdc84634b014a93a2e1d75", func := "loop.example/loopnests/laws.FnExactGreedyOrder", spec := "fnExactGreedyOrder", inPlace := ["internal/bytealg.IndexByteString", "internal/bytealg.IndexString"], unfollowed := true, recurses := true, named := ["internal/bytealg.MaxLen"], loops := true, leaving := true, apart := false }
def FnExactGreedyOrderSaid : Prop := fnExactGreedyOrderRow.holds Tryz.pinned (OpenSpec.ofChange fnExactGreedyOrderSpec)

/-- ITS FALSE NEIGHBOUR: 'it returns false'. Refute it at one input. -/
def fnExactGreedyOrderWrong : ChangeSpec := { name := "fnExactGreedyOrder", fn := fun _ => fun
  | [d1, d2] => { results := [.lit (.bool false)], args := [d1, d2] }
  | _ => none }
def FnExactGreedyOrderWrongFalsely : Prop := fnExactGreedyOrderRow.holds Tryz.pinned (OpenSpec.ofChange fnExactGreedyOrderWrong)

/-- 'laws.FnExactCarriedLevels': WHATEVER THE INPUT: true; the input reads as it did. -/
def fnExactCarriedLevelsSpec : ChangeSpec := { name := "fnExactCarriedLevels", fn := fun _ => fun
  | [d1, d2] => { results := [.lit (.bool true)], args := [d1, d2] }
  | _ => none }
def fnExactCarriedLevelsRow : OpenClaim := { program := "ytklehkkclojccaagreat", sum := "ba5b2b8fb08d7a5db23d34b69c9c013ddc3492d023bdc84634b014a93a2e1d75", func := "loop.example/loopnests/laws.FnExactCarriedLevels", spec := "fnExactCarriedLevels", inPlace := ["internal/bytealg.IndexByteString", "internal/bytealg.IndexString"], unfollowed := true, recurses := true, named := ["internal/bytealg.MaxLen"], loops := true, leaving := true, apart := false }
def FnExactCarriedLevelsSaid : Prop := fnExactCarriedLevelsRow.holds Tryz.pinned (OpenSpec.ofChange fnExactCarriedLevelsSpec)

/-- ITS FALSE NEIGHBOUR: 'it returns false'. Refute it at one input. -/
def fnExactCarriedLevelsWrong : ChangeSpec := { name := "fnExactCarriedLevels", fn := fun _ => fun
  | [d1, d2] => { results := [.lit (.bool false)], args := [d1, d2] }
  | _ => none }
def FnExactCarriedLevelsWrongFalsely : Prop := fnExactCarriedLevelsRow.holds Tryz.pinned (OpenSpec.ofChange fnExactCarriedLevelsWrong)

/-- 'laws.FnExactLoopParallel': WHATEVER THE INPUT: true; the input reads as it did. -/
def fnExactLoopParallelSpec : ChangeSpec := { name := "fnExactLoopParallel", fn := fun _ => fun
  | [d1, d2, d3] => { results := [.lit (.bool true)], args := [d1, d2, d3] }
  | _ => none }
def fnExactLoopParallelRow : OpenClaim := { program := "ytklehkkclojccaagreat", sum := "ba5b2b8fb08d7a5db23d34b69c9c013ddc3492d023bdc84634b014a93a2e1d75", func := "loop.example/loopnests/laws.FnExactLoopParallel", spec := "fnExactLoopParallel", inPlace := ["internal/bytealg.IndexByteString", "internal/bytealg.IndexString"], unfollowed := true, recurses := true, named := ["internal/bytealg.MaxLen"], loops := true, leaving := true, apart := false }
def FnExactLoopParallelSaid : Prop := fnExactLoopParallelRow.holds Tryz.pinned (OpenSpec.ofChange fnExactLoopParallelSpec)

/-- ITS FALSE NEIGHBOUR: 'it returns false'. Refute it at one input. -/
def fnExactLoopParallelWrong : ChangeSpec := { name := "fnExactLoopParallel", fn := fun _ => fun
  | [d1, d2, d3] => { results := [.lit (.bool false)], args := [d1, d2, d3] }
  | _ => none }
def FnExactLoopParallelWrongFalsely : Prop := fnExactLoopParallelRow.holds Tryz.pinned (OpenSpec.ofChange fnExactLoopParallelWrong)

/-- 'laws.FnExactParallelLoops': WHATEVER THE INPUT: true; the input reads as it did. -/
def fnExactParallelLoopsSpec : ChangeSpec := { name := "fnExactParallelLoops", fn := fun _ => fun
  | [d1, d2] => { results := [.lit (.bool true)], args := [d1, d2] }
  | _ => none }
def fnExactParallelLoopsRow : OpenClaim := { program := "ytklehkkclojccaagreat", sum := "ba5b2b8fb08d7a5db23d34b69c9c013ddc3492d023bdc84634b014a93a2e1d75", func := "loop.example/loopnests/laws.FnExactParallelLoops", spec := "fnExactParallelLoops", inPlace := ["internal/bytealg.IndexByteString", "internal/bytealg.IndexString"], unfollowed := true, recurses := true, named := ["internal/bytealg.MaxLen"], loops := true, leaving := true, apart := false }
def FnExactParallelLoopsSaid : Prop := fnExactParallelLoopsRow.holds Tryz.pinned (OpenSpec.ofChange fnExactParallelLoopsSpec)

/-- ITS FALSE NEIGHBOUR: 'it returns false'. Refute it at one input. -/
def fnExactParallelLoopsWrong : ChangeSpec := { name := "fnExactParallelLoops", fn := fun _ => fun
  | [d1, d2] => { results := [.lit (.bool false)], args := [d1, d2] }
  | _ => none }
def FnExactParallelLoopsWrongFalsely : Prop := fnExactParallelLoopsRow.holds Tryz.pinned (OpenSpec.ofChange fnExactParallelLoopsWrong)

/-- 'laws.FnExactParallelOrder': WHATEVER THE INPUT: true; the input reads as it did. -/
def fnExactParallelOrderSpec : ChangeSpec := { name := "fnExactParallelOrder", fn := fun _ => fun
  | [d1, d2, d3, d4] => { results := [.lit (.bool true)], args := [d1, d2, d3, d4] }
  | _ => none }
def fnExactParallelOrderRow : OpenClaim := { program := "ytklehkkclojccaagreat", sum := "ba5b2b8fb08d7a5db23d34b69c9c013ddc3492d023bdc84634b014a93a2e1d75", func := "loop.example/loopnests/laws.FnExactParallelOrder", spec := "fnExactParallelOrder", inPlace := ["internal/bytealg.IndexByteString", "internal/bytealg.IndexString", "(*sync.WaitGroup).Add", "internal/race.ReleaseMerge", "internal/race.Disable", "internal/race.Enable", "internal/synctest.IsInBubble", "internal/synctest.Associate[sync.WaitGroup]", "sync.fatal", "sync/atomic.OrUint64", "sync/atomic.AddUint64", "internal/race.Read", "sync/atomic.LoadUint64", "sync/atomic.StoreUint64", "internal/synctest.Disassociate[sync.WaitGroup]", "sync.runtime_Semrelease", "(*sync.WaitGroup).Done", "(*sync.WaitGroup).Wait", "internal/race.Acquire", "internal/synctest.IsAssociated[sync.WaitGroup]", "sync/atomic.CompareAndSwapUint64", "internal/race.Write", "sync.runtime_SemacquireWaitGroup"], unfollowed := true, recurses := true, named := ["internal/bytealg.MaxLen"], loops := true, leaving := true, apart := false }
def FnExactParallelOrderSaid : Prop := fnExactParallelOrderRow.holds Tryz.pinned (OpenSpec.ofChange fnExactParallelOrderSpec)

/-- ITS FALSE NEIGHBOUR: 'it returns false'. Refute it at one input. -/
def fnExactParallelOrderWrong : ChangeSpec := { name := "fnExactParallelOrder", fn := fun _ => fun
  | [d1, d2, d3, d4] => { results := [.lit (.bool false)], args := [d1, d2, d3, d4] }
  | _ => none }
def FnExactParallelOrderWrongFalsely : Prop := fnExactParallelOrderRow.holds Tryz.pinned (OpenSpec.ofChange fnExactParallelOrderWrong)

/-- 'laws.FnExactWaveOrder': WHATEVER THE INPUT: true; the input reads as it did. -/
def fnExactWaveOrderSpec : ChangeSpec := { name := "fnExactWaveOrder", fn := fun _ => fun
  | [d1, d2, d3] => { results := [.lit (.bool true)], args := [d1, d2, d3] }
  | _ => none }
def fnExactWaveOrderRow : OpenClaim := { program := "ytklehkkclojccaagreat", sum := "ba5b2b8fb08d7a5db23d34b69c9c013ddc3492d023bdc84634b014a93a2e1d75", func := "loop.example/loopnests/laws.FnExactWaveOrder", spec := "fnExactWaveOrder", inPlace := ["internal/bytealg.IndexByteString", "internal/bytealg.IndexString", "(*sync.WaitGroup).Add", "internal/race.ReleaseMerge", "internal/race.Disable", "internal/race.Enable", "internal/synctest.IsInBubble", "internal/synctest.Associate[sync.WaitGroup]", "sync.fatal", "sync/atomic.OrUint64", "sync/atomic.AddUint64", "internal/race.Read", "sync/atomic.LoadUint64", "sync/atomic.StoreUint64", "internal/synctest.Disassociate[sync.WaitGroup]", "sync.runtime_Semrelease", "(*sync.WaitGroup).Done", "(*sync.WaitGroup).Wait", "internal/race.Acquire", "internal/synctest.IsAssociated[sync.WaitGroup]", "sync/atomic.CompareAndSwapUint64", "internal/race.Write", "sync.runtime_SemacquireWaitGroup"], unfollowed := true, recurses := true, named := ["internal/bytealg.MaxLen"], loops := true, leaving := true, apart := false }
def FnExactWaveOrderSaid : Prop := fnExactWaveOrderRow.holds Tryz.pinned (OpenSpec.ofChange fnExactWaveOrderSpec)

/-- ITS FALSE NEIGHBOUR: 'it returns false'. Refute it at one input. -/
def fnExactWaveOrderWrong : ChangeSpec := { name := "fnExactWaveOrder", fn := fun _ => fun
  | [d1, d2, d3] => { results := [.lit (.bool false)], args := [d1, d2, d3] }
  | _ => none }
def FnExactWaveOrderWrongFalsely : Prop := fnExactWaveOrderRow.holds Tryz.pinned (OpenSpec.ofChange fnExactWaveOrderWrong)

/- THE SECOND FORM. 'bulk': how many values and letters a reading holds, each counted each time it is reached (what is shared counts as often as it is met; a slice's spare places count too). A statement '..UptoSaid' is the law's where the arguments, and the package variables that the reading takes, are together of bulk at most 1048576: NARROWER than '..Said'. Prove '..Said' where nothing that the law and all that it calls make is longer than what came in: it says more and counts as full. Else prove '..UptoSaid'. A law counts once. -/
mutual
def uptoBulk {H : Type} : DataW H → Nat
  | .lit (.string bytes) => bytes.length + 1
  | .lit _ => 1
  | .nil => 1
  | .ptr d => uptoBulk d + 1
  | .slice elems spare => uptoBulkAll elems + uptoBulkAll spare + 1
  | .agg parts => uptoBulkAll parts + 1
  | .iface _ d => uptoBulk d + 1
  | .map entries => uptoBulkEntries entries + 1
  | .held _ => 1
def uptoBulkAll {H : Type} : List (DataW H) → Nat
  | [] => 0
  | d :: r => uptoBulk d + uptoBulkAll r
def uptoBulkEntries {H : Type} : List (Lit × DataW H) → Nat
  | [] => 0
  | x :: r => uptoBulkEntry x + uptoBulkEntries r
def uptoBulkEntry {H : Type} : Lit × DataW H → Nat
  | (.string bytes, d) => bytes.length + uptoBulk d + 1
  | (_, d) => uptoBulk d + 1
 end
def uptoSmall : (H : Type) → List (DataW H) → Bool := fun _ ds => decide (uptoBulkAll ds ≤ 1048576)
def OpenSpec.upto (s : _root_.Go.ChangeSpec) : _root_.Go.OpenSpec := { _root_.Go.OpenSpec.ofChange s with cond := some uptoSmall }

/-- 'laws.FnExactProgramInstances', WHERE WHAT IT READS IS OF BULK AT MOST 1048576: true; the input reads as it did. -/
def fnExactProgramInstancesUptoRow : OpenClaim := { program := "ytklehkkclojccaagreat", sum := "ba5b2b8fb08d7a5db23d34b69c9c013ddc3492d023bdc84634b014a93a2e1d75", func := "loop.example/loopnests/laws.FnExactProgramInstances", spec := "fnExactProgramInstances", inPlace := ["internal/bytealg.IndexByteString", "internal/bytealg.IndexString"], unfollowed := true, recurses := true, named := ["internal/bytealg.MaxLen"], loops := true, leaving := true, apart := false, narrowed := true }
def FnExactProgramInstancesUptoSaid : Prop := fnExactProgramInstancesUptoRow.holds Tryz.pinned (OpenSpec.upto fnExactProgramInstancesSpec)

/-- 'laws.FnExactRunOrder', WHERE WHAT IT READS IS OF BULK AT MOST 1048576: true; the input reads as it did. -/
def fnExactRunOrderUptoRow : OpenClaim := { program := "ytklehkkclojccaagreat", sum := "ba5b2b8fb08d7a5db23d34b69c9c013ddc3492d023bdc84634b014a93a2e1d75", func := "loop.example/loopnests/laws.FnExactRunOrder", spec := "fnExactRunOrder", inPlace := ["internal/bytealg.IndexByteString", "internal/bytealg.IndexString"], unfollowed := true, recurses := true, named := ["internal/bytealg.MaxLen"], loops := true, leaving := true, apart := false, narrowed := true }
def FnExactRunOrderUptoSaid : Prop := fnExactRunOrderUptoRow.holds Tryz.pinned (OpenSpec.upto fnExactRunOrderSpec)

/-- 'laws.FnExactDistances', WHERE WHAT IT READS IS OF BULK AT MOST 1048576: true; the input reads as it did. -/
def fnExactDistancesUptoRow : OpenClaim := { program := "ytklehkkclojccaagreat", sum := "ba5b2b8fb08d7a5db23d34b69c9c013ddc3492d023bdc84634b014a93a2e1d75", func := "loop.example/loopnests/laws.FnExactDistances", spec := "fnExactDistances", inPlace := ["internal/bytealg.IndexByteString", "internal/bytealg.IndexString"], unfollowed := true, recurses := true, named := ["internal/bytealg.MaxLen"], loops := true, leaving := true, apart := false, narrowed := true }
def FnExactDistancesUptoSaid : Prop := fnExactDistancesUptoRow.holds Tryz.pinned (OpenSpec.upto fnExactDistancesSpec)

/-- 'laws.FnExactGreedyOrder', WHERE WHAT IT READS IS OF BULK AT MOST 1048576: true; the input reads as it did. -/
def fnExactGreedyOrderUptoRow : OpenClaim := { program := "ytklehkkclojccaagreat", sum := "ba5b2b8fb08d7a5db23d34b69c9c013ddc3492d023bdc84634b014a93a2e1d75", func := "loop.example/loopnests/laws.FnExactGreedyOrder", spec := "fnExactGreedyOrder", inPlace := ["internal/bytealg.IndexByteString", "internal/bytealg.IndexString"], unfollowed := true, recurses := true, named := ["internal/bytealg.MaxLen"], loops := true, leaving := true, apart := false, narrowed := true }
def FnExactGreedyOrderUptoSaid : Prop := fnExactGreedyOrderUptoRow.holds Tryz.pinned (OpenSpec.upto fnExactGreedyOrderSpec)

/-- 'laws.FnExactCarriedLevels', WHERE WHAT IT READS IS OF BULK AT MOST 1048576: true; the input reads as it did. -/
def fnExactCarriedLevelsUptoRow : OpenClaim := { program := "ytklehkkclojccaagreat", sum := "ba5b2b8fb08d7a5db23d34b69c9c013ddc3492d023bdc84634b014a93a2e1d75", func := "loop.example/loopnests/laws.FnExactCarriedLevels", spec := "fnExactCarriedLevels", inPlace := ["internal/bytealg.IndexByteString", "internal/bytealg.IndexString"], unfollowed := true, recurses := true, named := ["internal/bytealg.MaxLen"], loops := true, leaving := true, apart := false, narrowed := true }
def FnExactCarriedLevelsUptoSaid : Prop := fnExactCarriedLevelsUptoRow.holds Tryz.pinned (OpenSpec.upto fnExactCarriedLevelsSpec)

/-- 'laws.FnExactLoopParallel', WHERE WHAT IT READS IS OF BULK AT MOST 1048576: true; the input reads as it did. -/
def fnExactLoopParallelUptoRow : OpenClaim := { program := "ytklehkkclojccaagreat", sum := "ba5b2b8fb08d7a5db23d34b69c9c013ddc3492d023bdc84634b014a93a2e1d75", func := "loop.example/loopnests/laws.FnExactLoopParallel", spec := "fnExactLoopParallel", inPlace := ["internal/bytealg.IndexByteString", "internal/bytealg.IndexString"], unfollowed := true, recurses := true, named := ["internal/bytealg.MaxLen"], loops := true, leaving := true, apart := false, narrowed := true }
def FnExactLoopParallelUptoSaid : Prop := fnExactLoopParallelUptoRow.holds Tryz.pinned (OpenSpec.upto fnExactLoopParallelSpec)

/-- 'laws.FnExactParallelLoops', WHERE WHAT IT READS IS OF BULK AT MOST 1048576: true; the input reads as it did. -/
def fnExactParallelLoopsUptoRow : OpenClaim := { program := "ytklehkkclojccaagreat", sum := "ba5b2b8fb08d7a5db23d34b69c9c013ddc3492d023bdc84634b014a93a2e1d75", func := "loop.example/loopnests/laws.FnExactParallelLoops", spec := "fnExactParallelLoops", inPlace := ["internal/bytealg.IndexByteString", "internal/bytealg.IndexString"], unfollowed := true, recurses := true, named := ["internal/bytealg.MaxLen"], loops := true, leaving := true, apart := false, narrowed := true }
def FnExactParallelLoopsUptoSaid : Prop := fnExactParallelLoopsUptoRow.holds Tryz.pinned (OpenSpec.upto fnExactParallelLoopsSpec)

/-- 'laws.FnExactParallelOrder', WHERE WHAT IT READS IS OF BULK AT MOST 1048576: true; the input reads as it did. -/
def fnExactParallelOrderUptoRow : OpenClaim := { program := "ytklehkkclojccaagreat", sum := "ba5b2b8fb08d7a5db23d34b69c9c013ddc3492d023bdc84634b014a93a2e1d75", func := "loop.example/loopnests/laws.FnExactParallelOrder", spec := "fnExactParallelOrder", inPlace := ["internal/bytealg.IndexByteString", "internal/bytealg.IndexString", "(*sync.WaitGroup).Add", "internal/race.ReleaseMerge", "internal/race.Disable", "internal/race.Enable", "internal/synctest.IsInBubble", "internal/synctest.Associate[sync.WaitGroup]", "sync.fatal", "sync/atomic.OrUint64", "sync/atomic.AddUint64", "internal/race.Read", "sync/atomic.LoadUint64", "sync/atomic.StoreUint64", "internal/synctest.Disassociate[sync.WaitGroup]", "sync.runtime_Semrelease", "(*sync.WaitGroup).Done", "(*sync.WaitGroup).Wait", "internal/race.Acquire", "internal/synctest.IsAssociated[sync.WaitGroup]", "sync/atomic.CompareAndSwapUint64", "internal/race.Write", "sync.runtime_SemacquireWaitGroup"], unfollowed := true, recurses := true, named := ["internal/bytealg.MaxLen"], loops := true, leaving := true, apart := false, narrowed := true }
def FnExactParallelOrderUptoSaid : Prop := fnExactParallelOrderUptoRow.holds Tryz.pinned (OpenSpec.upto fnExactParallelOrderSpec)

/-- 'laws.FnExactWaveOrder', WHERE WHAT IT READS IS OF BULK AT MOST 1048576: true; the input reads as it did. -/
def fnExactWaveOrderUptoRow : OpenClaim := { program := "ytklehkkclojccaagreat", sum := "ba5b2b8fb08d7a5db23d34b69c9c013ddc3492d023bdc84634b014a93a2e1d75", func := "loop.example/loopnests/laws.FnExactWaveOrder", spec := "fnExactWaveOrder", inPlace := ["internal/bytealg.IndexByteString", "internal/bytealg.IndexString", "(*sync.WaitGroup).Add", "internal/race.ReleaseMerge", "internal/race.Disable", "internal/race.Enable", "internal/synctest.IsInBubble", "internal/synctest.Associate[sync.WaitGroup]", "sync.fatal", "sync/atomic.OrUint64", "sync/atomic.AddUint64", "internal/race.Read", "sync/atomic.LoadUint64", "sync/atomic.StoreUint64", "internal/synctest.Disassociate[sync.WaitGroup]", "sync.runtime_Semrelease", "(*sync.WaitGroup).Done", "(*sync.WaitGroup).Wait", "internal/race.Acquire", "internal/synctest.IsAssociated[sync.WaitGroup]", "sync/atomic.CompareAndSwapUint64", "internal/race.Write", "sync.runtime_SemacquireWaitGroup"], unfollowed := true, recurses := true, named := ["internal/bytealg.MaxLen"], loops := true, leaving := true, apart := false, narrowed := true }
def FnExactWaveOrderUptoSaid : Prop := fnExactWaveOrderUptoRow.holds Tryz.pinned (OpenSpec.upto fnExactWaveOrderSpec)

end Rows
end Go.Proofs.YtklehkkclojccaaGreat
