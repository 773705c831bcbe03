/-
  NARROWER THAN 'FOR EVERY INPUT', by the rows' own cells (each row's printed sentence says how): FnExactProgramInstances: loops · FnExactInstanceCells: loops · FnExactMemoryValid: loops · FnExactInstanceValue: loops · FnExactRunInstance: loops · FnExactRunProgram: loops · FnExactRunOrder: loops · FnExactLiveInstances: loops.
  DERIVED. THE GIVEN ROWS OF THIS SEAT. 8 by the template 'for every input the law returns true; each argument reads behind the call as it read before'; 0 by the template 'total and deterministic' (their statements: YtmhldhjpfeageabGreatTotals.lean).
  GIVEN WITH THE SEED: the statements are not yours to turn. If you find one false, say at which input.
  Laid BY PROGRAM, IN A SANDBOX (cutbox-rows.mjs): the forced cells as the released guide's own fill.sh prints them over the translation 30e7287f9e8fb584… (all of the seat's roots in one cut). By AI agents, Wed Nov 11 2026. No macro, syntax, notation, axiom, sorry.
-/
import Derived.Test.YtmhldhjpfeageabGreatChecked
import GoSem.Claim
import GoSem.ClaimJoined
import GoSem.ClaimMapViews
import Derived.JoinedTies
import Derived.KernelRfl
namespace Go.Proofs.YtmhldhjpfeageabGreat
/- THE CELL 'sum', in the pinned program and in every row, IS THE sha256 OF THE DUMP (.gsa) THAT YtmhldhjpfeageabGreatProg.lean LOADS. Nothing in Lean hashes anything: it is a label: what it is worth is what the hold of that sum in a sandbox is worth. -/
noncomputable def Tryz.pinned : Pinned := { name := "ytmhldhjpfeageabgreat", sum := "30e7287f9e8fb584ae3a85c94f0b91b8f018832ce0547e1a639baa00b27102bc", checked := Tryz.checked }
namespace Rows
def none {H : Type} : Left H := { results := [], args := [] }

/-- 'laws.FnExactProgramInstances': WHATEVER THE INPUT: true; the input reads as it did. -/
def fnExactProgramInstancesSpec : ChangeSpec := { name := "fnExactProgramInstances", fn := fun _ => fun
  | [d] => { results := [.lit (.bool true)], args := [d] }
  | _ => none }
def fnExactProgramInstancesRow : OpenClaim := { program := "ytmhldhjpfeageabgreat", sum := "30e7287f9e8fb584ae3a85c94f0b91b8f018832ce0547e1a639baa00b27102bc", func := "loop.example/loopnests/laws.FnExactProgramInstances", spec := "fnExactProgramInstances", inPlace := ["internal/bytealg.IndexByteString", "internal/bytealg.IndexString"], unfollowed := true, recurses := true, named := ["internal/bytealg.MaxLen"], loops := true, apart := false }
def FnExactProgramInstancesSaid : Prop := fnExactProgramInstancesRow.holds Tryz.pinned (OpenSpec.ofChange fnExactProgramInstancesSpec)

/-- ITS FALSE NEIGHBOUR: 'it returns false'. Refute it at one input. -/
def fnExactProgramInstancesWrong : ChangeSpec := { name := "fnExactProgramInstances", fn := fun _ => fun
  | [d] => { results := [.lit (.bool false)], args := [d] }
  | _ => none }
def FnExactProgramInstancesWrongFalsely : Prop := fnExactProgramInstancesRow.holds Tryz.pinned (OpenSpec.ofChange fnExactProgramInstancesWrong)

/-- 'laws.FnExactInstanceCells': WHATEVER THE INPUT: true; the input reads as it did. -/
def fnExactInstanceCellsSpec : ChangeSpec := { name := "fnExactInstanceCells", fn := fun _ => fun
  | [d1, d2] => { results := [.lit (.bool true)], args := [d1, d2] }
  | _ => none }
def fnExactInstanceCellsRow : OpenClaim := { program := "ytmhldhjpfeageabgreat", sum := "30e7287f9e8fb584ae3a85c94f0b91b8f018832ce0547e1a639baa00b27102bc", func := "loop.example/loopnests/laws.FnExactInstanceCells", spec := "fnExactInstanceCells", inPlace := ["internal/bytealg.IndexByteString", "internal/bytealg.IndexString"], unfollowed := true, recurses := true, named := ["internal/bytealg.MaxLen"], loops := true, apart := false }
def FnExactInstanceCellsSaid : Prop := fnExactInstanceCellsRow.holds Tryz.pinned (OpenSpec.ofChange fnExactInstanceCellsSpec)

/-- ITS FALSE NEIGHBOUR: 'it returns false'. Refute it at one input. -/
def fnExactInstanceCellsWrong : ChangeSpec := { name := "fnExactInstanceCells", fn := fun _ => fun
  | [d1, d2] => { results := [.lit (.bool false)], args := [d1, d2] }
  | _ => none }
def FnExactInstanceCellsWrongFalsely : Prop := fnExactInstanceCellsRow.holds Tryz.pinned (OpenSpec.ofChange fnExactInstanceCellsWrong)

/-- 'laws.FnExactMemoryValid': WHATEVER THE INPUT: true; the input reads as it did. -/
def fnExactMemoryValidSpec : ChangeSpec := { name := "fnExactMemoryValid", fn := fun _ => fun
  | [d1, d2] => { results := [.lit (.bool true)], args := [d1, d2] }
  | _ => none }
def fnExactMemoryValidRow : OpenClaim := { program := "ytmhldhjpfeageabgreat", sum := "30e7287f9e8fb584ae3a85c94f0b91b8f018832ce0547e1a639baa00b27102bc", func := "loop.example/loopnests/laws.FnExactMemoryValid", spec := "fnExactMemoryValid", inPlace := ["internal/bytealg.IndexByteString", "internal/bytealg.IndexString"], unfollowed := true, recurses := true, named := ["internal/bytealg.MaxLen"], loops := true, apart := false }
def FnExactMemoryValidSaid : Prop := fnExactMemoryValidRow.holds Tryz.pinned (OpenSpec.ofChange fnExactMemoryValidSpec)

/-- ITS FALSE NEIGHBOUR: 'it returns false'. Refute it at one input. -/
def fnExactMemoryValidWrong : ChangeSpec := { name := "fnExactMemoryValid", fn := fun _ => fun
  | [d1, d2] => { results := [.lit (.bool false)], args := [d1, d2] }
  | _ => none }
def FnExactMemoryValidWrongFalsely : Prop := fnExactMemoryValidRow.holds Tryz.pinned (OpenSpec.ofChange fnExactMemoryValidWrong)

/-- 'laws.FnExactInstanceValue': WHATEVER THE INPUT: true; the input reads as it did. -/
def fnExactInstanceValueSpec : ChangeSpec := { name := "fnExactInstanceValue", fn := fun _ => fun
  | [d1, d2, d3] => { results := [.lit (.bool true)], args := [d1, d2, d3] }
  | _ => none }
def fnExactInstanceValueRow : OpenClaim := { program := "ytmhldhjpfeageabgreat", sum := "30e7287f9e8fb584ae3a85c94f0b91b8f018832ce0547e1a639baa00b27102bc", func := "loop.example/loopnests/laws.FnExactInstanceValue", spec := "fnExactInstanceValue", inPlace := ["internal/bytealg.IndexByteString", "internal/bytealg.IndexString"], unfollowed := true, recurses := true, named := ["internal/bytealg.MaxLen"], loops := true, apart := false }
def FnExactInstanceValueSaid : Prop := fnExactInstanceValueRow.holds Tryz.pinned (OpenSpec.ofChange fnExactInstanceValueSpec)

/-- ITS FALSE NEIGHBOUR: 'it returns false'. Refute it at one input. -/
def fnExactInstanceValueWrong : ChangeSpec := { name := "fnExactInstanceValue", fn := fun _ => fun
  | [d1, d2, d3] => { results := [.lit (.bool false)], args := [d1, d2, d3] }
  | _ => none }
def FnExactInstanceValueWrongFalsely : Prop := fnExactInstanceValueRow.holds Tryz.pinned (OpenSpec.ofChange fnExactInstanceValueWrong)

/-- 'laws.FnExactRunInstance': WHATEVER THE INPUT: true; the input reads as it did. -/
def fnExactRunInstanceSpec : ChangeSpec := { name := "fnExactRunInstance", fn := fun _ => fun
  | [d1, d2, d3] => { results := [.lit (.bool true)], args := [d1, d2, d3] }
  | _ => none }
def fnExactRunInstanceRow : OpenClaim := { program := "ytmhldhjpfeageabgreat", sum := "30e7287f9e8fb584ae3a85c94f0b91b8f018832ce0547e1a639baa00b27102bc", func := "loop.example/loopnests/laws.FnExactRunInstance", spec := "fnExactRunInstance", inPlace := ["internal/bytealg.IndexByteString", "internal/bytealg.IndexString"], unfollowed := true, recurses := true, named := ["internal/bytealg.MaxLen"], loops := true, apart := false }
def FnExactRunInstanceSaid : Prop := fnExactRunInstanceRow.holds Tryz.pinned (OpenSpec.ofChange fnExactRunInstanceSpec)

/-- ITS FALSE NEIGHBOUR: 'it returns false'. Refute it at one input. -/
def fnExactRunInstanceWrong : ChangeSpec := { name := "fnExactRunInstance", fn := fun _ => fun
  | [d1, d2, d3] => { results := [.lit (.bool false)], args := [d1, d2, d3] }
  | _ => none }
def FnExactRunInstanceWrongFalsely : Prop := fnExactRunInstanceRow.holds Tryz.pinned (OpenSpec.ofChange fnExactRunInstanceWrong)

/-- 'laws.FnExactRunProgram': WHATEVER THE INPUT: true; the input reads as it did. -/
def fnExactRunProgramSpec : ChangeSpec := { name := "fnExactRunProgram", fn := fun _ => fun
  | [d1, d2] => { results := [.lit (.bool true)], args := [d1, d2] }
  | _ => none }
def fnExactRunProgramRow : OpenClaim := { program := "ytmhldhjpfeageabgreat", sum := "30e7287f9e8fb584ae3a85c94f0b91b8f018832ce0547e1a639baa00b27102bc", func := "loop.example/loopnests/laws.FnExactRunProgram", spec := "fnExactRunProgram", inPlace := ["internal/bytealg.IndexByteString", "internal/bytealg.IndexString"], unfollowed := true, recurses := true, named := ["internal/bytealg.MaxLen"], loops := true, apart := false }
def FnExactRunProgramSaid : Prop := fnExactRunProgramRow.holds Tryz.pinned (OpenSpec.ofChange fnExactRunProgramSpec)

/-- ITS FALSE NEIGHBOUR: 'it returns false'. Refute it at one input. -/
def fnExactRunProgramWrong : ChangeSpec := { name := "fnExactRunProgram", fn := fun _ => fun
  | [d1, d2] => { results := [.lit (.bool false)], args := [d1, d2] }
  | _ => none }
def FnExactRunProgramWrongFalsely : Prop := fnExactRunProgramRow.holds Tryz.pinned (OpenSpec.ofChange fnExactRunProgramWrong)

/-- 'laws.FnExactRunOrder': WHATEVER THE INPUT: true; the input reads as it did. -/
def fnExactRunOrderSpec : ChangeSpec := { name := "fnExactRunOrder", fn := fun _ => fun
  | [d1, d2, d3] => { results := [.lit (.bool true)], args := [d1, d2, d3] }
  | _ => none }
def fnExactRunOrderRow : OpenClaim := { program := "ytmhldhjpfeageabgreat", sum := "30e7287f9e8fb584ae3a85c94f0b91b8f018832ce0547e1a639baa00b27102bc", func := "loop.example/loopnests/laws.FnExactRunOrder", spec := "fnExactRunOrder", inPlace := ["internal/bytealg.IndexByteString", "internal/bytealg.IndexString"], unfollowed := true, recurses := true, named := ["internal/bytealg.MaxLen"], loops := true, apart := false }
def FnExactRunOrderSaid : Prop := fnExactRunOrderRow.holds Tryz.pinned (OpenSpec.ofChange fnExactRunOrderSpec)

/-- ITS FALSE NEIGHBOUR: 'it returns false'. Refute it at one input. -/
def fnExactRunOrderWrong : ChangeSpec := { name := "fnExactRunOrder", fn := fun _ => fun
  | [d1, d2, d3] => { results := [.lit (.bool false)], args := [d1, d2, d3] }
  | _ => none }
def FnExactRunOrderWrongFalsely : Prop := fnExactRunOrderRow.holds Tryz.pinned (OpenSpec.ofChange fnExactRunOrderWrong)

/-- 'laws.FnExactLiveInstances': WHATEVER THE INPUT: true; the input reads as it did. -/
def fnExactLiveInstancesSpec : ChangeSpec := { name := "fnExactLiveInstances", fn := fun _ => fun
  | [d] => { results := [.lit (.bool true)], args := [d] }
  | _ => none }
def fnExactLiveInstancesRow : OpenClaim := { program := "ytmhldhjpfeageabgreat", sum := "30e7287f9e8fb584ae3a85c94f0b91b8f018832ce0547e1a639baa00b27102bc", func := "loop.example/loopnests/laws.FnExactLiveInstances", spec := "fnExactLiveInstances", inPlace := ["internal/bytealg.IndexByteString", "internal/bytealg.IndexString"], unfollowed := true, recurses := true, named := ["internal/bytealg.MaxLen"], loops := true, apart := false }
def FnExactLiveInstancesSaid : Prop := fnExactLiveInstancesRow.holds Tryz.pinned (OpenSpec.ofChange fnExactLiveInstancesSpec)

/-- ITS FALSE NEIGHBOUR: 'it returns false'. Refute it at one input. -/
def fnExactLiveInstancesWrong : ChangeSpec := { name := "fnExactLiveInstances", fn := fun _ => fun
  | [d] => { results := [.lit (.bool false)], args := [d] }
  | _ => none }
def FnExactLiveInstancesWrongFalsely : Prop := fnExactLiveInstancesRow.holds Tryz.pinned (OpenSpec.ofChange fnExactLiveInstancesWrong)

/- THE SECOND FORM. 'bulk': how many values and letters a reading holds, each counted each time it is reached (what is shared counts as often as it is met; a slice's spare places count too). A statement '..UptoSaid' is the law's where the arguments, and the package variables that the reading takes, are together of bulk at most 1048576: NARROWER than '..Said'. Prove '..Said' where nothing that the law and all that it calls make is longer than what came in: it says more and counts as full. Else prove '..UptoSaid'. A law counts once. -/
mutual
def uptoBulk {H : Type} : DataW H → Nat
  | .lit (.string bytes) => bytes.length + 1
  | .lit _ => 1
  | .nil => 1
  | .ptr d => uptoBulk d + 1
  | .slice elems spare => uptoBulkAll elems + uptoBulkAll spare + 1
  | .agg parts => uptoBulkAll parts + 1
  | .iface _ d => uptoBulk d + 1
  | .map entries => uptoBulkEntries entries + 1
  | .held _ => 1
def uptoBulkAll {H : Type} : List (DataW H) → Nat
  | [] => 0
  | d :: r => uptoBulk d + uptoBulkAll r
def uptoBulkEntries {H : Type} : List (Lit × DataW H) → Nat
  | [] => 0
  | x :: r => uptoBulkEntry x + uptoBulkEntries r
def uptoBulkEntry {H : Type} : Lit × DataW H → Nat
  | (.string bytes, d) => bytes.length + uptoBulk d + 1
  | (_, d) => uptoBulk d + 1
 end
def uptoSmall : (H : Type) → List (DataW H) → Bool := fun _ ds => decide (uptoBulkAll ds ≤ 1048576)
def OpenSpec.upto (s : _root_.Go.ChangeSpec) : _root_.Go.OpenSpec := { _root_.Go.OpenSpec.ofChange s with cond := some uptoSmall }

/-- 'laws.FnExactProgramInstances', WHERE WHAT IT READS IS OF BULK AT MOST 1048576: true; the input reads as it did. -/
def fnExactProgramInstancesUptoRow : OpenClaim := { program := "ytmhldhjpfeageabgreat", sum := "30e7287f9e8fb584ae3a85c94f0b91b8f018832ce0547e1a639baa00b27102bc", func := "loop.example/loopnests/laws.FnExactProgramInstances", spec := "fnExactProgramInstances", inPlace := ["internal/bytealg.IndexByteString", "internal/bytealg.IndexString"], unfollowed := true, recurses := true, named := ["internal/bytealg.MaxLen"], loops := true, apart := false, narrowed := true }
def FnExactProgramInstancesUptoSaid : Prop := fnExactProgramInstancesUptoRow.holds Tryz.pinned (OpenSpec.upto fnExactProgramInstancesSpec)

/-- 'laws.FnExactInstanceCells', WHERE WHAT IT READS IS OF BULK AT MOST 1048576: true; the input reads as it did. -/
def fnExactInstanceCellsUptoRow : OpenClaim := { program := "ytmhldhjpfeageabgreat", sum := "30e7287f9e8fb584ae3a85c94f0b91b8f018832ce0547e1a639baa00b27102bc", func := "loop.example/loopnests/laws.FnExactInstanceCells", spec := "fnExactInstanceCells", inPlace := ["internal/bytealg.IndexByteString", "internal/bytealg.IndexString"], unfollowed := true, recurses := true, named := ["internal/bytealg.MaxLen"], loops := true, apart := false, narrowed := true }
def FnExactInstanceCellsUptoSaid : Prop := fnExactInstanceCellsUptoRow.holds Tryz.pinned (OpenSpec.upto fnExactInstanceCellsSpec)

/-- 'laws.FnExactMemoryValid', WHERE WHAT IT READS IS OF BULK AT MOST 1048576: true; the input reads as it did. -/
def fnExactMemoryValidUptoRow : OpenClaim := { program := "ytmhldhjpfeageabgreat", sum := "30e7287f9e8fb584ae3a85c94f0b91b8f018832ce0547e1a639baa00b27102bc", func := "loop.example/loopnests/laws.FnExactMemoryValid", spec := "fnExactMemoryValid", inPlace := ["internal/bytealg.IndexByteString", "internal/bytealg.IndexString"], unfollowed := true, recurses := true, named := ["internal/bytealg.MaxLen"], loops := true, apart := false, narrowed := true }
def FnExactMemoryValidUptoSaid : Prop := fnExactMemoryValidUptoRow.holds Tryz.pinned (OpenSpec.upto fnExactMemoryValidSpec)

/-- 'laws.FnExactInstanceValue', WHERE WHAT IT READS IS OF BULK AT MOST 1048576: true; the input reads as it did. -/
def fnExactInstanceValueUptoRow : OpenClaim := { program := "ytmhldhjpfeageabgreat", sum := "30e7287f9e8fb584ae3a85c94f0b91b8f018832ce0547e1a639baa00b27102bc", func := "loop.example/loopnests/laws.FnExactInstanceValue", spec := "fnExactInstanceValue", inPlace := ["internal/bytealg.IndexByteString", "internal/bytealg.IndexString"], unfollowed := true, recurses := true, named := ["internal/bytealg.MaxLen"], loops := true, apart := false, narrowed := true }
def FnExactInstanceValueUptoSaid : Prop := fnExactInstanceValueUptoRow.holds Tryz.pinned (OpenSpec.upto fnExactInstanceValueSpec)

/-- 'laws.FnExactRunInstance', WHERE WHAT IT READS IS OF BULK AT MOST 1048576: true; the input reads as it did. -/
def fnExactRunInstanceUptoRow : OpenClaim := { program := "ytmhldhjpfeageabgreat", sum := "30e7287f9e8fb584ae3a85c94f0b91b8f018832ce0547e1a639baa00b27102bc", func := "loop.example/loopnests/laws.FnExactRunInstance", spec := "fnExactRunInstance", inPlace := ["internal/bytealg.IndexByteString", "internal/bytealg.IndexString"], unfollowed := true, recurses := true, named := ["internal/bytealg.MaxLen"], loops := true, apart := false, narrowed := true }
def FnExactRunInstanceUptoSaid : Prop := fnExactRunInstanceUptoRow.holds Tryz.pinned (OpenSpec.upto fnExactRunInstanceSpec)

/-- 'laws.FnExactRunProgram', WHERE WHAT IT READS IS OF BULK AT MOST 1048576: true; the input reads as it did. -/
def fnExactRunProgramUptoRow : OpenClaim := { program := "ytmhldhjpfeageabgreat", sum := "30e7287f9e8fb584ae3a85c94f0b91b8f018832ce0547e1a639baa00b27102bc", func := "loop.example/loopnests/laws.FnExactRunProgram", spec := "fnExactRunProgram", inPlace := ["internal/bytealg.IndexByteString", "internal/bytealg.IndexString"], unfollowed := true, recurses := true, named := ["internal/bytealg.MaxLen"], loops := true, apart := false, narrowed := true }
def FnExactRunProgramUptoSaid : Prop := fnExactRunProgramUptoRow.holds Tryz.pinned (OpenSpec.upto fnExactRunProgramSpec)

/-- 'laws.FnExactRunOrder', WHERE WHAT IT READS IS OF BULK AT MOST 1048576: true; the input reads as it did. -/
def fnExactRunOrderUptoRow : OpenClaim := { program := "ytmhldhjpfeageabgreat", sum := "30e7287f9e8fb584ae3a85c94f0b91b8f018832ce0547e1a639baa00b27102bc", func := "loop.example/loopnests/laws.FnExactRunOrder", spec := "fnExactRunOrder", inPlace := ["internal/bytealg.IndexByteString", "internal/bytealg.IndexString"], unfollowed := true, recurses := true, named := ["internal/bytealg.MaxLen"], loops := true, apart := false, narrowed := true }
def FnExactRunOrderUptoSaid : Prop := fnExactRunOrderUptoRow.holds Tryz.pinned (OpenSpec.upto fnExactRunOrderSpec)

/-- 'laws.FnExactLiveInstances', WHERE WHAT IT READS IS OF BULK AT MOST 1048576: true; the input reads as it did. -/
def fnExactLiveInstancesUptoRow : OpenClaim := { program := "ytmhldhjpfeageabgreat", sum := "30e7287f9e8fb584ae3a85c94f0b91b8f018832ce0547e1a639baa00b27102bc", func := "loop.example/loopnests/laws.FnExactLiveInstances", spec := "fnExactLiveInstances", inPlace := ["internal/bytealg.IndexByteString", "internal/bytealg.IndexString"], unfollowed := true, recurses := true, named := ["internal/bytealg.MaxLen"], loops := true, apart := false, narrowed := true }
def FnExactLiveInstancesUptoSaid : Prop := fnExactLiveInstancesUptoRow.holds Tryz.pinned (OpenSpec.upto fnExactLiveInstancesSpec)

end Rows
end Go.Proofs.YtmhldhjpfeageabGreat
