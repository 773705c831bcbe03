/-
  NARROWER THAN 'FOR EVERY INPUT', by the rows' own cells (each row's printed sentence says how): FnExactStmtValid: loops · FnExactStmtDepth: loops · FnExactStmtReads: loops · FnExactStmtSame: loops.
  DERIVED. THE GIVEN ROWS OF THIS SEAT. 4 by the template 'for every input the law returns true; each argument reads behind the call as it read before'; 0 by the template 'total and deterministic' (their statements: YtcpbfefgjpimiaaTotals.lean).
  GIVEN WITH THE SEED: the statements are not yours to turn. If you find one false, say at which input.
  Laid BY PROGRAM, IN A SANDBOX (cutbox-rows.mjs): the forced cells as the released guide's own fill.sh prints them over the translation c0a6eb462c29f9d0… (all of the seat's roots in one cut). By AI agents, Wed Nov 11 2026. No macro, syntax, notation, axiom, sorry.
-/
import Derived.Test.YtcpbfefgjpimiaaChecked
import GoSem.Claim
import GoSem.ClaimJoined
import GoSem.ClaimMapViews
import Derived.JoinedTies
import Derived.KernelRfl
namespace Go.Proofs.Ytcpbfefgjpimiaa
/- THE CELL 'sum', in the pinned program and in every row, IS THE sha256 OF THE DUMP (.gsa) THAT YtcpbfefgjpimiaaProg.lean LOADS. Nothing in Lean hashes anything: it is a label: what it is worth is what the hold of that sum in a sandbox is worth. -/
noncomputable def Try.pinned : Pinned := { name := "ytcpbfefgjpimiaa", sum := "c0a6eb462c29f9d0d9077552fac3f042b9ead5fb9866e938f569aa0d227a71be", checked := Try.checked }
namespace Rows
def none {H : Type} : Left H := { results := [], args := [] }

/-- 'laws.FnExactStmtValid': WHATEVER THE INPUT: true; the input reads as it did. -/
def fnExactStmtValidSpec : ChangeSpec := { name := "fnExactStmtValid", fn := fun _ => fun
  | [d1, d2] => { results := [.lit (.bool true)], args := [d1, d2] }
  | _ => none }
def fnExactStmtValidRow : OpenClaim := { program := "ytcpbfefgjpimiaa", sum := "c0a6eb462c29f9d0d9077552fac3f042b9ead5fb9866e938f569aa0d227a71be", func := "loop.example/loopnests/laws.FnExactStmtValid", spec := "fnExactStmtValid", inPlace := ["internal/bytealg.IndexByteString", "internal/bytealg.IndexString"], unfollowed := true, recurses := true, named := ["internal/bytealg.MaxLen"], loops := true, plainKeys := false, apart := false }
def FnExactStmtValidSaid : Prop := fnExactStmtValidRow.holds Try.pinned (OpenSpec.ofChange fnExactStmtValidSpec)

/-- ITS FALSE NEIGHBOUR: 'it returns false'. Refute it at one input. -/
def fnExactStmtValidWrong : ChangeSpec := { name := "fnExactStmtValid", fn := fun _ => fun
  | [d1, d2] => { results := [.lit (.bool false)], args := [d1, d2] }
  | _ => none }
def FnExactStmtValidWrongFalsely : Prop := fnExactStmtValidRow.holds Try.pinned (OpenSpec.ofChange fnExactStmtValidWrong)

/-- 'laws.FnExactStmtDepth': WHATEVER THE INPUT: true; the input reads as it did. -/
def fnExactStmtDepthSpec : ChangeSpec := { name := "fnExactStmtDepth", fn := fun _ => fun
  | [d] => { results := [.lit (.bool true)], args := [d] }
  | _ => none }
def fnExactStmtDepthRow : OpenClaim := { program := "ytcpbfefgjpimiaa", sum := "c0a6eb462c29f9d0d9077552fac3f042b9ead5fb9866e938f569aa0d227a71be", func := "loop.example/loopnests/laws.FnExactStmtDepth", spec := "fnExactStmtDepth", inPlace := ["internal/bytealg.IndexByteString", "internal/bytealg.IndexString"], unfollowed := true, recurses := true, named := ["internal/bytealg.MaxLen"], loops := true, plainKeys := false, apart := false }
def FnExactStmtDepthSaid : Prop := fnExactStmtDepthRow.holds Try.pinned (OpenSpec.ofChange fnExactStmtDepthSpec)

/-- ITS FALSE NEIGHBOUR: 'it returns false'. Refute it at one input. -/
def fnExactStmtDepthWrong : ChangeSpec := { name := "fnExactStmtDepth", fn := fun _ => fun
  | [d] => { results := [.lit (.bool false)], args := [d] }
  | _ => none }
def FnExactStmtDepthWrongFalsely : Prop := fnExactStmtDepthRow.holds Try.pinned (OpenSpec.ofChange fnExactStmtDepthWrong)

/-- 'laws.FnExactStmtReads': WHATEVER THE INPUT: true; the input reads as it did. -/
def fnExactStmtReadsSpec : ChangeSpec := { name := "fnExactStmtReads", fn := fun _ => fun
  | [d] => { results := [.lit (.bool true)], args := [d] }
  | _ => none }
def fnExactStmtReadsRow : OpenClaim := { program := "ytcpbfefgjpimiaa", sum := "c0a6eb462c29f9d0d9077552fac3f042b9ead5fb9866e938f569aa0d227a71be", func := "loop.example/loopnests/laws.FnExactStmtReads", spec := "fnExactStmtReads", inPlace := ["internal/bytealg.IndexByteString", "internal/bytealg.IndexString"], unfollowed := true, recurses := true, named := ["internal/bytealg.MaxLen"], loops := true, plainKeys := false, apart := false }
def FnExactStmtReadsSaid : Prop := fnExactStmtReadsRow.holds Try.pinned (OpenSpec.ofChange fnExactStmtReadsSpec)

/-- ITS FALSE NEIGHBOUR: 'it returns false'. Refute it at one input. -/
def fnExactStmtReadsWrong : ChangeSpec := { name := "fnExactStmtReads", fn := fun _ => fun
  | [d] => { results := [.lit (.bool false)], args := [d] }
  | _ => none }
def FnExactStmtReadsWrongFalsely : Prop := fnExactStmtReadsRow.holds Try.pinned (OpenSpec.ofChange fnExactStmtReadsWrong)

/-- 'laws.FnExactStmtSame': WHATEVER THE INPUT: true; the input reads as it did. -/
def fnExactStmtSameSpec : ChangeSpec := { name := "fnExactStmtSame", fn := fun _ => fun
  | [d1, d2] => { results := [.lit (.bool true)], args := [d1, d2] }
  | _ => none }
def fnExactStmtSameRow : OpenClaim := { program := "ytcpbfefgjpimiaa", sum := "c0a6eb462c29f9d0d9077552fac3f042b9ead5fb9866e938f569aa0d227a71be", func := "loop.example/loopnests/laws.FnExactStmtSame", spec := "fnExactStmtSame", unfollowed := true, recurses := true, loops := true, plainKeys := false, apart := false }
def FnExactStmtSameSaid : Prop := fnExactStmtSameRow.holds Try.pinned (OpenSpec.ofChange fnExactStmtSameSpec)

/-- ITS FALSE NEIGHBOUR: 'it returns false'. Refute it at one input. -/
def fnExactStmtSameWrong : ChangeSpec := { name := "fnExactStmtSame", fn := fun _ => fun
  | [d1, d2] => { results := [.lit (.bool false)], args := [d1, d2] }
  | _ => none }
def FnExactStmtSameWrongFalsely : Prop := fnExactStmtSameRow.holds Try.pinned (OpenSpec.ofChange fnExactStmtSameWrong)

/- THE SECOND FORM. 'bulk': how many values and letters a reading holds, each counted each time it is reached (what is shared counts as often as it is met; a slice's spare places count too). A statement '..UptoSaid' is the law's where the arguments, and the package variables that the reading takes, are together of bulk at most 1048576: NARROWER than '..Said'. Prove '..Said' where nothing that the law and all that it calls make is longer than what came in: it says more and counts as full. Else prove '..UptoSaid'. A law counts once. -/
mutual
def uptoBulk {H : Type} : DataW H → Nat
  | .lit (.string bytes) => bytes.length + 1
  | .lit _ => 1
  | .nil => 1
  | .ptr d => uptoBulk d + 1
  | .slice elems spare => uptoBulkAll elems + uptoBulkAll spare + 1
  | .agg parts => uptoBulkAll parts + 1
  | .iface _ d => uptoBulk d + 1
  | .map entries => uptoBulkEntries entries + 1
  | .held _ => 1
def uptoBulkAll {H : Type} : List (DataW H) → Nat
  | [] => 0
  | d :: r => uptoBulk d + uptoBulkAll r
def uptoBulkEntries {H : Type} : List (Lit × DataW H) → Nat
  | [] => 0
  | x :: r => uptoBulkEntry x + uptoBulkEntries r
def uptoBulkEntry {H : Type} : Lit × DataW H → Nat
  | (.string bytes, d) => bytes.length + uptoBulk d + 1
  | (_, d) => uptoBulk d + 1
 end
def uptoSmall : (H : Type) → List (DataW H) → Bool := fun _ ds => decide (uptoBulkAll ds ≤ 1048576)
def OpenSpec.upto (s : _root_.Go.ChangeSpec) : _root_.Go.OpenSpec := { _root_.Go.OpenSpec.ofChange s with cond := some uptoSmall }

/-- 'laws.FnExactStmtValid', WHERE WHAT IT READS IS OF BULK AT MOST 1048576: true; the input reads as it did. -/
def fnExactStmtValidUptoRow : OpenClaim := { program := "ytcpbfefgjpimiaa", sum := "c0a6eb462c29f9d0d9077552fac3f042b9ead5fb9866e938f569aa0d227a71be", func := "loop.example/loopnests/laws.FnExactStmtValid", spec := "fnExactStmtValid", inPlace := ["internal/bytealg.IndexByteString", "internal/bytealg.IndexString"], unfollowed := true, recurses := true, named := ["internal/bytealg.MaxLen"], loops := true, plainKeys := false, apart := false, narrowed := true }
def FnExactStmtValidUptoSaid : Prop := fnExactStmtValidUptoRow.holds Try.pinned (OpenSpec.upto fnExactStmtValidSpec)

/-- 'laws.FnExactStmtDepth', WHERE WHAT IT READS IS OF BULK AT MOST 1048576: true; the input reads as it did. -/
def fnExactStmtDepthUptoRow : OpenClaim := { program := "ytcpbfefgjpimiaa", sum := "c0a6eb462c29f9d0d9077552fac3f042b9ead5fb9866e938f569aa0d227a71be", func := "loop.example/loopnests/laws.FnExactStmtDepth", spec := "fnExactStmtDepth", inPlace := ["internal/bytealg.IndexByteString", "internal/bytealg.IndexString"], unfollowed := true, recurses := true, named := ["internal/bytealg.MaxLen"], loops := true, plainKeys := false, apart := false, narrowed := true }
def FnExactStmtDepthUptoSaid : Prop := fnExactStmtDepthUptoRow.holds Try.pinned (OpenSpec.upto fnExactStmtDepthSpec)

/-- 'laws.FnExactStmtReads', WHERE WHAT IT READS IS OF BULK AT MOST 1048576: true; the input reads as it did. -/
def fnExactStmtReadsUptoRow : OpenClaim := { program := "ytcpbfefgjpimiaa", sum := "c0a6eb462c29f9d0d9077552fac3f042b9ead5fb9866e938f569aa0d227a71be", func := "loop.example/loopnests/laws.FnExactStmtReads", spec := "fnExactStmtReads", inPlace := ["internal/bytealg.IndexByteString", "internal/bytealg.IndexString"], unfollowed := true, recurses := true, named := ["internal/bytealg.MaxLen"], loops := true, plainKeys := false, apart := false, narrowed := true }
def FnExactStmtReadsUptoSaid : Prop := fnExactStmtReadsUptoRow.holds Try.pinned (OpenSpec.upto fnExactStmtReadsSpec)

/-- 'laws.FnExactStmtSame', WHERE WHAT IT READS IS OF BULK AT MOST 1048576: true; the input reads as it did. -/
def fnExactStmtSameUptoRow : OpenClaim := { program := "ytcpbfefgjpimiaa", sum := "c0a6eb462c29f9d0d9077552fac3f042b9ead5fb9866e938f569aa0d227a71be", func := "loop.example/loopnests/laws.FnExactStmtSame", spec := "fnExactStmtSame", unfollowed := true, recurses := true, loops := true, plainKeys := false, apart := false, narrowed := true }
def FnExactStmtSameUptoSaid : Prop := fnExactStmtSameUptoRow.holds Try.pinned (OpenSpec.upto fnExactStmtSameSpec)

end Rows
end Go.Proofs.Ytcpbfefgjpimiaa
