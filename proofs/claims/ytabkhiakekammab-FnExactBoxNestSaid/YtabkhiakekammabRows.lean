/-
  No cell of these rows narrows 'for every input' (looked for: loops, veiled, ifaces, maps, wideKeys, modest, calm, conditions, laid).
  DERIVED. THE GIVEN ROWS OF THIS SEAT. 5 by the template 'for every input the law returns true; each argument reads behind the call as it read before'; 0 by the template 'total and deterministic' (their statements: YtabkhiakekammabTotals.lean).
  GIVEN WITH THE SEED: the statements are not yours to turn. If you find one false, say at which input.
  Laid BY PROGRAM, IN A SANDBOX (cutbox-rows.mjs): the forced cells as the released guide's own fill.sh prints them over the translation 35bd679e6304a35b… (all of the seat's roots in one cut). By AI agents, Wed Nov 11 2026. No macro, syntax, notation, axiom, sorry.
-/
import Derived.Test.YtabkhiakekammabChecked
import GoSem.Claim
import GoSem.ClaimJoined
import GoSem.ClaimMapViews
import Derived.JoinedTies
import Derived.KernelRfl
namespace Go.Proofs.Ytabkhiakekammab
/- THE CELL 'sum', in the pinned program and in every row, IS THE sha256 OF THE DUMP (.gsa) THAT YtabkhiakekammabProg.lean LOADS. Nothing in Lean hashes anything: it is a label: what it is worth is what the hold of that sum in a sandbox is worth. -/
noncomputable def Try.pinned : Pinned := { name := "ytabkhiakekammab", sum := "35bd679e6304a35bf26cbb40302ef84ef04ef41f5c44965705ff02a9b84b0c58", checked := Try.checked }
namespace Rows
def none {H : Type} : Left H := { results := [], args := [] }

/-- 'laws.FnExactNestValid': WHATEVER THE INPUT: true; the input reads as it did. -/
def fnExactNestValidSpec : ChangeSpec := { name := "fnExactNestValid", fn := fun _ => fun
  | [d] => { results := [.lit (.bool true)], args := [d] }
  | _ => none }
def fnExactNestValidRow : OpenClaim := { program := "ytabkhiakekammab", sum := "35bd679e6304a35bf26cbb40302ef84ef04ef41f5c44965705ff02a9b84b0c58", func := "loop.example/loopnests/laws.FnExactNestValid", spec := "fnExactNestValid", apart := false }
def FnExactNestValidSaid : Prop := fnExactNestValidRow.holds Try.pinned (OpenSpec.ofChange fnExactNestValidSpec)

/-- ITS FALSE NEIGHBOUR: 'it returns false'. Refute it at one input. -/
def fnExactNestValidWrong : ChangeSpec := { name := "fnExactNestValid", fn := fun _ => fun
  | [d] => { results := [.lit (.bool false)], args := [d] }
  | _ => none }
def FnExactNestValidWrongFalsely : Prop := fnExactNestValidRow.holds Try.pinned (OpenSpec.ofChange fnExactNestValidWrong)

/-- 'laws.FnExactPointIn': WHATEVER THE INPUT: true; the input reads as it did. -/
def fnExactPointInSpec : ChangeSpec := { name := "fnExactPointIn", fn := fun _ => fun
  | [d1, d2] => { results := [.lit (.bool true)], args := [d1, d2] }
  | _ => none }
def fnExactPointInRow : OpenClaim := { program := "ytabkhiakekammab", sum := "35bd679e6304a35bf26cbb40302ef84ef04ef41f5c44965705ff02a9b84b0c58", func := "loop.example/loopnests/laws.FnExactPointIn", spec := "fnExactPointIn", apart := false }
def FnExactPointInSaid : Prop := fnExactPointInRow.holds Try.pinned (OpenSpec.ofChange fnExactPointInSpec)

/-- ITS FALSE NEIGHBOUR: 'it returns false'. Refute it at one input. -/
def fnExactPointInWrong : ChangeSpec := { name := "fnExactPointIn", fn := fun _ => fun
  | [d1, d2] => { results := [.lit (.bool false)], args := [d1, d2] }
  | _ => none }
def FnExactPointInWrongFalsely : Prop := fnExactPointInRow.holds Try.pinned (OpenSpec.ofChange fnExactPointInWrong)

/-- 'laws.FnExactRectNest': WHATEVER THE INPUT: true; the input reads as it did. -/
def fnExactRectNestSpec : ChangeSpec := { name := "fnExactRectNest", fn := fun _ => fun
  | [d] => { results := [.lit (.bool true)], args := [d] }
  | _ => none }
def fnExactRectNestRow : OpenClaim := { program := "ytabkhiakekammab", sum := "35bd679e6304a35bf26cbb40302ef84ef04ef41f5c44965705ff02a9b84b0c58", func := "loop.example/loopnests/laws.FnExactRectNest", spec := "fnExactRectNest", apart := false }
def FnExactRectNestSaid : Prop := fnExactRectNestRow.holds Try.pinned (OpenSpec.ofChange fnExactRectNestSpec)

/-- ITS FALSE NEIGHBOUR: 'it returns false'. Refute it at one input. -/
def fnExactRectNestWrong : ChangeSpec := { name := "fnExactRectNest", fn := fun _ => fun
  | [d] => { results := [.lit (.bool false)], args := [d] }
  | _ => none }
def FnExactRectNestWrongFalsely : Prop := fnExactRectNestRow.holds Try.pinned (OpenSpec.ofChange fnExactRectNestWrong)

/-- 'laws.FnExactLoopRange': WHATEVER THE INPUT: true; the input reads as it did. -/
def fnExactLoopRangeSpec : ChangeSpec := { name := "fnExactLoopRange", fn := fun _ => fun
  | [d1, d2] => { results := [.lit (.bool true)], args := [d1, d2] }
  | _ => none }
def fnExactLoopRangeRow : OpenClaim := { program := "ytabkhiakekammab", sum := "35bd679e6304a35bf26cbb40302ef84ef04ef41f5c44965705ff02a9b84b0c58", func := "loop.example/loopnests/laws.FnExactLoopRange", spec := "fnExactLoopRange", apart := false }
def FnExactLoopRangeSaid : Prop := fnExactLoopRangeRow.holds Try.pinned (OpenSpec.ofChange fnExactLoopRangeSpec)

/-- ITS FALSE NEIGHBOUR: 'it returns false'. Refute it at one input. -/
def fnExactLoopRangeWrong : ChangeSpec := { name := "fnExactLoopRange", fn := fun _ => fun
  | [d1, d2] => { results := [.lit (.bool false)], args := [d1, d2] }
  | _ => none }
def FnExactLoopRangeWrongFalsely : Prop := fnExactLoopRangeRow.holds Try.pinned (OpenSpec.ofChange fnExactLoopRangeWrong)

/-- 'laws.FnExactBoxNest': WHATEVER THE INPUT: true; the input reads as it did. -/
def fnExactBoxNestSpec : ChangeSpec := { name := "fnExactBoxNest", fn := fun _ => fun
  | [d] => { results := [.lit (.bool true)], args := [d] }
  | _ => none }
def fnExactBoxNestRow : OpenClaim := { program := "ytabkhiakekammab", sum := "35bd679e6304a35bf26cbb40302ef84ef04ef41f5c44965705ff02a9b84b0c58", func := "loop.example/loopnests/laws.FnExactBoxNest", spec := "fnExactBoxNest", apart := false }
def FnExactBoxNestSaid : Prop := fnExactBoxNestRow.holds Try.pinned (OpenSpec.ofChange fnExactBoxNestSpec)

/-- ITS FALSE NEIGHBOUR: 'it returns false'. Refute it at one input. -/
def fnExactBoxNestWrong : ChangeSpec := { name := "fnExactBoxNest", fn := fun _ => fun
  | [d] => { results := [.lit (.bool false)], args := [d] }
  | _ => none }
def FnExactBoxNestWrongFalsely : Prop := fnExactBoxNestRow.holds Try.pinned (OpenSpec.ofChange fnExactBoxNestWrong)

/- THE SECOND FORM. 'bulk': how many values and letters a reading holds, each counted each time it is reached (what is shared counts as often as it is met; a slice's spare places count too). A statement '..UptoSaid' is the law's where the arguments, and the package variables that the reading takes, are together of bulk at most 1048576: NARROWER than '..Said'. Prove '..Said' where nothing that the law and all that it calls make is longer than what came in: it says more and counts as full. Else prove '..UptoSaid'. A law counts once. -/
mutual
def uptoBulk {H : Type} : DataW H → Nat
  | .lit (.string bytes) => bytes.length + 1
  | .lit _ => 1
  | .nil => 1
  | .ptr d => uptoBulk d + 1
  | .slice elems spare => uptoBulkAll elems + uptoBulkAll spare + 1
  | .agg parts => uptoBulkAll parts + 1
  | .iface _ d => uptoBulk d + 1
  | .map entries => uptoBulkEntries entries + 1
  | .held _ => 1
def uptoBulkAll {H : Type} : List (DataW H) → Nat
  | [] => 0
  | d :: r => uptoBulk d + uptoBulkAll r
def uptoBulkEntries {H : Type} : List (Lit × DataW H) → Nat
  | [] => 0
  | x :: r => uptoBulkEntry x + uptoBulkEntries r
def uptoBulkEntry {H : Type} : Lit × DataW H → Nat
  | (.string bytes, d) => bytes.length + uptoBulk d + 1
  | (_, d) => uptoBulk d + 1
 end
def uptoSmall : (H : Type) → List (DataW H) → Bool := fun _ ds => decide (uptoBulkAll ds ≤ 1048576)
def OpenSpec.upto (s : _root_.Go.ChangeSpec) : _root_.Go.OpenSpec := { _root_.Go.OpenSpec.ofChange s with cond := some uptoSmall }

/-- 'laws.FnExactNestValid', WHERE WHAT IT READS IS OF BULK AT MOST 1048576: true; the input reads as it did. -/
def fnExactNestValidUptoRow : OpenClaim := { program := "ytabkhiakekammab", sum := "35bd679e6304a35bf26cbb40302ef84ef04ef41f5c44965705ff02a9b84b0c58", func := "loop.example/loopnests/laws.FnExactNestValid", spec := "fnExactNestValid", apart := false, narrowed := true }
def FnExactNestValidUptoSaid : Prop := fnExactNestValidUptoRow.holds Try.pinned (OpenSpec.upto fnExactNestValidSpec)

/-- 'laws.FnExactPointIn', WHERE WHAT IT READS IS OF BULK AT MOST 1048576: true; the input reads as it did. -/
def fnExactPointInUptoRow : OpenClaim := { program := "ytabkhiakekammab", sum := "35bd679e6304a35bf26cbb40302ef84ef04ef41f5c44965705ff02a9b84b0c58", func := "loop.example/loopnests/laws.FnExactPointIn", spec := "fnExactPointIn", apart := false, narrowed := true }
def FnExactPointInUptoSaid : Prop := fnExactPointInUptoRow.holds Try.pinned (OpenSpec.upto fnExactPointInSpec)

/-- 'laws.FnExactRectNest', WHERE WHAT IT READS IS OF BULK AT MOST 1048576: true; the input reads as it did. -/
def fnExactRectNestUptoRow : OpenClaim := { program := "ytabkhiakekammab", sum := "35bd679e6304a35bf26cbb40302ef84ef04ef41f5c44965705ff02a9b84b0c58", func := "loop.example/loopnests/laws.FnExactRectNest", spec := "fnExactRectNest", apart := false, narrowed := true }
def FnExactRectNestUptoSaid : Prop := fnExactRectNestUptoRow.holds Try.pinned (OpenSpec.upto fnExactRectNestSpec)

/-- 'laws.FnExactLoopRange', WHERE WHAT IT READS IS OF BULK AT MOST 1048576: true; the input reads as it did. -/
def fnExactLoopRangeUptoRow : OpenClaim := { program := "ytabkhiakekammab", sum := "35bd679e6304a35bf26cbb40302ef84ef04ef41f5c44965705ff02a9b84b0c58", func := "loop.example/loopnests/laws.FnExactLoopRange", spec := "fnExactLoopRange", apart := false, narrowed := true }
def FnExactLoopRangeUptoSaid : Prop := fnExactLoopRangeUptoRow.holds Try.pinned (OpenSpec.upto fnExactLoopRangeSpec)

/-- 'laws.FnExactBoxNest', WHERE WHAT IT READS IS OF BULK AT MOST 1048576: true; the input reads as it did. -/
def fnExactBoxNestUptoRow : OpenClaim := { program := "ytabkhiakekammab", sum := "35bd679e6304a35bf26cbb40302ef84ef04ef41f5c44965705ff02a9b84b0c58", func := "loop.example/loopnests/laws.FnExactBoxNest", spec := "fnExactBoxNest", apart := false, narrowed := true }
def FnExactBoxNestUptoSaid : Prop := fnExactBoxNestUptoRow.holds Try.pinned (OpenSpec.upto fnExactBoxNestSpec)

end Rows
end Go.Proofs.Ytabkhiakekammab
