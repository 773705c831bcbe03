/-
  No cell of these rows narrows 'for every input' (looked for: loops, veiled, ifaces, maps, wideKeys, modest, calm, conditions, laid).
  DERIVED. THE GIVEN ROWS OF THIS SEAT. 3 by the template 'for every input the law returns true; each argument reads behind the call as it read before'; 0 by the template 'total and deterministic' (their statements: YtclgbnilfipobabTotals.lean).
  GIVEN WITH THE SEED: the statements are not yours to turn. If you find one false, say at which input.
  Laid BY PROGRAM, IN A SANDBOX (cutbox-rows.mjs): the forced cells as the released guide's own fill.sh prints them over the translation 22a981f4feb194b8… (all of the seat's roots in one cut). By AI agents, Wed Nov 11 2026. No macro, syntax, notation, axiom, sorry.
-/
import Derived.Test.YtclgbnilfipobabChecked
import GoSem.Claim
import GoSem.ClaimJoined
import GoSem.ClaimMapViews
import Derived.JoinedTies
import Derived.KernelRfl
namespace Go.Proofs.Ytclgbnilfipobab
/- THE CELL 'sum', in the pinned program and in every row, IS THE sha256 OF THE DUMP (.gsa) THAT YtclgbnilfipobabProg.lean LOADS. Nothing in Lean hashes anything: it is a label: what it is worth is what the hold of that sum in a sandbox is worth. -/
noncomputable def Try.pinned : Pinned := { name := "ytclgbnilfipobab", sum := "22a981f4feb194b8e1796a1b2731b87b8bd9bda2b62fdd4267497e771df572b2", checked := Try.checked }
namespace Rows
def none {H : Type} : Left H := { results := [], args := [] }

/-- 'laws.FnExactCarryLevel': WHATEVER THE INPUT: true; the input reads as it did. -/
def fnExactCarryLevelSpec : ChangeSpec := { name := "fnExactCarryLevel", fn := fun _ => fun
  | [d] => { results := [.lit (.bool true)], args := [d] }
  | _ => none }
def fnExactCarryLevelRow : OpenClaim := { program := "ytclgbnilfipobab", sum := "22a981f4feb194b8e1796a1b2731b87b8bd9bda2b62fdd4267497e771df572b2", func := "loop.example/loopnests/laws.FnExactCarryLevel", spec := "fnExactCarryLevel", unfollowed := true, recurses := true, apart := false }
def FnExactCarryLevelSaid : Prop := fnExactCarryLevelRow.holds Try.pinned (OpenSpec.ofChange fnExactCarryLevelSpec)

/-- ITS FALSE NEIGHBOUR: 'it returns false'. Refute it at one input. -/
def fnExactCarryLevelWrong : ChangeSpec := { name := "fnExactCarryLevel", fn := fun _ => fun
  | [d] => { results := [.lit (.bool false)], args := [d] }
  | _ => none }
def FnExactCarryLevelWrongFalsely : Prop := fnExactCarryLevelRow.holds Try.pinned (OpenSpec.ofChange fnExactCarryLevelWrong)

/-- 'laws.FnExactDirection': WHATEVER THE INPUT: true; the input reads as it did. -/
def fnExactDirectionSpec : ChangeSpec := { name := "fnExactDirection", fn := fun _ => fun
  | [d] => { results := [.lit (.bool true)], args := [d] }
  | _ => none }
def fnExactDirectionRow : OpenClaim := { program := "ytclgbnilfipobab", sum := "22a981f4feb194b8e1796a1b2731b87b8bd9bda2b62fdd4267497e771df572b2", func := "loop.example/loopnests/laws.FnExactDirection", spec := "fnExactDirection", inPlace := ["internal/abi.NoEscape"], apart := false }
def FnExactDirectionSaid : Prop := fnExactDirectionRow.holds Try.pinned (OpenSpec.ofChange fnExactDirectionSpec)

/-- ITS FALSE NEIGHBOUR: 'it returns false'. Refute it at one input. -/
def fnExactDirectionWrong : ChangeSpec := { name := "fnExactDirection", fn := fun _ => fun
  | [d] => { results := [.lit (.bool false)], args := [d] }
  | _ => none }
def FnExactDirectionWrongFalsely : Prop := fnExactDirectionRow.holds Try.pinned (OpenSpec.ofChange fnExactDirectionWrong)

/-- 'laws.FnDirection': WHATEVER THE INPUT: true; the input reads as it did. -/
def fnDirectionSpec : ChangeSpec := { name := "fnDirection", fn := fun _ => fun
  | [d] => { results := [.lit (.bool true)], args := [d] }
  | _ => none }
def fnDirectionRow : OpenClaim := { program := "ytclgbnilfipobab", sum := "22a981f4feb194b8e1796a1b2731b87b8bd9bda2b62fdd4267497e771df572b2", func := "loop.example/loopnests/laws.FnDirection", spec := "fnDirection", inPlace := ["internal/abi.NoEscape"], unfollowed := true, recurses := true, apart := false }
def FnDirectionSaid : Prop := fnDirectionRow.holds Try.pinned (OpenSpec.ofChange fnDirectionSpec)

/-- ITS FALSE NEIGHBOUR: 'it returns false'. Refute it at one input. -/
def fnDirectionWrong : ChangeSpec := { name := "fnDirection", fn := fun _ => fun
  | [d] => { results := [.lit (.bool false)], args := [d] }
  | _ => none }
def FnDirectionWrongFalsely : Prop := fnDirectionRow.holds Try.pinned (OpenSpec.ofChange fnDirectionWrong)

/- THE SECOND FORM. 'bulk': how many values and letters a reading holds, each counted each time it is reached (what is shared counts as often as it is met; a slice's spare places count too). A statement '..UptoSaid' is the law's where the arguments, and the package variables that the reading takes, are together of bulk at most 1048576: NARROWER than '..Said'. Prove '..Said' where nothing that the law and all that it calls make is longer than what came in: it says more and counts as full. Else prove '..UptoSaid'. A law counts once. -/
mutual
def uptoBulk {H : Type} : DataW H → Nat
  | .lit (.string bytes) => bytes.length + 1
  | .lit _ => 1
  | .nil => 1
  | .ptr d => uptoBulk d + 1
  | .slice elems spare => uptoBulkAll elems + uptoBulkAll spare + 1
  | .agg parts => uptoBulkAll parts + 1
  | .iface _ d => uptoBulk d + 1
  | .map entries => uptoBulkEntries entries + 1
  | .held _ => 1
def uptoBulkAll {H : Type} : List (DataW H) → Nat
  | [] => 0
  | d :: r => uptoBulk d + uptoBulkAll r
def uptoBulkEntries {H : Type} : List (Lit × DataW H) → Nat
  | [] => 0
  | x :: r => uptoBulkEntry x + uptoBulkEntries r
def uptoBulkEntry {H : Type} : Lit × DataW H → Nat
  | (.string bytes, d) => bytes.length + uptoBulk d + 1
  | (_, d) => uptoBulk d + 1
 end
def uptoSmall : (H : Type) → List (DataW H) → Bool := fun _ ds => decide (uptoBulkAll ds ≤ 1048576)
def OpenSpec.upto (s : _root_.Go.ChangeSpec) : _root_.Go.OpenSpec := { _root_.Go.OpenSpec.ofChange s with cond := some uptoSmall }

/-- 'laws.FnExactCarryLevel', WHERE WHAT IT READS IS OF BULK AT MOST 1048576: true; the input reads as it did. -/
def fnExactCarryLevelUptoRow : OpenClaim := { program := "ytclgbnilfipobab", sum := "22a981f4feb194b8e1796a1b2731b87b8bd9bda2b62fdd4267497e771df572b2", func := "loop.example/loopnests/laws.FnExactCarryLevel", spec := "fnExactCarryLevel", unfollowed := true, recurses := true, apart := false, narrowed := true }
def FnExactCarryLevelUptoSaid : Prop := fnExactCarryLevelUptoRow.holds Try.pinned (OpenSpec.upto fnExactCarryLevelSpec)

/-- 'laws.FnExactDirection', WHERE WHAT IT READS IS OF BULK AT MOST 1048576: true; the input reads as it did. -/
def fnExactDirectionUptoRow : OpenClaim := { program := "ytclgbnilfipobab", sum := "22a981f4feb194b8e1796a1b2731b87b8bd9bda2b62fdd4267497e771df572b2", func := "loop.example/loopnests/laws.FnExactDirection", spec := "fnExactDirection", inPlace := ["internal/abi.NoEscape"], apart := false, narrowed := true }
def FnExactDirectionUptoSaid : Prop := fnExactDirectionUptoRow.holds Try.pinned (OpenSpec.upto fnExactDirectionSpec)

/-- 'laws.FnDirection', WHERE WHAT IT READS IS OF BULK AT MOST 1048576: true; the input reads as it did. -/
def fnDirectionUptoRow : OpenClaim := { program := "ytclgbnilfipobab", sum := "22a981f4feb194b8e1796a1b2731b87b8bd9bda2b62fdd4267497e771df572b2", func := "loop.example/loopnests/laws.FnDirection", spec := "fnDirection", inPlace := ["internal/abi.NoEscape"], unfollowed := true, recurses := true, apart := false, narrowed := true }
def FnDirectionUptoSaid : Prop := fnDirectionUptoRow.holds Try.pinned (OpenSpec.upto fnDirectionSpec)

end Rows
end Go.Proofs.Ytclgbnilfipobab
