/-
  NARROWER THAN 'FOR EVERY INPUT', by the rows' own cells (each row's printed sentence says how): FnExactStmtValid: loops · FnExactStmtDepth: loops · FnExactStmtSame: loops.
  DERIVED. THE GIVEN ROWS OF THIS SEAT. 9 by the template 'for every input the law returns true; each argument reads behind the call as it read before'; 0 by the template 'total and deterministic' (their statements: YtkcbnkgegopkhaaTotals.lean).
  GIVEN WITH THE SEED: the statements are not yours to turn. If you find one false, say at which input.
  Laid BY PROGRAM, IN A SANDBOX (cutbox-rows.mjs): the forced cells as the released guide's own fill.sh prints them over the translation 64ad9e419ea2d173… (all of the seat's roots in one cut). By AI agents, Wed Nov 11 2026. No macro, syntax, notation, axiom, sorry.
-/
import Derived.Test.YtkcbnkgegopkhaaChecked
import GoSem.Claim
import GoSem.ClaimJoined
import GoSem.ClaimMapViews
import Derived.JoinedTies
import Derived.KernelRfl
namespace Go.Proofs.Ytkcbnkgegopkhaa
/- THE CELL 'sum', in the pinned program and in every row, IS THE sha256 OF THE DUMP (.gsa) THAT YtkcbnkgegopkhaaProg.lean LOADS. Nothing in Lean hashes anything: it is a label: what it is worth is what the hold of that sum in a sandbox is worth. -/
noncomputable def Try.pinned : Pinned := { name := "ytkcbnkgegopkhaa", sum := "64ad9e419ea2d1735e61a5385ea9875b45c748edb979bad84449e3b1297f2def", checked := Try.checked }
namespace Rows
def none {H : Type} : Left H := { results := [], args := [] }

/-- 'laws.FnExactNestPoints': WHATEVER THE INPUT: true; the input reads as it did. -/
def fnExactNestPointsSpec : ChangeSpec := { name := "fnExactNestPoints", fn := fun _ => fun
  | [d] => { results := [.lit (.bool true)], args := [d] }
  | _ => none }
def fnExactNestPointsRow : OpenClaim := { program := "ytkcbnkgegopkhaa", sum := "64ad9e419ea2d1735e61a5385ea9875b45c748edb979bad84449e3b1297f2def", func := "loop.example/loopnests/laws.FnExactNestPoints", spec := "fnExactNestPoints", unfollowed := true, recurses := true, plainKeys := false, apart := false }
def FnExactNestPointsSaid : Prop := fnExactNestPointsRow.holds Try.pinned (OpenSpec.ofChange fnExactNestPointsSpec)

/-- ITS FALSE NEIGHBOUR: 'it returns false'. Refute it at one input. -/
def fnExactNestPointsWrong : ChangeSpec := { name := "fnExactNestPoints", fn := fun _ => fun
  | [d] => { results := [.lit (.bool false)], args := [d] }
  | _ => none }
def FnExactNestPointsWrongFalsely : Prop := fnExactNestPointsRow.holds Try.pinned (OpenSpec.ofChange fnExactNestPointsWrong)

/-- 'laws.FnNestPoints': WHATEVER THE INPUT: true; the input reads as it did. -/
def fnNestPointsSpec : ChangeSpec := { name := "fnNestPoints", fn := fun _ => fun
  | [d] => { results := [.lit (.bool true)], args := [d] }
  | _ => none }
def fnNestPointsRow : OpenClaim := { program := "ytkcbnkgegopkhaa", sum := "64ad9e419ea2d1735e61a5385ea9875b45c748edb979bad84449e3b1297f2def", func := "loop.example/loopnests/laws.FnNestPoints", spec := "fnNestPoints", unfollowed := true, recurses := true, plainKeys := false, apart := false }
def FnNestPointsSaid : Prop := fnNestPointsRow.holds Try.pinned (OpenSpec.ofChange fnNestPointsSpec)

/-- ITS FALSE NEIGHBOUR: 'it returns false'. Refute it at one input. -/
def fnNestPointsWrong : ChangeSpec := { name := "fnNestPoints", fn := fun _ => fun
  | [d] => { results := [.lit (.bool false)], args := [d] }
  | _ => none }
def FnNestPointsWrongFalsely : Prop := fnNestPointsRow.holds Try.pinned (OpenSpec.ofChange fnNestPointsWrong)

/-- 'laws.FnPointIn': WHATEVER THE INPUT: true; the input reads as it did. -/
def fnPointInSpec : ChangeSpec := { name := "fnPointIn", fn := fun _ => fun
  | [d] => { results := [.lit (.bool true)], args := [d] }
  | _ => none }
def fnPointInRow : OpenClaim := { program := "ytkcbnkgegopkhaa", sum := "64ad9e419ea2d1735e61a5385ea9875b45c748edb979bad84449e3b1297f2def", func := "loop.example/loopnests/laws.FnPointIn", spec := "fnPointIn", unfollowed := true, recurses := true, plainKeys := false, apart := false }
def FnPointInSaid : Prop := fnPointInRow.holds Try.pinned (OpenSpec.ofChange fnPointInSpec)

/-- ITS FALSE NEIGHBOUR: 'it returns false'. Refute it at one input. -/
def fnPointInWrong : ChangeSpec := { name := "fnPointIn", fn := fun _ => fun
  | [d] => { results := [.lit (.bool false)], args := [d] }
  | _ => none }
def FnPointInWrongFalsely : Prop := fnPointInRow.holds Try.pinned (OpenSpec.ofChange fnPointInWrong)

/-- 'laws.FnBoxNest': WHATEVER THE INPUT: true; the input reads as it did. -/
def fnBoxNestSpec : ChangeSpec := { name := "fnBoxNest", fn := fun _ => fun
  | [d] => { results := [.lit (.bool true)], args := [d] }
  | _ => none }
def fnBoxNestRow : OpenClaim := { program := "ytkcbnkgegopkhaa", sum := "64ad9e419ea2d1735e61a5385ea9875b45c748edb979bad84449e3b1297f2def", func := "loop.example/loopnests/laws.FnBoxNest", spec := "fnBoxNest", unfollowed := true, recurses := true, plainKeys := false, apart := false }
def FnBoxNestSaid : Prop := fnBoxNestRow.holds Try.pinned (OpenSpec.ofChange fnBoxNestSpec)

/-- ITS FALSE NEIGHBOUR: 'it returns false'. Refute it at one input. -/
def fnBoxNestWrong : ChangeSpec := { name := "fnBoxNest", fn := fun _ => fun
  | [d] => { results := [.lit (.bool false)], args := [d] }
  | _ => none }
def FnBoxNestWrongFalsely : Prop := fnBoxNestRow.holds Try.pinned (OpenSpec.ofChange fnBoxNestWrong)

/-- 'laws.FnNestPrefix': WHATEVER THE INPUT: true; the input reads as it did. -/
def fnNestPrefixSpec : ChangeSpec := { name := "fnNestPrefix", fn := fun _ => fun
  | [d1, d2] => { results := [.lit (.bool true)], args := [d1, d2] }
  | _ => none }
def fnNestPrefixRow : OpenClaim := { program := "ytkcbnkgegopkhaa", sum := "64ad9e419ea2d1735e61a5385ea9875b45c748edb979bad84449e3b1297f2def", func := "loop.example/loopnests/laws.FnNestPrefix", spec := "fnNestPrefix", unfollowed := true, recurses := true, plainKeys := false, apart := false }
def FnNestPrefixSaid : Prop := fnNestPrefixRow.holds Try.pinned (OpenSpec.ofChange fnNestPrefixSpec)

/-- ITS FALSE NEIGHBOUR: 'it returns false'. Refute it at one input. -/
def fnNestPrefixWrong : ChangeSpec := { name := "fnNestPrefix", fn := fun _ => fun
  | [d1, d2] => { results := [.lit (.bool false)], args := [d1, d2] }
  | _ => none }
def FnNestPrefixWrongFalsely : Prop := fnNestPrefixRow.holds Try.pinned (OpenSpec.ofChange fnNestPrefixWrong)

/-- 'laws.FnNestCount': WHATEVER THE INPUT: true; the input reads as it did. -/
def fnNestCountSpec : ChangeSpec := { name := "fnNestCount", fn := fun _ => fun
  | [d] => { results := [.lit (.bool true)], args := [d] }
  | _ => none }
def fnNestCountRow : OpenClaim := { program := "ytkcbnkgegopkhaa", sum := "64ad9e419ea2d1735e61a5385ea9875b45c748edb979bad84449e3b1297f2def", func := "loop.example/loopnests/laws.FnNestCount", spec := "fnNestCount", unfollowed := true, recurses := true, plainKeys := false, apart := false }
def FnNestCountSaid : Prop := fnNestCountRow.holds Try.pinned (OpenSpec.ofChange fnNestCountSpec)

/-- ITS FALSE NEIGHBOUR: 'it returns false'. Refute it at one input. -/
def fnNestCountWrong : ChangeSpec := { name := "fnNestCount", fn := fun _ => fun
  | [d] => { results := [.lit (.bool false)], args := [d] }
  | _ => none }
def FnNestCountWrongFalsely : Prop := fnNestCountRow.holds Try.pinned (OpenSpec.ofChange fnNestCountWrong)

/-- 'laws.FnExactStmtValid': WHATEVER THE INPUT: true; the input reads as it did. -/
def fnExactStmtValidSpec : ChangeSpec := { name := "fnExactStmtValid", fn := fun _ => fun
  | [d1, d2] => { results := [.lit (.bool true)], args := [d1, d2] }
  | _ => none }
def fnExactStmtValidRow : OpenClaim := { program := "ytkcbnkgegopkhaa", sum := "64ad9e419ea2d1735e61a5385ea9875b45c748edb979bad84449e3b1297f2def", func := "loop.example/loopnests/laws.FnExactStmtValid", spec := "fnExactStmtValid", inPlace := ["internal/bytealg.IndexByteString", "internal/bytealg.IndexString"], unfollowed := true, recurses := true, named := ["internal/bytealg.MaxLen"], loops := true, plainKeys := false, apart := false }
def FnExactStmtValidSaid : Prop := fnExactStmtValidRow.holds Try.pinned (OpenSpec.ofChange fnExactStmtValidSpec)

/-- ITS FALSE NEIGHBOUR: 'it returns false'. Refute it at one input. -/
def fnExactStmtValidWrong : ChangeSpec := { name := "fnExactStmtValid", fn := fun _ => fun
  | [d1, d2] => { results := [.lit (.bool false)], args := [d1, d2] }
  | _ => none }
def FnExactStmtValidWrongFalsely : Prop := fnExactStmtValidRow.holds Try.pinned (OpenSpec.ofChange fnExactStmtValidWrong)

/-- 'laws.FnExactStmtDepth': WHATEVER THE INPUT: true; the input reads as it did. -/
def fnExactStmtDepthSpec : ChangeSpec := { name := "fnExactStmtDepth", fn := fun _ => fun
  | [d] => { results := [.lit (.bool true)], args := [d] }
  | _ => none }
def fnExactStmtDepthRow : OpenClaim := { program := "ytkcbnkgegopkhaa", sum := "64ad9e419ea2d1735e61a5385ea9875b45c748edb979bad84449e3b1297f2def", func := "loop.example/loopnests/laws.FnExactStmtDepth", spec := "fnExactStmtDepth", inPlace := ["internal/bytealg.IndexByteString", "internal/bytealg.IndexString"], unfollowed := true, recurses := true, named := ["internal/bytealg.MaxLen"], loops := true, plainKeys := false, apart := false }
def FnExactStmtDepthSaid : Prop := fnExactStmtDepthRow.holds Try.pinned (OpenSpec.ofChange fnExactStmtDepthSpec)

/-- ITS FALSE NEIGHBOUR: 'it returns false'. Refute it at one input. -/
def fnExactStmtDepthWrong : ChangeSpec := { name := "fnExactStmtDepth", fn := fun _ => fun
  | [d] => { results := [.lit (.bool false)], args := [d] }
  | _ => none }
def FnExactStmtDepthWrongFalsely : Prop := fnExactStmtDepthRow.holds Try.pinned (OpenSpec.ofChange fnExactStmtDepthWrong)

/-- 'laws.FnExactStmtSame': WHATEVER THE INPUT: true; the input reads as it did. -/
def fnExactStmtSameSpec : ChangeSpec := { name := "fnExactStmtSame", fn := fun _ => fun
  | [d1, d2] => { results := [.lit (.bool true)], args := [d1, d2] }
  | _ => none }
def fnExactStmtSameRow : OpenClaim := { program := "ytkcbnkgegopkhaa", sum := "64ad9e419ea2d1735e61a5385ea9875b45c748edb979bad84449e3b1297f2def", func := "loop.example/loopnests/laws.FnExactStmtSame", spec := "fnExactStmtSame", unfollowed := true, recurses := true, loops := true, plainKeys := false, apart := false }
def FnExactStmtSameSaid : Prop := fnExactStmtSameRow.holds Try.pinned (OpenSpec.ofChange fnExactStmtSameSpec)

/-- ITS FALSE NEIGHBOUR: 'it returns false'. Refute it at one input. -/
def fnExactStmtSameWrong : ChangeSpec := { name := "fnExactStmtSame", fn := fun _ => fun
  | [d1, d2] => { results := [.lit (.bool false)], args := [d1, d2] }
  | _ => none }
def FnExactStmtSameWrongFalsely : Prop := fnExactStmtSameRow.holds Try.pinned (OpenSpec.ofChange fnExactStmtSameWrong)

/- THE SECOND FORM. 'bulk': how many values and letters a reading holds, each counted each time it is reached (what is shared counts as often as it is met; a slice's spare places count too). A statement '..UptoSaid' is the law's where the arguments, and the package variables that the reading takes, are together of bulk at most 1048576: NARROWER than '..Said'. Prove '..Said' where nothing that the law and all that it calls make is longer than what came in: it says more and counts as full. Else prove '..UptoSaid'. A law counts once. -/
mutual
def uptoBulk {H : Type} : DataW H → Nat
  | .lit (.string bytes) => bytes.length + 1
  | .lit _ => 1
  | .nil => 1
  | .ptr d => uptoBulk d + 1
  | .slice elems spare => uptoBulkAll elems + uptoBulkAll spare + 1
  | .agg parts => uptoBulkAll parts + 1
  | .iface _ d => uptoBulk d + 1
  | .map entries => uptoBulkEntries entries + 1
  | .held _ => 1
def uptoBulkAll {H : Type} : List (DataW H) → Nat
  | [] => 0
  | d :: r => uptoBulk d + uptoBulkAll r
def uptoBulkEntries {H : Type} : List (Lit × DataW H) → Nat
  | [] => 0
  | x :: r => uptoBulkEntry x + uptoBulkEntries r
def uptoBulkEntry {H : Type} : Lit × DataW H → Nat
  | (.string bytes, d) => bytes.length + uptoBulk d + 1
  | (_, d) => uptoBulk d + 1
 end
def uptoSmall : (H : Type) → List (DataW H) → Bool := fun _ ds => decide (uptoBulkAll ds ≤ 1048576)
def OpenSpec.upto (s : _root_.Go.ChangeSpec) : _root_.Go.OpenSpec := { _root_.Go.OpenSpec.ofChange s with cond := some uptoSmall }

/-- 'laws.FnExactNestPoints', WHERE WHAT IT READS IS OF BULK AT MOST 1048576: true; the input reads as it did. -/
def fnExactNestPointsUptoRow : OpenClaim := { program := "ytkcbnkgegopkhaa", sum := "64ad9e419ea2d1735e61a5385ea9875b45c748edb979bad84449e3b1297f2def", func := "loop.example/loopnests/laws.FnExactNestPoints", spec := "fnExactNestPoints", unfollowed := true, recurses := true, plainKeys := false, apart := false, narrowed := true }
def FnExactNestPointsUptoSaid : Prop := fnExactNestPointsUptoRow.holds Try.pinned (OpenSpec.upto fnExactNestPointsSpec)

/-- 'laws.FnNestPoints', WHERE WHAT IT READS IS OF BULK AT MOST 1048576: true; the input reads as it did. -/
def fnNestPointsUptoRow : OpenClaim := { program := "ytkcbnkgegopkhaa", sum := "64ad9e419ea2d1735e61a5385ea9875b45c748edb979bad84449e3b1297f2def", func := "loop.example/loopnests/laws.FnNestPoints", spec := "fnNestPoints", unfollowed := true, recurses := true, plainKeys := false, apart := false, narrowed := true }
def FnNestPointsUptoSaid : Prop := fnNestPointsUptoRow.holds Try.pinned (OpenSpec.upto fnNestPointsSpec)

/-- 'laws.FnPointIn', WHERE WHAT IT READS IS OF BULK AT MOST 1048576: true; the input reads as it did. -/
def fnPointInUptoRow : OpenClaim := { program := "ytkcbnkgegopkhaa", sum := "64ad9e419ea2d1735e61a5385ea9875b45c748edb979bad84449e3b1297f2def", func := "loop.example/loopnests/laws.FnPointIn", spec := "fnPointIn", unfollowed := true, recurses := true, plainKeys := false, apart := false, narrowed := true }
def FnPointInUptoSaid : Prop := fnPointInUptoRow.holds Try.pinned (OpenSpec.upto fnPointInSpec)

/-- 'laws.FnBoxNest', WHERE WHAT IT READS IS OF BULK AT MOST 1048576: true; the input reads as it did. -/
def fnBoxNestUptoRow : OpenClaim := { program := "ytkcbnkgegopkhaa", sum := "64ad9e419ea2d1735e61a5385ea9875b45c748edb979bad84449e3b1297f2def", func := "loop.example/loopnests/laws.FnBoxNest", spec := "fnBoxNest", unfollowed := true, recurses := true, plainKeys := false, apart := false, narrowed := true }
def FnBoxNestUptoSaid : Prop := fnBoxNestUptoRow.holds Try.pinned (OpenSpec.upto fnBoxNestSpec)

/-- 'laws.FnNestPrefix', WHERE WHAT IT READS IS OF BULK AT MOST 1048576: true; the input reads as it did. -/
def fnNestPrefixUptoRow : OpenClaim := { program := "ytkcbnkgegopkhaa", sum := "64ad9e419ea2d1735e61a5385ea9875b45c748edb979bad84449e3b1297f2def", func := "loop.example/loopnests/laws.FnNestPrefix", spec := "fnNestPrefix", unfollowed := true, recurses := true, plainKeys := false, apart := false, narrowed := true }
def FnNestPrefixUptoSaid : Prop := fnNestPrefixUptoRow.holds Try.pinned (OpenSpec.upto fnNestPrefixSpec)

/-- 'laws.FnNestCount', WHERE WHAT IT READS IS OF BULK AT MOST 1048576: true; the input reads as it did. -/
def fnNestCountUptoRow : OpenClaim := { program := "ytkcbnkgegopkhaa", sum := "64ad9e419ea2d1735e61a5385ea9875b45c748edb979bad84449e3b1297f2def", func := "loop.example/loopnests/laws.FnNestCount", spec := "fnNestCount", unfollowed := true, recurses := true, plainKeys := false, apart := false, narrowed := true }
def FnNestCountUptoSaid : Prop := fnNestCountUptoRow.holds Try.pinned (OpenSpec.upto fnNestCountSpec)

/-- 'laws.FnExactStmtValid', WHERE WHAT IT READS IS OF BULK AT MOST 1048576: true; the input reads as it did. -/
def fnExactStmtValidUptoRow : OpenClaim := { program := "ytkcbnkgegopkhaa", sum := "64ad9e419ea2d1735e61a5385ea9875b45c748edb979bad84449e3b1297f2def", func := "loop.example/loopnests/laws.FnExactStmtValid", spec := "fnExactStmtValid", inPlace := ["internal/bytealg.IndexByteString", "internal/bytealg.IndexString"], unfollowed := true, recurses := true, named := ["internal/bytealg.MaxLen"], loops := true, plainKeys := false, apart := false, narrowed := true }
def FnExactStmtValidUptoSaid : Prop := fnExactStmtValidUptoRow.holds Try.pinned (OpenSpec.upto fnExactStmtValidSpec)

/-- 'laws.FnExactStmtDepth', WHERE WHAT IT READS IS OF BULK AT MOST 1048576: true; the input reads as it did. -/
def fnExactStmtDepthUptoRow : OpenClaim := { program := "ytkcbnkgegopkhaa", sum := "64ad9e419ea2d1735e61a5385ea9875b45c748edb979bad84449e3b1297f2def", func := "loop.example/loopnests/laws.FnExactStmtDepth", spec := "fnExactStmtDepth", inPlace := ["internal/bytealg.IndexByteString", "internal/bytealg.IndexString"], unfollowed := true, recurses := true, named := ["internal/bytealg.MaxLen"], loops := true, plainKeys := false, apart := false, narrowed := true }
def FnExactStmtDepthUptoSaid : Prop := fnExactStmtDepthUptoRow.holds Try.pinned (OpenSpec.upto fnExactStmtDepthSpec)

/-- 'laws.FnExactStmtSame', WHERE WHAT IT READS IS OF BULK AT MOST 1048576: true; the input reads as it did. -/
def fnExactStmtSameUptoRow : OpenClaim := { program := "ytkcbnkgegopkhaa", sum := "64ad9e419ea2d1735e61a5385ea9875b45c748edb979bad84449e3b1297f2def", func := "loop.example/loopnests/laws.FnExactStmtSame", spec := "fnExactStmtSame", unfollowed := true, recurses := true, loops := true, plainKeys := false, apart := false, narrowed := true }
def FnExactStmtSameUptoSaid : Prop := fnExactStmtSameUptoRow.holds Try.pinned (OpenSpec.upto fnExactStmtSameSpec)

end Rows
end Go.Proofs.Ytkcbnkgegopkhaa
