/-
  No cell of these rows narrows 'for every input' (looked for: loops, veiled, ifaces, maps, wideKeys, modest, calm, conditions, laid).
  DERIVED. THE GIVEN ROWS OF THIS SEAT. 4 by the template 'for every input the law returns true; each argument reads behind the call as it read before'; 0 by the template 'total and deterministic' (their statements: YtccibfldadflkaaTotals.lean).
  GIVEN WITH THE SEED: the statements are not yours to turn. If you find one false, say at which input.
  Laid BY PROGRAM, IN A SANDBOX (cutbox-rows.mjs): the forced cells as the released guide's own fill.sh prints them over the translation 95b1db7088d9613d… (all of the seat's roots in one cut). By AI agents, Wed Nov 11 2026. No macro, syntax, notation, axiom, sorry.
-/
import Derived.Test.YtccibfldadflkaaChecked
import GoSem.Claim
import GoSem.ClaimJoined
import GoSem.ClaimMapViews
import Derived.JoinedTies
import Derived.KernelRfl
namespace Go.Proofs.Ytccibfldadflkaa
/- THE CELL 'sum', in the pinned program and in every row, IS THE sha256 OF THE DUMP (.gsa) THAT YtccibfldadflkaaProg.lean LOADS. Nothing in Lean hashes anything: it is a label: what it is worth is what the hold of that sum in a sandbox is worth. -/
noncomputable def Try.pinned : Pinned := { name := "ytccibfldadflkaa", sum := "95b1db7088d9613dc7414d8714438693b4c219346d4a242c7c65e479b3f4cbfd", checked := Try.checked }
namespace Rows
def none {H : Type} : Left H := { results := [], args := [] }

/-- 'laws.FnExactBestMisses': WHATEVER THE INPUT: true; the input reads as it did. -/
def fnExactBestMissesSpec : ChangeSpec := { name := "fnExactBestMisses", fn := fun _ => fun
  | [d1, d2] => { results := [.lit (.bool true)], args := [d1, d2] }
  | _ => none }
def fnExactBestMissesRow : OpenClaim := { program := "ytccibfldadflkaa", sum := "95b1db7088d9613dc7414d8714438693b4c219346d4a242c7c65e479b3f4cbfd", func := "loop.example/loopnests/laws.FnExactBestMisses", spec := "fnExactBestMisses", unfollowed := true, recurses := true, apart := false }
def FnExactBestMissesSaid : Prop := fnExactBestMissesRow.holds Try.pinned (OpenSpec.ofChange fnExactBestMissesSpec)

/-- ITS FALSE NEIGHBOUR: 'it returns false'. Refute it at one input. -/
def fnExactBestMissesWrong : ChangeSpec := { name := "fnExactBestMisses", fn := fun _ => fun
  | [d1, d2] => { results := [.lit (.bool false)], args := [d1, d2] }
  | _ => none }
def FnExactBestMissesWrongFalsely : Prop := fnExactBestMissesRow.holds Try.pinned (OpenSpec.ofChange fnExactBestMissesWrong)

/-- 'laws.FnExactSubscriptRange': WHATEVER THE INPUT: true; the input reads as it did. -/
def fnExactSubscriptRangeSpec : ChangeSpec := { name := "fnExactSubscriptRange", fn := fun _ => fun
  | [d1, d2] => { results := [.lit (.bool true)], args := [d1, d2] }
  | _ => none }
def fnExactSubscriptRangeRow : OpenClaim := { program := "ytccibfldadflkaa", sum := "95b1db7088d9613dc7414d8714438693b4c219346d4a242c7c65e479b3f4cbfd", func := "loop.example/loopnests/laws.FnExactSubscriptRange", spec := "fnExactSubscriptRange", unfollowed := true, recurses := true, apart := false }
def FnExactSubscriptRangeSaid : Prop := fnExactSubscriptRangeRow.holds Try.pinned (OpenSpec.ofChange fnExactSubscriptRangeSpec)

/-- ITS FALSE NEIGHBOUR: 'it returns false'. Refute it at one input. -/
def fnExactSubscriptRangeWrong : ChangeSpec := { name := "fnExactSubscriptRange", fn := fun _ => fun
  | [d1, d2] => { results := [.lit (.bool false)], args := [d1, d2] }
  | _ => none }
def FnExactSubscriptRangeWrongFalsely : Prop := fnExactSubscriptRangeRow.holds Try.pinned (OpenSpec.ofChange fnExactSubscriptRangeWrong)

/-- 'laws.FnSubscriptRange': WHATEVER THE INPUT: true; the input reads as it did. -/
def fnSubscriptRangeSpec : ChangeSpec := { name := "fnSubscriptRange", fn := fun _ => fun
  | [d] => { results := [.lit (.bool true)], args := [d] }
  | _ => none }
def fnSubscriptRangeRow : OpenClaim := { program := "ytccibfldadflkaa", sum := "95b1db7088d9613dc7414d8714438693b4c219346d4a242c7c65e479b3f4cbfd", func := "loop.example/loopnests/laws.FnSubscriptRange", spec := "fnSubscriptRange", unfollowed := true, recurses := true, apart := false }
def FnSubscriptRangeSaid : Prop := fnSubscriptRangeRow.holds Try.pinned (OpenSpec.ofChange fnSubscriptRangeSpec)

/-- ITS FALSE NEIGHBOUR: 'it returns false'. Refute it at one input. -/
def fnSubscriptRangeWrong : ChangeSpec := { name := "fnSubscriptRange", fn := fun _ => fun
  | [d] => { results := [.lit (.bool false)], args := [d] }
  | _ => none }
def FnSubscriptRangeWrongFalsely : Prop := fnSubscriptRangeRow.holds Try.pinned (OpenSpec.ofChange fnSubscriptRangeWrong)

/-- 'laws.FnStmtValid': WHATEVER THE INPUT: true; the input reads as it did. -/
def fnStmtValidSpec : ChangeSpec := { name := "fnStmtValid", fn := fun _ => fun
  | [d] => { results := [.lit (.bool true)], args := [d] }
  | _ => none }
def fnStmtValidRow : OpenClaim := { program := "ytccibfldadflkaa", sum := "95b1db7088d9613dc7414d8714438693b4c219346d4a242c7c65e479b3f4cbfd", func := "loop.example/loopnests/laws.FnStmtValid", spec := "fnStmtValid", inPlace := ["internal/bytealg.IndexByteString", "internal/bytealg.IndexString"], unfollowed := true, recurses := true, named := ["internal/bytealg.MaxLen"], apart := false }
def FnStmtValidSaid : Prop := fnStmtValidRow.holds Try.pinned (OpenSpec.ofChange fnStmtValidSpec)

/-- ITS FALSE NEIGHBOUR: 'it returns false'. Refute it at one input. -/
def fnStmtValidWrong : ChangeSpec := { name := "fnStmtValid", fn := fun _ => fun
  | [d] => { results := [.lit (.bool false)], args := [d] }
  | _ => none }
def FnStmtValidWrongFalsely : Prop := fnStmtValidRow.holds Try.pinned (OpenSpec.ofChange fnStmtValidWrong)

/- THE SECOND FORM. 'bulk': how many values and letters a reading holds, each counted each time it is reached (what is shared counts as often as it is met; a slice's spare places count too). A statement '..UptoSaid' is the law's where the arguments, and the package variables that the reading takes, are together of bulk at most 1048576: NARROWER than '..Said'. Prove '..Said' where nothing that the law and all that it calls make is longer than what came in: it says more and counts as full. Else prove '..UptoSaid'. A law counts once. -/
mutual
def uptoBulk {H : Type} : DataW H → Nat
  | .lit (.string bytes) => bytes.length + 1
  | .lit _ => 1
  | .nil => 1
  | .ptr d => uptoBulk d + 1
  | .slice elems spare => uptoBulkAll elems + uptoBulkAll spare + 1
  | .agg parts => uptoBulkAll parts + 1
  | .iface _ d => uptoBulk d + 1
  | .map entries => uptoBulkEntries entries + 1
  | .held _ => 1
def uptoBulkAll {H : Type} : List (DataW H) → Nat
  | [] => 0
  | d :: r => uptoBulk d + uptoBulkAll r
def uptoBulkEntries {H : Type} : List (Lit × DataW H) → Nat
  | [] => 0
  | x :: r => uptoBulkEntry x + uptoBulkEntries r
def uptoBulkEntry {H : Type} : Lit × DataW H → Nat
  | (.string bytes, d) => bytes.length + uptoBulk d + 1
  | (_, d) => uptoBulk d + 1
 end
def uptoSmall : (H : Type) → List (DataW H) → Bool := fun _ ds => decide (uptoBulkAll ds ≤ 1048576)
def OpenSpec.upto (s : _root_.Go.ChangeSpec) : _root_.Go.OpenSpec := { _root_.Go.OpenSpec.ofChange s with cond := some uptoSmall }

/-- 'laws.FnExactBestMisses', WHERE WHAT IT READS IS OF BULK AT MOST 1048576: true; the input reads as it did. -/
def fnExactBestMissesUptoRow : OpenClaim := { program := "ytccibfldadflkaa", sum := "95b1db7088d9613dc7414d8714438693b4c219346d4a242c7c65e479b3f4cbfd", func := "loop.example/loopnests/laws.FnExactBestMisses", spec := "fnExactBestMisses", unfollowed := true, recurses := true, apart := false, narrowed := true }
def FnExactBestMissesUptoSaid : Prop := fnExactBestMissesUptoRow.holds Try.pinned (OpenSpec.upto fnExactBestMissesSpec)

/-- 'laws.FnExactSubscriptRange', WHERE WHAT IT READS IS OF BULK AT MOST 1048576: true; the input reads as it did. -/
def fnExactSubscriptRangeUptoRow : OpenClaim := { program := "ytccibfldadflkaa", sum := "95b1db7088d9613dc7414d8714438693b4c219346d4a242c7c65e479b3f4cbfd", func := "loop.example/loopnests/laws.FnExactSubscriptRange", spec := "fnExactSubscriptRange", unfollowed := true, recurses := true, apart := false, narrowed := true }
def FnExactSubscriptRangeUptoSaid : Prop := fnExactSubscriptRangeUptoRow.holds Try.pinned (OpenSpec.upto fnExactSubscriptRangeSpec)

/-- 'laws.FnSubscriptRange', WHERE WHAT IT READS IS OF BULK AT MOST 1048576: true; the input reads as it did. -/
def fnSubscriptRangeUptoRow : OpenClaim := { program := "ytccibfldadflkaa", sum := "95b1db7088d9613dc7414d8714438693b4c219346d4a242c7c65e479b3f4cbfd", func := "loop.example/loopnests/laws.FnSubscriptRange", spec := "fnSubscriptRange", unfollowed := true, recurses := true, apart := false, narrowed := true }
def FnSubscriptRangeUptoSaid : Prop := fnSubscriptRangeUptoRow.holds Try.pinned (OpenSpec.upto fnSubscriptRangeSpec)

/-- 'laws.FnStmtValid', WHERE WHAT IT READS IS OF BULK AT MOST 1048576: true; the input reads as it did. -/
def fnStmtValidUptoRow : OpenClaim := { program := "ytccibfldadflkaa", sum := "95b1db7088d9613dc7414d8714438693b4c219346d4a242c7c65e479b3f4cbfd", func := "loop.example/loopnests/laws.FnStmtValid", spec := "fnStmtValid", inPlace := ["internal/bytealg.IndexByteString", "internal/bytealg.IndexString"], unfollowed := true, recurses := true, named := ["internal/bytealg.MaxLen"], apart := false, narrowed := true }
def FnStmtValidUptoSaid : Prop := fnStmtValidUptoRow.holds Try.pinned (OpenSpec.upto fnStmtValidSpec)

end Rows
end Go.Proofs.Ytccibfldadflkaa
