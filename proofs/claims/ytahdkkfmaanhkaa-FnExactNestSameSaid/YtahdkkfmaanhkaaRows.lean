/-
  No cell of these rows narrows 'for every input' (looked for: loops, veiled, ifaces, maps, wideKeys, modest, calm, conditions, laid).
  DERIVED. THE GIVEN ROWS OF THIS SEAT. 12 by the template 'for every input the law returns true; each argument reads behind the call as it read before'; 0 by the template 'total and deterministic' (their statements: YtahdkkfmaanhkaaTotals.lean).
  GIVEN WITH THE SEED: the statements are not yours to turn. If you find one false, say at which input.
  Laid BY PROGRAM, IN A SANDBOX (cutbox-rows.mjs): the forced cells as the released guide's own fill.sh prints them over the translation 78e01799f5d52b36… (all of the seat's roots in one cut). By AI agents, Wed Nov 11 2026. No macro, syntax, notation, axiom, sorry.
-/
import Derived.Test.YtahdkkfmaanhkaaChecked
import GoSem.Claim
import GoSem.ClaimJoined
import GoSem.ClaimMapViews
import Derived.JoinedTies
import Derived.KernelRfl
namespace Go.Proofs.Ytahdkkfmaanhkaa
/- THE CELL 'sum', in the pinned program and in every row, IS THE sha256 OF THE DUMP (.gsa) THAT YtahdkkfmaanhkaaProg.lean LOADS. Nothing in Lean hashes anything: it is a label: what it is worth is what the hold of that sum in a sandbox is worth. -/
noncomputable def Try.pinned : Pinned := { name := "ytahdkkfmaanhkaa", sum := "78e01799f5d52b36ac14e012e450839efa2594d04649ebc1760579fcd43a050b", checked := Try.checked }
namespace Rows
def none {H : Type} : Left H := { results := [], args := [] }

/-- 'laws.FnAddAffine': WHATEVER THE INPUT: true; the input reads as it did. -/
def fnAddAffineSpec : ChangeSpec := { name := "fnAddAffine", fn := fun _ => fun
  | [d1, d2] => { results := [.lit (.bool true)], args := [d1, d2] }
  | _ => none }
def fnAddAffineRow : OpenClaim := { program := "ytahdkkfmaanhkaa", sum := "78e01799f5d52b36ac14e012e450839efa2594d04649ebc1760579fcd43a050b", func := "loop.example/loopnests/laws.FnAddAffine", spec := "fnAddAffine", apart := false }
def FnAddAffineSaid : Prop := fnAddAffineRow.holds Try.pinned (OpenSpec.ofChange fnAddAffineSpec)

/-- ITS FALSE NEIGHBOUR: 'it returns false'. Refute it at one input. -/
def fnAddAffineWrong : ChangeSpec := { name := "fnAddAffine", fn := fun _ => fun
  | [d1, d2] => { results := [.lit (.bool false)], args := [d1, d2] }
  | _ => none }
def FnAddAffineWrongFalsely : Prop := fnAddAffineRow.holds Try.pinned (OpenSpec.ofChange fnAddAffineWrong)

/-- 'laws.FnSubstAffine': WHATEVER THE INPUT: true; the input reads as it did. -/
def fnSubstAffineSpec : ChangeSpec := { name := "fnSubstAffine", fn := fun _ => fun
  | [d1, d2] => { results := [.lit (.bool true)], args := [d1, d2] }
  | _ => none }
def fnSubstAffineRow : OpenClaim := { program := "ytahdkkfmaanhkaa", sum := "78e01799f5d52b36ac14e012e450839efa2594d04649ebc1760579fcd43a050b", func := "loop.example/loopnests/laws.FnSubstAffine", spec := "fnSubstAffine", apart := false }
def FnSubstAffineSaid : Prop := fnSubstAffineRow.holds Try.pinned (OpenSpec.ofChange fnSubstAffineSpec)

/-- ITS FALSE NEIGHBOUR: 'it returns false'. Refute it at one input. -/
def fnSubstAffineWrong : ChangeSpec := { name := "fnSubstAffine", fn := fun _ => fun
  | [d1, d2] => { results := [.lit (.bool false)], args := [d1, d2] }
  | _ => none }
def FnSubstAffineWrongFalsely : Prop := fnSubstAffineRow.holds Try.pinned (OpenSpec.ofChange fnSubstAffineWrong)

/-- 'laws.FnScaleAdd': WHATEVER THE INPUT: true; the input reads as it did. -/
def fnScaleAddSpec : ChangeSpec := { name := "fnScaleAdd", fn := fun _ => fun
  | [d1, d2] => { results := [.lit (.bool true)], args := [d1, d2] }
  | _ => none }
def fnScaleAddRow : OpenClaim := { program := "ytahdkkfmaanhkaa", sum := "78e01799f5d52b36ac14e012e450839efa2594d04649ebc1760579fcd43a050b", func := "loop.example/loopnests/laws.FnScaleAdd", spec := "fnScaleAdd", apart := false }
def FnScaleAddSaid : Prop := fnScaleAddRow.holds Try.pinned (OpenSpec.ofChange fnScaleAddSpec)

/-- ITS FALSE NEIGHBOUR: 'it returns false'. Refute it at one input. -/
def fnScaleAddWrong : ChangeSpec := { name := "fnScaleAdd", fn := fun _ => fun
  | [d1, d2] => { results := [.lit (.bool false)], args := [d1, d2] }
  | _ => none }
def FnScaleAddWrongFalsely : Prop := fnScaleAddRow.holds Try.pinned (OpenSpec.ofChange fnScaleAddWrong)

/-- 'laws.FnLexLess': WHATEVER THE INPUT: true; the input reads as it did. -/
def fnLexLessSpec : ChangeSpec := { name := "fnLexLess", fn := fun _ => fun
  | [d1, d2] => { results := [.lit (.bool true)], args := [d1, d2] }
  | _ => none }
def fnLexLessRow : OpenClaim := { program := "ytahdkkfmaanhkaa", sum := "78e01799f5d52b36ac14e012e450839efa2594d04649ebc1760579fcd43a050b", func := "loop.example/loopnests/laws.FnLexLess", spec := "fnLexLess", apart := false }
def FnLexLessSaid : Prop := fnLexLessRow.holds Try.pinned (OpenSpec.ofChange fnLexLessSpec)

/-- ITS FALSE NEIGHBOUR: 'it returns false'. Refute it at one input. -/
def fnLexLessWrong : ChangeSpec := { name := "fnLexLess", fn := fun _ => fun
  | [d1, d2] => { results := [.lit (.bool false)], args := [d1, d2] }
  | _ => none }
def FnLexLessWrongFalsely : Prop := fnLexLessRow.holds Try.pinned (OpenSpec.ofChange fnLexLessWrong)

/-- 'laws.FnExactSubstAffine': WHATEVER THE INPUT: true; the input reads as it did. -/
def fnExactSubstAffineSpec : ChangeSpec := { name := "fnExactSubstAffine", fn := fun _ => fun
  | [d1, d2, d3] => { results := [.lit (.bool true)], args := [d1, d2, d3] }
  | _ => none }
def fnExactSubstAffineRow : OpenClaim := { program := "ytahdkkfmaanhkaa", sum := "78e01799f5d52b36ac14e012e450839efa2594d04649ebc1760579fcd43a050b", func := "loop.example/loopnests/laws.FnExactSubstAffine", spec := "fnExactSubstAffine", apart := false }
def FnExactSubstAffineSaid : Prop := fnExactSubstAffineRow.holds Try.pinned (OpenSpec.ofChange fnExactSubstAffineSpec)

/-- ITS FALSE NEIGHBOUR: 'it returns false'. Refute it at one input. -/
def fnExactSubstAffineWrong : ChangeSpec := { name := "fnExactSubstAffine", fn := fun _ => fun
  | [d1, d2, d3] => { results := [.lit (.bool false)], args := [d1, d2, d3] }
  | _ => none }
def FnExactSubstAffineWrongFalsely : Prop := fnExactSubstAffineRow.holds Try.pinned (OpenSpec.ofChange fnExactSubstAffineWrong)

/-- 'laws.FnExactNestValid': WHATEVER THE INPUT: true; the input reads as it did. -/
def fnExactNestValidSpec : ChangeSpec := { name := "fnExactNestValid", fn := fun _ => fun
  | [d] => { results := [.lit (.bool true)], args := [d] }
  | _ => none }
def fnExactNestValidRow : OpenClaim := { program := "ytahdkkfmaanhkaa", sum := "78e01799f5d52b36ac14e012e450839efa2594d04649ebc1760579fcd43a050b", func := "loop.example/loopnests/laws.FnExactNestValid", spec := "fnExactNestValid", apart := false }
def FnExactNestValidSaid : Prop := fnExactNestValidRow.holds Try.pinned (OpenSpec.ofChange fnExactNestValidSpec)

/-- ITS FALSE NEIGHBOUR: 'it returns false'. Refute it at one input. -/
def fnExactNestValidWrong : ChangeSpec := { name := "fnExactNestValid", fn := fun _ => fun
  | [d] => { results := [.lit (.bool false)], args := [d] }
  | _ => none }
def FnExactNestValidWrongFalsely : Prop := fnExactNestValidRow.holds Try.pinned (OpenSpec.ofChange fnExactNestValidWrong)

/-- 'laws.FnExactNestSame': WHATEVER THE INPUT: true; the input reads as it did. -/
def fnExactNestSameSpec : ChangeSpec := { name := "fnExactNestSame", fn := fun _ => fun
  | [d1, d2] => { results := [.lit (.bool true)], args := [d1, d2] }
  | _ => none }
def fnExactNestSameRow : OpenClaim := { program := "ytahdkkfmaanhkaa", sum := "78e01799f5d52b36ac14e012e450839efa2594d04649ebc1760579fcd43a050b", func := "loop.example/loopnests/laws.FnExactNestSame", spec := "fnExactNestSame", unfollowed := true, recurses := true, apart := false }
def FnExactNestSameSaid : Prop := fnExactNestSameRow.holds Try.pinned (OpenSpec.ofChange fnExactNestSameSpec)

/-- ITS FALSE NEIGHBOUR: 'it returns false'. Refute it at one input. -/
def fnExactNestSameWrong : ChangeSpec := { name := "fnExactNestSame", fn := fun _ => fun
  | [d1, d2] => { results := [.lit (.bool false)], args := [d1, d2] }
  | _ => none }
def FnExactNestSameWrongFalsely : Prop := fnExactNestSameRow.holds Try.pinned (OpenSpec.ofChange fnExactNestSameWrong)

/-- 'laws.FnExactPointIn': WHATEVER THE INPUT: true; the input reads as it did. -/
def fnExactPointInSpec : ChangeSpec := { name := "fnExactPointIn", fn := fun _ => fun
  | [d1, d2] => { results := [.lit (.bool true)], args := [d1, d2] }
  | _ => none }
def fnExactPointInRow : OpenClaim := { program := "ytahdkkfmaanhkaa", sum := "78e01799f5d52b36ac14e012e450839efa2594d04649ebc1760579fcd43a050b", func := "loop.example/loopnests/laws.FnExactPointIn", spec := "fnExactPointIn", apart := false }
def FnExactPointInSaid : Prop := fnExactPointInRow.holds Try.pinned (OpenSpec.ofChange fnExactPointInSpec)

/-- ITS FALSE NEIGHBOUR: 'it returns false'. Refute it at one input. -/
def fnExactPointInWrong : ChangeSpec := { name := "fnExactPointIn", fn := fun _ => fun
  | [d1, d2] => { results := [.lit (.bool false)], args := [d1, d2] }
  | _ => none }
def FnExactPointInWrongFalsely : Prop := fnExactPointInRow.holds Try.pinned (OpenSpec.ofChange fnExactPointInWrong)

/-- 'laws.FnExactLexLess': WHATEVER THE INPUT: true; the input reads as it did. -/
def fnExactLexLessSpec : ChangeSpec := { name := "fnExactLexLess", fn := fun _ => fun
  | [d1, d2] => { results := [.lit (.bool true)], args := [d1, d2] }
  | _ => none }
def fnExactLexLessRow : OpenClaim := { program := "ytahdkkfmaanhkaa", sum := "78e01799f5d52b36ac14e012e450839efa2594d04649ebc1760579fcd43a050b", func := "loop.example/loopnests/laws.FnExactLexLess", spec := "fnExactLexLess", apart := false }
def FnExactLexLessSaid : Prop := fnExactLexLessRow.holds Try.pinned (OpenSpec.ofChange fnExactLexLessSpec)

/-- ITS FALSE NEIGHBOUR: 'it returns false'. Refute it at one input. -/
def fnExactLexLessWrong : ChangeSpec := { name := "fnExactLexLess", fn := fun _ => fun
  | [d1, d2] => { results := [.lit (.bool false)], args := [d1, d2] }
  | _ => none }
def FnExactLexLessWrongFalsely : Prop := fnExactLexLessRow.holds Try.pinned (OpenSpec.ofChange fnExactLexLessWrong)

/-- 'laws.FnExactBoxNest': WHATEVER THE INPUT: true; the input reads as it did. -/
def fnExactBoxNestSpec : ChangeSpec := { name := "fnExactBoxNest", fn := fun _ => fun
  | [d] => { results := [.lit (.bool true)], args := [d] }
  | _ => none }
def fnExactBoxNestRow : OpenClaim := { program := "ytahdkkfmaanhkaa", sum := "78e01799f5d52b36ac14e012e450839efa2594d04649ebc1760579fcd43a050b", func := "loop.example/loopnests/laws.FnExactBoxNest", spec := "fnExactBoxNest", apart := false }
def FnExactBoxNestSaid : Prop := fnExactBoxNestRow.holds Try.pinned (OpenSpec.ofChange fnExactBoxNestSpec)

/-- ITS FALSE NEIGHBOUR: 'it returns false'. Refute it at one input. -/
def fnExactBoxNestWrong : ChangeSpec := { name := "fnExactBoxNest", fn := fun _ => fun
  | [d] => { results := [.lit (.bool false)], args := [d] }
  | _ => none }
def FnExactBoxNestWrongFalsely : Prop := fnExactBoxNestRow.holds Try.pinned (OpenSpec.ofChange fnExactBoxNestWrong)

/-- 'laws.FnExactRectNest': WHATEVER THE INPUT: true; the input reads as it did. -/
def fnExactRectNestSpec : ChangeSpec := { name := "fnExactRectNest", fn := fun _ => fun
  | [d] => { results := [.lit (.bool true)], args := [d] }
  | _ => none }
def fnExactRectNestRow : OpenClaim := { program := "ytahdkkfmaanhkaa", sum := "78e01799f5d52b36ac14e012e450839efa2594d04649ebc1760579fcd43a050b", func := "loop.example/loopnests/laws.FnExactRectNest", spec := "fnExactRectNest", apart := false }
def FnExactRectNestSaid : Prop := fnExactRectNestRow.holds Try.pinned (OpenSpec.ofChange fnExactRectNestSpec)

/-- ITS FALSE NEIGHBOUR: 'it returns false'. Refute it at one input. -/
def fnExactRectNestWrong : ChangeSpec := { name := "fnExactRectNest", fn := fun _ => fun
  | [d] => { results := [.lit (.bool false)], args := [d] }
  | _ => none }
def FnExactRectNestWrongFalsely : Prop := fnExactRectNestRow.holds Try.pinned (OpenSpec.ofChange fnExactRectNestWrong)

/-- 'laws.FnExactLoopRange': WHATEVER THE INPUT: true; the input reads as it did. -/
def fnExactLoopRangeSpec : ChangeSpec := { name := "fnExactLoopRange", fn := fun _ => fun
  | [d1, d2] => { results := [.lit (.bool true)], args := [d1, d2] }
  | _ => none }
def fnExactLoopRangeRow : OpenClaim := { program := "ytahdkkfmaanhkaa", sum := "78e01799f5d52b36ac14e012e450839efa2594d04649ebc1760579fcd43a050b", func := "loop.example/loopnests/laws.FnExactLoopRange", spec := "fnExactLoopRange", apart := false }
def FnExactLoopRangeSaid : Prop := fnExactLoopRangeRow.holds Try.pinned (OpenSpec.ofChange fnExactLoopRangeSpec)

/-- ITS FALSE NEIGHBOUR: 'it returns false'. Refute it at one input. -/
def fnExactLoopRangeWrong : ChangeSpec := { name := "fnExactLoopRange", fn := fun _ => fun
  | [d1, d2] => { results := [.lit (.bool false)], args := [d1, d2] }
  | _ => none }
def FnExactLoopRangeWrongFalsely : Prop := fnExactLoopRangeRow.holds Try.pinned (OpenSpec.ofChange fnExactLoopRangeWrong)

/- THE SECOND FORM. 'bulk': how many values and letters a reading holds, each counted each time it is reached (what is shared counts as often as it is met; a slice's spare places count too). A statement '..UptoSaid' is the law's where the arguments, and the package variables that the reading takes, are together of bulk at most 1048576: NARROWER than '..Said'. Prove '..Said' where nothing that the law and all that it calls make is longer than what came in: it says more and counts as full. Else prove '..UptoSaid'. A law counts once. -/
mutual
def uptoBulk {H : Type} : DataW H → Nat
  | .lit (.string bytes) => bytes.length + 1
  | .lit _ => 1
  | .nil => 1
  | .ptr d => uptoBulk d + 1
  | .slice elems spare => uptoBulkAll elems + uptoBulkAll spare + 1
  | .agg parts => uptoBulkAll parts + 1
  | .iface _ d => uptoBulk d + 1
  | .map entries => uptoBulkEntries entries + 1
  | .held _ => 1
def uptoBulkAll {H : Type} : List (DataW H) → Nat
  | [] => 0
  | d :: r => uptoBulk d + uptoBulkAll r
def uptoBulkEntries {H : Type} : List (Lit × DataW H) → Nat
  | [] => 0
  | x :: r => uptoBulkEntry x + uptoBulkEntries r
def uptoBulkEntry {H : Type} : Lit × DataW H → Nat
  | (.string bytes, d) => bytes.length + uptoBulk d + 1
  | (_, d) => uptoBulk d + 1
 end
def uptoSmall : (H : Type) → List (DataW H) → Bool := fun _ ds => decide (uptoBulkAll ds ≤ 1048576)
def OpenSpec.upto (s : _root_.Go.ChangeSpec) : _root_.Go.OpenSpec := { _root_.Go.OpenSpec.ofChange s with cond := some uptoSmall }

/-- 'laws.FnAddAffine', WHERE WHAT IT READS IS OF BULK AT MOST 1048576: true; the input reads as it did. -/
def fnAddAffineUptoRow : OpenClaim := { program := "ytahdkkfmaanhkaa", sum := "78e01799f5d52b36ac14e012e450839efa2594d04649ebc1760579fcd43a050b", func := "loop.example/loopnests/laws.FnAddAffine", spec := "fnAddAffine", apart := false, narrowed := true }
def FnAddAffineUptoSaid : Prop := fnAddAffineUptoRow.holds Try.pinned (OpenSpec.upto fnAddAffineSpec)

/-- 'laws.FnSubstAffine', WHERE WHAT IT READS IS OF BULK AT MOST 1048576: true; the input reads as it did. -/
def fnSubstAffineUptoRow : OpenClaim := { program := "ytahdkkfmaanhkaa", sum := "78e01799f5d52b36ac14e012e450839efa2594d04649ebc1760579fcd43a050b", func := "loop.example/loopnests/laws.FnSubstAffine", spec := "fnSubstAffine", apart := false, narrowed := true }
def FnSubstAffineUptoSaid : Prop := fnSubstAffineUptoRow.holds Try.pinned (OpenSpec.upto fnSubstAffineSpec)

/-- 'laws.FnScaleAdd', WHERE WHAT IT READS IS OF BULK AT MOST 1048576: true; the input reads as it did. -/
def fnScaleAddUptoRow : OpenClaim := { program := "ytahdkkfmaanhkaa", sum := "78e01799f5d52b36ac14e012e450839efa2594d04649ebc1760579fcd43a050b", func := "loop.example/loopnests/laws.FnScaleAdd", spec := "fnScaleAdd", apart := false, narrowed := true }
def FnScaleAddUptoSaid : Prop := fnScaleAddUptoRow.holds Try.pinned (OpenSpec.upto fnScaleAddSpec)

/-- 'laws.FnLexLess', WHERE WHAT IT READS IS OF BULK AT MOST 1048576: true; the input reads as it did. -/
def fnLexLessUptoRow : OpenClaim := { program := "ytahdkkfmaanhkaa", sum := "78e01799f5d52b36ac14e012e450839efa2594d04649ebc1760579fcd43a050b", func := "loop.example/loopnests/laws.FnLexLess", spec := "fnLexLess", apart := false, narrowed := true }
def FnLexLessUptoSaid : Prop := fnLexLessUptoRow.holds Try.pinned (OpenSpec.upto fnLexLessSpec)

/-- 'laws.FnExactSubstAffine', WHERE WHAT IT READS IS OF BULK AT MOST 1048576: true; the input reads as it did. -/
def fnExactSubstAffineUptoRow : OpenClaim := { program := "ytahdkkfmaanhkaa", sum := "78e01799f5d52b36ac14e012e450839efa2594d04649ebc1760579fcd43a050b", func := "loop.example/loopnests/laws.FnExactSubstAffine", spec := "fnExactSubstAffine", apart := false, narrowed := true }
def FnExactSubstAffineUptoSaid : Prop := fnExactSubstAffineUptoRow.holds Try.pinned (OpenSpec.upto fnExactSubstAffineSpec)

/-- 'laws.FnExactNestValid', WHERE WHAT IT READS IS OF BULK AT MOST 1048576: true; the input reads as it did. -/
def fnExactNestValidUptoRow : OpenClaim := { program := "ytahdkkfmaanhkaa", sum := "78e01799f5d52b36ac14e012e450839efa2594d04649ebc1760579fcd43a050b", func := "loop.example/loopnests/laws.FnExactNestValid", spec := "fnExactNestValid", apart := false, narrowed := true }
def FnExactNestValidUptoSaid : Prop := fnExactNestValidUptoRow.holds Try.pinned (OpenSpec.upto fnExactNestValidSpec)

/-- 'laws.FnExactNestSame', WHERE WHAT IT READS IS OF BULK AT MOST 1048576: true; the input reads as it did. -/
def fnExactNestSameUptoRow : OpenClaim := { program := "ytahdkkfmaanhkaa", sum := "78e01799f5d52b36ac14e012e450839efa2594d04649ebc1760579fcd43a050b", func := "loop.example/loopnests/laws.FnExactNestSame", spec := "fnExactNestSame", unfollowed := true, recurses := true, apart := false, narrowed := true }
def FnExactNestSameUptoSaid : Prop := fnExactNestSameUptoRow.holds Try.pinned (OpenSpec.upto fnExactNestSameSpec)

/-- 'laws.FnExactPointIn', WHERE WHAT IT READS IS OF BULK AT MOST 1048576: true; the input reads as it did. -/
def fnExactPointInUptoRow : OpenClaim := { program := "ytahdkkfmaanhkaa", sum := "78e01799f5d52b36ac14e012e450839efa2594d04649ebc1760579fcd43a050b", func := "loop.example/loopnests/laws.FnExactPointIn", spec := "fnExactPointIn", apart := false, narrowed := true }
def FnExactPointInUptoSaid : Prop := fnExactPointInUptoRow.holds Try.pinned (OpenSpec.upto fnExactPointInSpec)

/-- 'laws.FnExactLexLess', WHERE WHAT IT READS IS OF BULK AT MOST 1048576: true; the input reads as it did. -/
def fnExactLexLessUptoRow : OpenClaim := { program := "ytahdkkfmaanhkaa", sum := "78e01799f5d52b36ac14e012e450839efa2594d04649ebc1760579fcd43a050b", func := "loop.example/loopnests/laws.FnExactLexLess", spec := "fnExactLexLess", apart := false, narrowed := true }
def FnExactLexLessUptoSaid : Prop := fnExactLexLessUptoRow.holds Try.pinned (OpenSpec.upto fnExactLexLessSpec)

/-- 'laws.FnExactBoxNest', WHERE WHAT IT READS IS OF BULK AT MOST 1048576: true; the input reads as it did. -/
def fnExactBoxNestUptoRow : OpenClaim := { program := "ytahdkkfmaanhkaa", sum := "78e01799f5d52b36ac14e012e450839efa2594d04649ebc1760579fcd43a050b", func := "loop.example/loopnests/laws.FnExactBoxNest", spec := "fnExactBoxNest", apart := false, narrowed := true }
def FnExactBoxNestUptoSaid : Prop := fnExactBoxNestUptoRow.holds Try.pinned (OpenSpec.upto fnExactBoxNestSpec)

/-- 'laws.FnExactRectNest', WHERE WHAT IT READS IS OF BULK AT MOST 1048576: true; the input reads as it did. -/
def fnExactRectNestUptoRow : OpenClaim := { program := "ytahdkkfmaanhkaa", sum := "78e01799f5d52b36ac14e012e450839efa2594d04649ebc1760579fcd43a050b", func := "loop.example/loopnests/laws.FnExactRectNest", spec := "fnExactRectNest", apart := false, narrowed := true }
def FnExactRectNestUptoSaid : Prop := fnExactRectNestUptoRow.holds Try.pinned (OpenSpec.upto fnExactRectNestSpec)

/-- 'laws.FnExactLoopRange', WHERE WHAT IT READS IS OF BULK AT MOST 1048576: true; the input reads as it did. -/
def fnExactLoopRangeUptoRow : OpenClaim := { program := "ytahdkkfmaanhkaa", sum := "78e01799f5d52b36ac14e012e450839efa2594d04649ebc1760579fcd43a050b", func := "loop.example/loopnests/laws.FnExactLoopRange", spec := "fnExactLoopRange", apart := false, narrowed := true }
def FnExactLoopRangeUptoSaid : Prop := fnExactLoopRangeUptoRow.holds Try.pinned (OpenSpec.upto fnExactLoopRangeSpec)

end Rows
end Go.Proofs.Ytahdkkfmaanhkaa
