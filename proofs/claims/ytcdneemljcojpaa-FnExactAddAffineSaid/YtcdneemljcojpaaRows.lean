/-
  No cell of these rows narrows 'for every input' (looked for: loops, veiled, ifaces, maps, wideKeys, modest, calm, conditions, laid).
  DERIVED. THE GIVEN ROWS OF THIS SEAT. 15 by the template 'for every input the law returns true; each argument reads behind the call as it read before'; 0 by the template 'total and deterministic' (their statements: YtcdneemljcojpaaTotals.lean).
  GIVEN WITH THE SEED: the statements are not yours to turn. If you find one false, say at which input.
  Laid BY PROGRAM, IN A SANDBOX (cutbox-rows.mjs): the forced cells as the released guide's own fill.sh prints them over the translation 43962c4a5aff1dac… (all of the seat's roots in one cut). By AI agents, Wed Nov 11 2026. No macro, syntax, notation, axiom, sorry.
-/
import Derived.Test.YtcdneemljcojpaaChecked
import GoSem.Claim
import GoSem.ClaimJoined
import GoSem.ClaimMapViews
import Derived.JoinedTies
import Derived.KernelRfl
namespace Go.Proofs.Ytcdneemljcojpaa
/- THE CELL 'sum', in the pinned program and in every row, IS THE sha256 OF THE DUMP (.gsa) THAT YtcdneemljcojpaaProg.lean LOADS. Nothing in Lean hashes anything: it is a label: what it is worth is what the hold of that sum in a sandbox is worth. -/
noncomputable def Try.pinned : Pinned := { name := "ytcdneemljcojpaa", sum := "43962c4a5aff1dacaf2a4da79f5147554618371a3ec567a7d02c54880caf901c", checked := Try.checked }
namespace Rows
def none {H : Type} : Left H := { results := [], args := [] }

/-- 'laws.FnAddAffine': WHATEVER THE INPUT: true; the input reads as it did. -/
def fnAddAffineSpec : ChangeSpec := { name := "fnAddAffine", fn := fun _ => fun
  | [d1, d2] => { results := [.lit (.bool true)], args := [d1, d2] }
  | _ => none }
def fnAddAffineRow : OpenClaim := { program := "ytcdneemljcojpaa", sum := "43962c4a5aff1dacaf2a4da79f5147554618371a3ec567a7d02c54880caf901c", func := "loop.example/loopnests/laws.FnAddAffine", spec := "fnAddAffine", apart := false }
def FnAddAffineSaid : Prop := fnAddAffineRow.holds Try.pinned (OpenSpec.ofChange fnAddAffineSpec)

/-- ITS FALSE NEIGHBOUR: 'it returns false'. Refute it at one input. -/
def fnAddAffineWrong : ChangeSpec := { name := "fnAddAffine", fn := fun _ => fun
  | [d1, d2] => { results := [.lit (.bool false)], args := [d1, d2] }
  | _ => none }
def FnAddAffineWrongFalsely : Prop := fnAddAffineRow.holds Try.pinned (OpenSpec.ofChange fnAddAffineWrong)

/-- 'laws.FnSubstAffine': WHATEVER THE INPUT: true; the input reads as it did. -/
def fnSubstAffineSpec : ChangeSpec := { name := "fnSubstAffine", fn := fun _ => fun
  | [d1, d2] => { results := [.lit (.bool true)], args := [d1, d2] }
  | _ => none }
def fnSubstAffineRow : OpenClaim := { program := "ytcdneemljcojpaa", sum := "43962c4a5aff1dacaf2a4da79f5147554618371a3ec567a7d02c54880caf901c", func := "loop.example/loopnests/laws.FnSubstAffine", spec := "fnSubstAffine", apart := false }
def FnSubstAffineSaid : Prop := fnSubstAffineRow.holds Try.pinned (OpenSpec.ofChange fnSubstAffineSpec)

/-- ITS FALSE NEIGHBOUR: 'it returns false'. Refute it at one input. -/
def fnSubstAffineWrong : ChangeSpec := { name := "fnSubstAffine", fn := fun _ => fun
  | [d1, d2] => { results := [.lit (.bool false)], args := [d1, d2] }
  | _ => none }
def FnSubstAffineWrongFalsely : Prop := fnSubstAffineRow.holds Try.pinned (OpenSpec.ofChange fnSubstAffineWrong)

/-- 'laws.FnSubstIdentity': WHATEVER THE INPUT: true; the input reads as it did. -/
def fnSubstIdentitySpec : ChangeSpec := { name := "fnSubstIdentity", fn := fun _ => fun
  | [d] => { results := [.lit (.bool true)], args := [d] }
  | _ => none }
def fnSubstIdentityRow : OpenClaim := { program := "ytcdneemljcojpaa", sum := "43962c4a5aff1dacaf2a4da79f5147554618371a3ec567a7d02c54880caf901c", func := "loop.example/loopnests/laws.FnSubstIdentity", spec := "fnSubstIdentity", apart := false }
def FnSubstIdentitySaid : Prop := fnSubstIdentityRow.holds Try.pinned (OpenSpec.ofChange fnSubstIdentitySpec)

/-- ITS FALSE NEIGHBOUR: 'it returns false'. Refute it at one input. -/
def fnSubstIdentityWrong : ChangeSpec := { name := "fnSubstIdentity", fn := fun _ => fun
  | [d] => { results := [.lit (.bool false)], args := [d] }
  | _ => none }
def FnSubstIdentityWrongFalsely : Prop := fnSubstIdentityRow.holds Try.pinned (OpenSpec.ofChange fnSubstIdentityWrong)

/-- 'laws.FnEvalAffine': WHATEVER THE INPUT: true; the input reads as it did. -/
def fnEvalAffineSpec : ChangeSpec := { name := "fnEvalAffine", fn := fun _ => fun
  | [d] => { results := [.lit (.bool true)], args := [d] }
  | _ => none }
def fnEvalAffineRow : OpenClaim := { program := "ytcdneemljcojpaa", sum := "43962c4a5aff1dacaf2a4da79f5147554618371a3ec567a7d02c54880caf901c", func := "loop.example/loopnests/laws.FnEvalAffine", spec := "fnEvalAffine", apart := false }
def FnEvalAffineSaid : Prop := fnEvalAffineRow.holds Try.pinned (OpenSpec.ofChange fnEvalAffineSpec)

/-- ITS FALSE NEIGHBOUR: 'it returns false'. Refute it at one input. -/
def fnEvalAffineWrong : ChangeSpec := { name := "fnEvalAffine", fn := fun _ => fun
  | [d] => { results := [.lit (.bool false)], args := [d] }
  | _ => none }
def FnEvalAffineWrongFalsely : Prop := fnEvalAffineRow.holds Try.pinned (OpenSpec.ofChange fnEvalAffineWrong)

/-- 'laws.FnAffineDepth': WHATEVER THE INPUT: true; the input reads as it did. -/
def fnAffineDepthSpec : ChangeSpec := { name := "fnAffineDepth", fn := fun _ => fun
  | [d1, d2] => { results := [.lit (.bool true)], args := [d1, d2] }
  | _ => none }
def fnAffineDepthRow : OpenClaim := { program := "ytcdneemljcojpaa", sum := "43962c4a5aff1dacaf2a4da79f5147554618371a3ec567a7d02c54880caf901c", func := "loop.example/loopnests/laws.FnAffineDepth", spec := "fnAffineDepth", apart := false }
def FnAffineDepthSaid : Prop := fnAffineDepthRow.holds Try.pinned (OpenSpec.ofChange fnAffineDepthSpec)

/-- ITS FALSE NEIGHBOUR: 'it returns false'. Refute it at one input. -/
def fnAffineDepthWrong : ChangeSpec := { name := "fnAffineDepth", fn := fun _ => fun
  | [d1, d2] => { results := [.lit (.bool false)], args := [d1, d2] }
  | _ => none }
def FnAffineDepthWrongFalsely : Prop := fnAffineDepthRow.holds Try.pinned (OpenSpec.ofChange fnAffineDepthWrong)

/-- 'laws.FnScaleAdd': WHATEVER THE INPUT: true; the input reads as it did. -/
def fnScaleAddSpec : ChangeSpec := { name := "fnScaleAdd", fn := fun _ => fun
  | [d1, d2] => { results := [.lit (.bool true)], args := [d1, d2] }
  | _ => none }
def fnScaleAddRow : OpenClaim := { program := "ytcdneemljcojpaa", sum := "43962c4a5aff1dacaf2a4da79f5147554618371a3ec567a7d02c54880caf901c", func := "loop.example/loopnests/laws.FnScaleAdd", spec := "fnScaleAdd", apart := false }
def FnScaleAddSaid : Prop := fnScaleAddRow.holds Try.pinned (OpenSpec.ofChange fnScaleAddSpec)

/-- ITS FALSE NEIGHBOUR: 'it returns false'. Refute it at one input. -/
def fnScaleAddWrong : ChangeSpec := { name := "fnScaleAdd", fn := fun _ => fun
  | [d1, d2] => { results := [.lit (.bool false)], args := [d1, d2] }
  | _ => none }
def FnScaleAddWrongFalsely : Prop := fnScaleAddRow.holds Try.pinned (OpenSpec.ofChange fnScaleAddWrong)

/-- 'laws.FnSubstAdd': WHATEVER THE INPUT: true; the input reads as it did. -/
def fnSubstAddSpec : ChangeSpec := { name := "fnSubstAdd", fn := fun _ => fun
  | [d1, d2] => { results := [.lit (.bool true)], args := [d1, d2] }
  | _ => none }
def fnSubstAddRow : OpenClaim := { program := "ytcdneemljcojpaa", sum := "43962c4a5aff1dacaf2a4da79f5147554618371a3ec567a7d02c54880caf901c", func := "loop.example/loopnests/laws.FnSubstAdd", spec := "fnSubstAdd", apart := false }
def FnSubstAddSaid : Prop := fnSubstAddRow.holds Try.pinned (OpenSpec.ofChange fnSubstAddSpec)

/-- ITS FALSE NEIGHBOUR: 'it returns false'. Refute it at one input. -/
def fnSubstAddWrong : ChangeSpec := { name := "fnSubstAdd", fn := fun _ => fun
  | [d1, d2] => { results := [.lit (.bool false)], args := [d1, d2] }
  | _ => none }
def FnSubstAddWrongFalsely : Prop := fnSubstAddRow.holds Try.pinned (OpenSpec.ofChange fnSubstAddWrong)

/-- 'laws.FnExactAffineValid': WHATEVER THE INPUT: true; the input reads as it did. -/
def fnExactAffineValidSpec : ChangeSpec := { name := "fnExactAffineValid", fn := fun _ => fun
  | [d] => { results := [.lit (.bool true)], args := [d] }
  | _ => none }
def fnExactAffineValidRow : OpenClaim := { program := "ytcdneemljcojpaa", sum := "43962c4a5aff1dacaf2a4da79f5147554618371a3ec567a7d02c54880caf901c", func := "loop.example/loopnests/laws.FnExactAffineValid", spec := "fnExactAffineValid", apart := false }
def FnExactAffineValidSaid : Prop := fnExactAffineValidRow.holds Try.pinned (OpenSpec.ofChange fnExactAffineValidSpec)

/-- ITS FALSE NEIGHBOUR: 'it returns false'. Refute it at one input. -/
def fnExactAffineValidWrong : ChangeSpec := { name := "fnExactAffineValid", fn := fun _ => fun
  | [d] => { results := [.lit (.bool false)], args := [d] }
  | _ => none }
def FnExactAffineValidWrongFalsely : Prop := fnExactAffineValidRow.holds Try.pinned (OpenSpec.ofChange fnExactAffineValidWrong)

/-- 'laws.FnExactAffineSame': WHATEVER THE INPUT: true; the input reads as it did. -/
def fnExactAffineSameSpec : ChangeSpec := { name := "fnExactAffineSame", fn := fun _ => fun
  | [d1, d2] => { results := [.lit (.bool true)], args := [d1, d2] }
  | _ => none }
def fnExactAffineSameRow : OpenClaim := { program := "ytcdneemljcojpaa", sum := "43962c4a5aff1dacaf2a4da79f5147554618371a3ec567a7d02c54880caf901c", func := "loop.example/loopnests/laws.FnExactAffineSame", spec := "fnExactAffineSame", apart := false }
def FnExactAffineSameSaid : Prop := fnExactAffineSameRow.holds Try.pinned (OpenSpec.ofChange fnExactAffineSameSpec)

/-- ITS FALSE NEIGHBOUR: 'it returns false'. Refute it at one input. -/
def fnExactAffineSameWrong : ChangeSpec := { name := "fnExactAffineSame", fn := fun _ => fun
  | [d1, d2] => { results := [.lit (.bool false)], args := [d1, d2] }
  | _ => none }
def FnExactAffineSameWrongFalsely : Prop := fnExactAffineSameRow.holds Try.pinned (OpenSpec.ofChange fnExactAffineSameWrong)

/-- 'laws.FnExactEvalAffine': WHATEVER THE INPUT: true; the input reads as it did. -/
def fnExactEvalAffineSpec : ChangeSpec := { name := "fnExactEvalAffine", fn := fun _ => fun
  | [d1, d2] => { results := [.lit (.bool true)], args := [d1, d2] }
  | _ => none }
def fnExactEvalAffineRow : OpenClaim := { program := "ytcdneemljcojpaa", sum := "43962c4a5aff1dacaf2a4da79f5147554618371a3ec567a7d02c54880caf901c", func := "loop.example/loopnests/laws.FnExactEvalAffine", spec := "fnExactEvalAffine", apart := false }
def FnExactEvalAffineSaid : Prop := fnExactEvalAffineRow.holds Try.pinned (OpenSpec.ofChange fnExactEvalAffineSpec)

/-- ITS FALSE NEIGHBOUR: 'it returns false'. Refute it at one input. -/
def fnExactEvalAffineWrong : ChangeSpec := { name := "fnExactEvalAffine", fn := fun _ => fun
  | [d1, d2] => { results := [.lit (.bool false)], args := [d1, d2] }
  | _ => none }
def FnExactEvalAffineWrongFalsely : Prop := fnExactEvalAffineRow.holds Try.pinned (OpenSpec.ofChange fnExactEvalAffineWrong)

/-- 'laws.FnExactAddAffine': WHATEVER THE INPUT: true; the input reads as it did. -/
def fnExactAddAffineSpec : ChangeSpec := { name := "fnExactAddAffine", fn := fun _ => fun
  | [d1, d2] => { results := [.lit (.bool true)], args := [d1, d2] }
  | _ => none }
def fnExactAddAffineRow : OpenClaim := { program := "ytcdneemljcojpaa", sum := "43962c4a5aff1dacaf2a4da79f5147554618371a3ec567a7d02c54880caf901c", func := "loop.example/loopnests/laws.FnExactAddAffine", spec := "fnExactAddAffine", apart := false }
def FnExactAddAffineSaid : Prop := fnExactAddAffineRow.holds Try.pinned (OpenSpec.ofChange fnExactAddAffineSpec)

/-- ITS FALSE NEIGHBOUR: 'it returns false'. Refute it at one input. -/
def fnExactAddAffineWrong : ChangeSpec := { name := "fnExactAddAffine", fn := fun _ => fun
  | [d1, d2] => { results := [.lit (.bool false)], args := [d1, d2] }
  | _ => none }
def FnExactAddAffineWrongFalsely : Prop := fnExactAddAffineRow.holds Try.pinned (OpenSpec.ofChange fnExactAddAffineWrong)

/-- 'laws.FnExactScaleAffine': WHATEVER THE INPUT: true; the input reads as it did. -/
def fnExactScaleAffineSpec : ChangeSpec := { name := "fnExactScaleAffine", fn := fun _ => fun
  | [d1, d2] => { results := [.lit (.bool true)], args := [d1, d2] }
  | _ => none }
def fnExactScaleAffineRow : OpenClaim := { program := "ytcdneemljcojpaa", sum := "43962c4a5aff1dacaf2a4da79f5147554618371a3ec567a7d02c54880caf901c", func := "loop.example/loopnests/laws.FnExactScaleAffine", spec := "fnExactScaleAffine", apart := false }
def FnExactScaleAffineSaid : Prop := fnExactScaleAffineRow.holds Try.pinned (OpenSpec.ofChange fnExactScaleAffineSpec)

/-- ITS FALSE NEIGHBOUR: 'it returns false'. Refute it at one input. -/
def fnExactScaleAffineWrong : ChangeSpec := { name := "fnExactScaleAffine", fn := fun _ => fun
  | [d1, d2] => { results := [.lit (.bool false)], args := [d1, d2] }
  | _ => none }
def FnExactScaleAffineWrongFalsely : Prop := fnExactScaleAffineRow.holds Try.pinned (OpenSpec.ofChange fnExactScaleAffineWrong)

/-- 'laws.FnExactSubstAffine': WHATEVER THE INPUT: true; the input reads as it did. -/
def fnExactSubstAffineSpec : ChangeSpec := { name := "fnExactSubstAffine", fn := fun _ => fun
  | [d1, d2, d3] => { results := [.lit (.bool true)], args := [d1, d2, d3] }
  | _ => none }
def fnExactSubstAffineRow : OpenClaim := { program := "ytcdneemljcojpaa", sum := "43962c4a5aff1dacaf2a4da79f5147554618371a3ec567a7d02c54880caf901c", func := "loop.example/loopnests/laws.FnExactSubstAffine", spec := "fnExactSubstAffine", apart := false }
def FnExactSubstAffineSaid : Prop := fnExactSubstAffineRow.holds Try.pinned (OpenSpec.ofChange fnExactSubstAffineSpec)

/-- ITS FALSE NEIGHBOUR: 'it returns false'. Refute it at one input. -/
def fnExactSubstAffineWrong : ChangeSpec := { name := "fnExactSubstAffine", fn := fun _ => fun
  | [d1, d2, d3] => { results := [.lit (.bool false)], args := [d1, d2, d3] }
  | _ => none }
def FnExactSubstAffineWrongFalsely : Prop := fnExactSubstAffineRow.holds Try.pinned (OpenSpec.ofChange fnExactSubstAffineWrong)

/-- 'laws.FnExactAffineDepth': WHATEVER THE INPUT: true; the input reads as it did. -/
def fnExactAffineDepthSpec : ChangeSpec := { name := "fnExactAffineDepth", fn := fun _ => fun
  | [d] => { results := [.lit (.bool true)], args := [d] }
  | _ => none }
def fnExactAffineDepthRow : OpenClaim := { program := "ytcdneemljcojpaa", sum := "43962c4a5aff1dacaf2a4da79f5147554618371a3ec567a7d02c54880caf901c", func := "loop.example/loopnests/laws.FnExactAffineDepth", spec := "fnExactAffineDepth", apart := false }
def FnExactAffineDepthSaid : Prop := fnExactAffineDepthRow.holds Try.pinned (OpenSpec.ofChange fnExactAffineDepthSpec)

/-- ITS FALSE NEIGHBOUR: 'it returns false'. Refute it at one input. -/
def fnExactAffineDepthWrong : ChangeSpec := { name := "fnExactAffineDepth", fn := fun _ => fun
  | [d] => { results := [.lit (.bool false)], args := [d] }
  | _ => none }
def FnExactAffineDepthWrongFalsely : Prop := fnExactAffineDepthRow.holds Try.pinned (OpenSpec.ofChange fnExactAffineDepthWrong)

/-- 'laws.FnExactVarAffine': WHATEVER THE INPUT: true; the input reads as it did. -/
def fnExactVarAffineSpec : ChangeSpec := { name := "fnExactVarAffine", fn := fun _ => fun
  | [d] => { results := [.lit (.bool true)], args := [d] }
  | _ => none }
def fnExactVarAffineRow : OpenClaim := { program := "ytcdneemljcojpaa", sum := "43962c4a5aff1dacaf2a4da79f5147554618371a3ec567a7d02c54880caf901c", func := "loop.example/loopnests/laws.FnExactVarAffine", spec := "fnExactVarAffine", apart := false }
def FnExactVarAffineSaid : Prop := fnExactVarAffineRow.holds Try.pinned (OpenSpec.ofChange fnExactVarAffineSpec)

/-- ITS FALSE NEIGHBOUR: 'it returns false'. Refute it at one input. -/
def fnExactVarAffineWrong : ChangeSpec := { name := "fnExactVarAffine", fn := fun _ => fun
  | [d] => { results := [.lit (.bool false)], args := [d] }
  | _ => none }
def FnExactVarAffineWrongFalsely : Prop := fnExactVarAffineRow.holds Try.pinned (OpenSpec.ofChange fnExactVarAffineWrong)

/- THE SECOND FORM. 'bulk': how many values and letters a reading holds, each counted each time it is reached (what is shared counts as often as it is met; a slice's spare places count too). A statement '..UptoSaid' is the law's where the arguments, and the package variables that the reading takes, are together of bulk at most 1048576: NARROWER than '..Said'. Prove '..Said' where nothing that the law and all that it calls make is longer than what came in: it says more and counts as full. Else prove '..UptoSaid'. A law counts once. -/
mutual
def uptoBulk {H : Type} : DataW H → Nat
  | .lit (.string bytes) => bytes.length + 1
  | .lit _ => 1
  | .nil => 1
  | .ptr d => uptoBulk d + 1
  | .slice elems spare => uptoBulkAll elems + uptoBulkAll spare + 1
  | .agg parts => uptoBulkAll parts + 1
  | .iface _ d => uptoBulk d + 1
  | .map entries => uptoBulkEntries entries + 1
  | .held _ => 1
def uptoBulkAll {H : Type} : List (DataW H) → Nat
  | [] => 0
  | d :: r => uptoBulk d + uptoBulkAll r
def uptoBulkEntries {H : Type} : List (Lit × DataW H) → Nat
  | [] => 0
  | x :: r => uptoBulkEntry x + uptoBulkEntries r
def uptoBulkEntry {H : Type} : Lit × DataW H → Nat
  | (.string bytes, d) => bytes.length + uptoBulk d + 1
  | (_, d) => uptoBulk d + 1
 end
def uptoSmall : (H : Type) → List (DataW H) → Bool := fun _ ds => decide (uptoBulkAll ds ≤ 1048576)
def OpenSpec.upto (s : _root_.Go.ChangeSpec) : _root_.Go.OpenSpec := { _root_.Go.OpenSpec.ofChange s with cond := some uptoSmall }

/-- 'laws.FnAddAffine', WHERE WHAT IT READS IS OF BULK AT MOST 1048576: true; the input reads as it did. -/
def fnAddAffineUptoRow : OpenClaim := { program := "ytcdneemljcojpaa", sum := "43962c4a5aff1dacaf2a4da79f5147554618371a3ec567a7d02c54880caf901c", func := "loop.example/loopnests/laws.FnAddAffine", spec := "fnAddAffine", apart := false, narrowed := true }
def FnAddAffineUptoSaid : Prop := fnAddAffineUptoRow.holds Try.pinned (OpenSpec.upto fnAddAffineSpec)

/-- 'laws.FnSubstAffine', WHERE WHAT IT READS IS OF BULK AT MOST 1048576: true; the input reads as it did. -/
def fnSubstAffineUptoRow : OpenClaim := { program := "ytcdneemljcojpaa", sum := "43962c4a5aff1dacaf2a4da79f5147554618371a3ec567a7d02c54880caf901c", func := "loop.example/loopnests/laws.FnSubstAffine", spec := "fnSubstAffine", apart := false, narrowed := true }
def FnSubstAffineUptoSaid : Prop := fnSubstAffineUptoRow.holds Try.pinned (OpenSpec.upto fnSubstAffineSpec)

/-- 'laws.FnSubstIdentity', WHERE WHAT IT READS IS OF BULK AT MOST 1048576: true; the input reads as it did. -/
def fnSubstIdentityUptoRow : OpenClaim := { program := "ytcdneemljcojpaa", sum := "43962c4a5aff1dacaf2a4da79f5147554618371a3ec567a7d02c54880caf901c", func := "loop.example/loopnests/laws.FnSubstIdentity", spec := "fnSubstIdentity", apart := false, narrowed := true }
def FnSubstIdentityUptoSaid : Prop := fnSubstIdentityUptoRow.holds Try.pinned (OpenSpec.upto fnSubstIdentitySpec)

/-- 'laws.FnEvalAffine', WHERE WHAT IT READS IS OF BULK AT MOST 1048576: true; the input reads as it did. -/
def fnEvalAffineUptoRow : OpenClaim := { program := "ytcdneemljcojpaa", sum := "43962c4a5aff1dacaf2a4da79f5147554618371a3ec567a7d02c54880caf901c", func := "loop.example/loopnests/laws.FnEvalAffine", spec := "fnEvalAffine", apart := false, narrowed := true }
def FnEvalAffineUptoSaid : Prop := fnEvalAffineUptoRow.holds Try.pinned (OpenSpec.upto fnEvalAffineSpec)

/-- 'laws.FnAffineDepth', WHERE WHAT IT READS IS OF BULK AT MOST 1048576: true; the input reads as it did. -/
def fnAffineDepthUptoRow : OpenClaim := { program := "ytcdneemljcojpaa", sum := "43962c4a5aff1dacaf2a4da79f5147554618371a3ec567a7d02c54880caf901c", func := "loop.example/loopnests/laws.FnAffineDepth", spec := "fnAffineDepth", apart := false, narrowed := true }
def FnAffineDepthUptoSaid : Prop := fnAffineDepthUptoRow.holds Try.pinned (OpenSpec.upto fnAffineDepthSpec)

/-- 'laws.FnScaleAdd', WHERE WHAT IT READS IS OF BULK AT MOST 1048576: true; the input reads as it did. -/
def fnScaleAddUptoRow : OpenClaim := { program := "ytcdneemljcojpaa", sum := "43962c4a5aff1dacaf2a4da79f5147554618371a3ec567a7d02c54880caf901c", func := "loop.example/loopnests/laws.FnScaleAdd", spec := "fnScaleAdd", apart := false, narrowed := true }
def FnScaleAddUptoSaid : Prop := fnScaleAddUptoRow.holds Try.pinned (OpenSpec.upto fnScaleAddSpec)

/-- 'laws.FnSubstAdd', WHERE WHAT IT READS IS OF BULK AT MOST 1048576: true; the input reads as it did. -/
def fnSubstAddUptoRow : OpenClaim := { program := "ytcdneemljcojpaa", sum := "43962c4a5aff1dacaf2a4da79f5147554618371a3ec567a7d02c54880caf901c", func := "loop.example/loopnests/laws.FnSubstAdd", spec := "fnSubstAdd", apart := false, narrowed := true }
def FnSubstAddUptoSaid : Prop := fnSubstAddUptoRow.holds Try.pinned (OpenSpec.upto fnSubstAddSpec)

/-- 'laws.FnExactAffineValid', WHERE WHAT IT READS IS OF BULK AT MOST 1048576: true; the input reads as it did. -/
def fnExactAffineValidUptoRow : OpenClaim := { program := "ytcdneemljcojpaa", sum := "43962c4a5aff1dacaf2a4da79f5147554618371a3ec567a7d02c54880caf901c", func := "loop.example/loopnests/laws.FnExactAffineValid", spec := "fnExactAffineValid", apart := false, narrowed := true }
def FnExactAffineValidUptoSaid : Prop := fnExactAffineValidUptoRow.holds Try.pinned (OpenSpec.upto fnExactAffineValidSpec)

/-- 'laws.FnExactAffineSame', WHERE WHAT IT READS IS OF BULK AT MOST 1048576: true; the input reads as it did. -/
def fnExactAffineSameUptoRow : OpenClaim := { program := "ytcdneemljcojpaa", sum := "43962c4a5aff1dacaf2a4da79f5147554618371a3ec567a7d02c54880caf901c", func := "loop.example/loopnests/laws.FnExactAffineSame", spec := "fnExactAffineSame", apart := false, narrowed := true }
def FnExactAffineSameUptoSaid : Prop := fnExactAffineSameUptoRow.holds Try.pinned (OpenSpec.upto fnExactAffineSameSpec)

/-- 'laws.FnExactEvalAffine', WHERE WHAT IT READS IS OF BULK AT MOST 1048576: true; the input reads as it did. -/
def fnExactEvalAffineUptoRow : OpenClaim := { program := "ytcdneemljcojpaa", sum := "43962c4a5aff1dacaf2a4da79f5147554618371a3ec567a7d02c54880caf901c", func := "loop.example/loopnests/laws.FnExactEvalAffine", spec := "fnExactEvalAffine", apart := false, narrowed := true }
def FnExactEvalAffineUptoSaid : Prop := fnExactEvalAffineUptoRow.holds Try.pinned (OpenSpec.upto fnExactEvalAffineSpec)

/-- 'laws.FnExactAddAffine', WHERE WHAT IT READS IS OF BULK AT MOST 1048576: true; the input reads as it did. -/
def fnExactAddAffineUptoRow : OpenClaim := { program := "ytcdneemljcojpaa", sum := "43962c4a5aff1dacaf2a4da79f5147554618371a3ec567a7d02c54880caf901c", func := "loop.example/loopnests/laws.FnExactAddAffine", spec := "fnExactAddAffine", apart := false, narrowed := true }
def FnExactAddAffineUptoSaid : Prop := fnExactAddAffineUptoRow.holds Try.pinned (OpenSpec.upto fnExactAddAffineSpec)

/-- 'laws.FnExactScaleAffine', WHERE WHAT IT READS IS OF BULK AT MOST 1048576: true; the input reads as it did. -/
def fnExactScaleAffineUptoRow : OpenClaim := { program := "ytcdneemljcojpaa", sum := "43962c4a5aff1dacaf2a4da79f5147554618371a3ec567a7d02c54880caf901c", func := "loop.example/loopnests/laws.FnExactScaleAffine", spec := "fnExactScaleAffine", apart := false, narrowed := true }
def FnExactScaleAffineUptoSaid : Prop := fnExactScaleAffineUptoRow.holds Try.pinned (OpenSpec.upto fnExactScaleAffineSpec)

/-- 'laws.FnExactSubstAffine', WHERE WHAT IT READS IS OF BULK AT MOST 1048576: true; the input reads as it did. -/
def fnExactSubstAffineUptoRow : OpenClaim := { program := "ytcdneemljcojpaa", sum := "43962c4a5aff1dacaf2a4da79f5147554618371a3ec567a7d02c54880caf901c", func := "loop.example/loopnests/laws.FnExactSubstAffine", spec := "fnExactSubstAffine", apart := false, narrowed := true }
def FnExactSubstAffineUptoSaid : Prop := fnExactSubstAffineUptoRow.holds Try.pinned (OpenSpec.upto fnExactSubstAffineSpec)

/-- 'laws.FnExactAffineDepth', WHERE WHAT IT READS IS OF BULK AT MOST 1048576: true; the input reads as it did. -/
def fnExactAffineDepthUptoRow : OpenClaim := { program := "ytcdneemljcojpaa", sum := "43962c4a5aff1dacaf2a4da79f5147554618371a3ec567a7d02c54880caf901c", func := "loop.example/loopnests/laws.FnExactAffineDepth", spec := "fnExactAffineDepth", apart := false, narrowed := true }
def FnExactAffineDepthUptoSaid : Prop := fnExactAffineDepthUptoRow.holds Try.pinned (OpenSpec.upto fnExactAffineDepthSpec)

/-- 'laws.FnExactVarAffine', WHERE WHAT IT READS IS OF BULK AT MOST 1048576: true; the input reads as it did. -/
def fnExactVarAffineUptoRow : OpenClaim := { program := "ytcdneemljcojpaa", sum := "43962c4a5aff1dacaf2a4da79f5147554618371a3ec567a7d02c54880caf901c", func := "loop.example/loopnests/laws.FnExactVarAffine", spec := "fnExactVarAffine", apart := false, narrowed := true }
def FnExactVarAffineUptoSaid : Prop := fnExactVarAffineUptoRow.holds Try.pinned (OpenSpec.upto fnExactVarAffineSpec)

end Rows
end Go.Proofs.Ytcdneemljcojpaa
