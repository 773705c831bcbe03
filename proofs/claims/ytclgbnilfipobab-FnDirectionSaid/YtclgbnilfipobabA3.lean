/- Contracts: equality of affine expressions, marks. -/
import Derived.Test.YtclgbnilfipobabA2
namespace Go.Proofs.Ytclgbnilfipobab
open Go.RowKit

/-- Two affine expressions are the same. -/
def affEqB (xs : List Int) (c : Int) (ys : List Int) (d : Int) : Bool := eqB xs ys && decide (c = d)

/-- The marks k, k + 1, .. of n elements. -/
def marks (k : Int) (n : Nat) : List Int := (List.range n).map (fun (i : Nat) => k + (i : Int))
theorem marks_len (k : Int) (n : Nat) : (marks k n).length = n := by simp [marks]
theorem marks_get (k : Int) (n i : Nat) (h : i < n) : (marks k n)[i]? = some (k + (i : Int)) := by simp [marks, h]
theorem marks_next (xs : List Int) (k : Int) (i : Nat) (h : i < xs.length) :
    ((marks k i ++ xs.drop i).map (Value.int .i64)).set i (.int .i64 (k + (i : Int))) = (marks k (i + 1) ++ xs.drop (i + 1)).map (Value.int .i64) := by
  rw [← List.map_set]
  congr 1
  rw [List.drop_eq_getElem_cons h]
  have hl : i = (marks k i).length := (marks_len k i).symm
  conv => lhs; arg 2; rw [hl]
  rw [List.set_append_right _ _ (Nat.le_refl _), Nat.sub_self, List.set_cons_zero]
  simp [marks, List.range_succ]

theorem grownBy_trans {a b c : World} {r : Option Nat} (h : a.grownBy b r) (k : b.grownBy c r) : a.grownBy c r :=
  ⟨k.os.trans h.os, k.tape.trans h.tape, k.output.trans h.output, Nat.le_trans h.size k.size, fun i hi hr => (k.block i (Nat.lt_of_lt_of_le hi h.size) hr).trans (h.block i hi hr)⟩
theorem Ext.grownBy {a b : World} (h : Ext a b) (r : Option Nat) : a.grownBy b r := ⟨h.os, h.tape, h.output, h.size, fun i hi _ => h.block i hi⟩

end Go.Proofs.Ytclgbnilfipobab
