/- The texts N5 S3, joined. No statement is proved here. -/
import Derived.Test.YtccibfldadflkaaQV33
import Derived.Test.YtccibfldadflkaaQV43
/- Contracts: sides of loops, validity of nests. -/
namespace Go.Proofs.Ytccibfldadflkaa
open Go.RowKit

/-- One bound of a side of a loop within d outer ones. -/
def boundB (d : Int) (a : Aff) : Bool := affValidB a.1 a.2 && decide (depR a.1 a.2 ≤ d)
theorem depR_four {a b c d k : Int} (h : affValidB [a, b, c, d] k = true) : depR [a, b, c, d] k = dep4 a b c d := by unfold depR; rw [if_pos h]; rfl

end Go.Proofs.Ytccibfldadflkaa

/- Statements: sizes, copies. No statement is proved here. -/
namespace Go.Proofs.Ytccibfldadflkaa
open Go.RowKit

/-- The value reads as a statement: array and subscripts of the element, expression. -/
def StR (w : World) (v : Value) (arr : ByteArray) (subs : List Aff) (e : Ex) : Prop := ∃ s cs, v = .agg (.string arr :: s :: cs).toArray ∧ arr.size ≤ 9223372036854775807 ∧ AffsAt w s subs ∧ ExR w cs e
theorem StR.ext {w w' : World} {v : Value} {arr : ByteArray} {subs : List Aff} {e : Ex} (h : StR w v arr subs e) (hE : Ext w w') : StR w' v arr subs e := by
  obtain ⟨s, cs, h1, h2, h3, h4⟩ := h
  exact ⟨s, cs, h1, h2, h3.ext hE, h4.ext hE⟩
theorem StR.parts {w : World} {v : Value} {arr : ByteArray} {subs : List Aff} {e : Ex} (h : StR w v arr subs e) :
    ∃ q1 d1 q2 d2 q3 d3 q4 d4, v = .agg #[.string arr, .slice q1 subs.length d1, .int .i64 e.kind, .int .i64 e.num, .slice q2 e.ix.1.length d2, .int .i64 e.ix.2, .string e.arr, .slice q3 e.subs.length d3, .slice q4 e.kids.length d4] ∧
      arr.size ≤ 9223372036854775807 ∧ AffsAt w (.slice q1 subs.length d1) subs ∧ ExR w [.int .i64 e.kind, .int .i64 e.num, .slice q2 e.ix.1.length d2, .int .i64 e.ix.2, .string e.arr, .slice q3 e.subs.length d3, .slice q4 e.kids.length d4] e := by
  obtain ⟨s, cs, rfl, h2, h3, h4⟩ := h
  obtain ⟨q1, d1, rfl, -⟩ := h3.form
  obtain ⟨u, s, v, rfl, hu, -, hs, hv⟩ := h4.parts
  obtain ⟨q2, d2, rfl, -, -⟩ := hu
  obtain ⟨q3, d3, rfl, -⟩ := hs.form
  obtain ⟨q4, d4, rfl, -⟩ := hv.form
  exact ⟨q1, d1, q2, d2, q3, d3, q4, d4, rfl, h2, h3, h4⟩
theorem blk9 {W : World} {g : Nat} {a0 a1 a2 a3 a4 a5 a6 a7 a8 : Value} {t : TypeId} (h : W.heap[g]? = some (.cells #[a0, a1, a2, a3, a4, a5, a6, a7, a8] t (0, 0))) :
    W.cell? ⟨g, 0, none⟩ = some a0 ∧ W.cell? ⟨g, 1, none⟩ = some a1 ∧ W.cell? ⟨g, 2, none⟩ = some a2 ∧ W.cell? ⟨g, 3, none⟩ = some a3 ∧ W.cell? ⟨g, 4, none⟩ = some a4 ∧ W.cell? ⟨g, 5, none⟩ = some a5 ∧ W.cell? ⟨g, 6, none⟩ = some a6 ∧ W.cell? ⟨g, 7, none⟩ = some a7 ∧ W.cell? ⟨g, 8, none⟩ = some a8 := by
  simp [World.cell?, h]
/-- A statement of the call's own. -/
def StO (B : Nat) (w : World) (v : Value) (arr : ByteArray) (subs : List Aff) (e : Ex) : Prop := ∃ s cs, v = .agg (.string arr :: s :: cs).toArray ∧ arr.size ≤ 9223372036854775807 ∧ AffsOwn B w s subs ∧ ExO B w cs e
theorem StO.at {B : Nat} {w : World} {v : Value} {arr : ByteArray} {subs : List Aff} {e : Ex} (h : StO B w v arr subs e) : StR w v arr subs e := by
  obtain ⟨s, cs, h1, h2, h3, h4⟩ := h
  exact ⟨s, cs, h1, h2, h3.at, h4.at⟩

end Go.Proofs.Ytccibfldadflkaa
