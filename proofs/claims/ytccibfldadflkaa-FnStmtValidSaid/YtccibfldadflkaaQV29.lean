/- The texts A5 A6, joined. No statement is proved here. -/
import Derived.Test.YtccibfldadflkaaQV00
/- Contracts: copies of lists, linear expressions back to affine ones. -/
namespace Go.Proofs.Ytccibfldadflkaa
open Go.RowKit

theorem underSliceInt : Try.prog.underlying 22 = some (.slice 3) := by kernel_rfl

theorem blk_at {w : World} {o : Obj} {g : Nat} (h : g = w.heap.size) : (w.alloc o).heap[g]? = some o := by subst h; exact heap_alloc_new w o
theorem blk_old {w : World} {o o' : Obj} {g : Nat} (h : w.heap[g]? = some o') : (w.alloc o).heap[g]? = some o' := (Below.heap_alloc _ _ _ (lt_of_block h)).trans h
theorem Ext.setAt {a b : World} (h : Ext a b) {g o : Nat} (hg : a.heap.size ≤ g) (u : Value) : Ext a (b.setCell ⟨g, o, none⟩ u) := h.setCell hg u
theorem IntsOwn.setAt {B : Nat} {w : World} {v : Value} {xs : List Int} (h : IntsOwn B w v xs) {g o : Nat} (hg : g < B) (u : Value) : IntsOwn B (w.setCell ⟨g, o, none⟩ u) v xs := h.setOld hg u
theorem Ext.blk {a b : World} {g : Nat} {o : Obj} (h : Ext a b) (hg : a.heap[g]? = some o) : b.heap[g]? = some o := (h.block _ (lt_of_block hg)).trans hg
theorem blk2 {W : World} {g : Nat} {a b : Value} {t : TypeId} (h : W.heap[g]? = some (.cells #[a, b] t (0, 0))) :
    W.cell? ⟨g, 0, none⟩ = some a ∧ W.cell? ⟨g, 1, none⟩ = some b ∧ W.frozen? ⟨g, 0, none⟩ = false ∧ W.frozen? ⟨g, 1, none⟩ = false := by
  simp [World.cell?, World.frozen?, h]
theorem blk2_set {W : World} {g : Nat} {a b c d : Value} {t : TypeId} (h : W.heap[g]? = some (.cells #[a, b] t (0, 0))) :
    ((W.setCell ⟨g, 0, none⟩ c).setCell ⟨g, 1, none⟩ d).heap[g]? = some (.cells #[c, d] t (0, 0)) := by
  have h1 := heap_setCell_same W g 0 #[a, b] t c h
  have h2 := heap_setCell_same _ g 1 _ t d h1
  simpa using h2

end Go.Proofs.Ytccibfldadflkaa

/- Contracts: sums, multiples, substitutions. -/
namespace Go.Proofs.Ytccibfldadflkaa
open Go.RowKit

/-- An affine expression and a bool are handed back, the expression in new memory. -/
def AffRet (B : Nat) (w : World) (e : Ending) (r : List Int × Int × Bool) : Prop :=
  ∃ p cc, e = .returned (.tuple #[.agg #[.slice p r.1.length cc, .int .i64 r.2.1], .bool r.2.2]) ∧ IntsOwn B w (.slice p r.1.length cc) r.1

theorem AffRet.none (B : Nat) (w : World) : AffRet B w (.returned (.tuple #[.agg #[.slice none 0 0, .int .i64 0], .bool false])) ([], 0, false) :=
  ⟨Option.none, 0, rfl, World.ownsRow_nil _ _ _ _⟩
theorem AffRet.weak {B B' : Nat} {w : World} {e : Ending} {r : List Int × Int × Bool} (h : AffRet B w e r) (hB : B' ≤ B) : AffRet B' w e r := by
  obtain ⟨p, cc, h1, h2⟩ := h
  exact ⟨p, cc, h1, h2.weak hB⟩

end Go.Proofs.Ytccibfldadflkaa
