/- Contracts: copies of lists, linear expressions back to affine ones. -/
import Derived.Test.YtclgbnilfipobabA4
namespace Go.Proofs.Ytclgbnilfipobab
open Go.RowKit

theorem underSliceInt : Try.prog.underlying 22 = some (.slice 3) := by kernel_rfl

theorem blk_at {w : World} {o : Obj} {g : Nat} (h : g = w.heap.size) : (w.alloc o).heap[g]? = some o := by subst h; exact heap_alloc_new w o
theorem blk_old {w : World} {o o' : Obj} {g : Nat} (h : w.heap[g]? = some o') : (w.alloc o).heap[g]? = some o' := (Below.heap_alloc _ _ _ (lt_of_block h)).trans h
theorem Ext.setAt {a b : World} (h : Ext a b) {g o : Nat} (hg : a.heap.size ≤ g) (u : Value) : Ext a (b.setCell ⟨g, o, none⟩ u) := h.setCell hg u
theorem IntsOwn.setAt {B : Nat} {w : World} {v : Value} {xs : List Int} (h : IntsOwn B w v xs) {g o : Nat} (hg : g < B) (u : Value) : IntsOwn B (w.setCell ⟨g, o, none⟩ u) v xs := h.setOld hg u
theorem Ext.blk {a b : World} {g : Nat} {o : Obj} (h : Ext a b) (hg : a.heap[g]? = some o) : b.heap[g]? = some o := (h.block _ (lt_of_block hg)).trans hg
theorem blk2 {W : World} {g : Nat} {a b : Value} {t : TypeId} (h : W.heap[g]? = some (.cells #[a, b] t (0, 0))) :
    W.cell? ⟨g, 0, none⟩ = some a ∧ W.cell? ⟨g, 1, none⟩ = some b ∧ W.frozen? ⟨g, 0, none⟩ = false ∧ W.frozen? ⟨g, 1, none⟩ = false := by
  simp [World.cell?, World.frozen?, h]
theorem blk2_set {W : World} {g : Nat} {a b c d : Value} {t : TypeId} (h : W.heap[g]? = some (.cells #[a, b] t (0, 0))) :
    ((W.setCell ⟨g, 0, none⟩ c).setCell ⟨g, 1, none⟩ d).heap[g]? = some (.cells #[c, d] t (0, 0)) := by
  have h1 := heap_setCell_same W g 0 #[a, b] t c h
  have h2 := heap_setCell_same _ g 1 _ t d h1
  simpa using h2

theorem cells4 {W : World} {g : Nat} {a b c d : Int} (h0 : W.cell? ⟨g, 0, none⟩ = some (.int .i64 a)) (h1 : W.cell? ⟨g, 1, none⟩ = some (.int .i64 b)) (h2 : W.cell? ⟨g, 2, none⟩ = some (.int .i64 c)) (h3 : W.cell? ⟨g, 3, none⟩ = some (.int .i64 d)) :
    ∀ i x, [a, b, c, d][i]? = some x → W.cell? ((⟨g, 0, none⟩ : Addr).add i) = some (.int .i64 x) := by
  intro i x hx
  rw [Addr.add_lit]
  match i, hx with
  | 0, hx => simp at hx; subst hx; exact h0
  | 1, hx => simp at hx; subst hx; exact h1
  | 2, hx => simp at hx; subst hx; exact h2
  | 3, hx => simp at hx; subst hx; exact h3

end Go.Proofs.Ytclgbnilfipobab
