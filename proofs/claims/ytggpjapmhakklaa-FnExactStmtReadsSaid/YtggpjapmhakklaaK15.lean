/- The texts A12 D1, joined. No statement is proved here. -/
import Derived.Test.YtggpjapmhakklaaK13
import Derived.Deep.AppendLies
import Derived.Deep.RegionLaw
import Derived.Deep.RegionHeld3
import Derived.BigQuiet
import Derived.Deep.QuietTactic
/- Contracts: the model's combination of two expressions. -/
namespace Go.Proofs.Ytggpjapmhakklaa
open Go.RowKit

theorem cell_setAt {w : World} {g o b o' : Nat} (u : Value) (h : b ≠ g) : (w.setCell ⟨g, o, none⟩ u).cell? ⟨b, o', none⟩ = w.cell? ⟨b, o', none⟩ := World.cell?_of_block (Below.heap_setCell _ _ _ _ h)

theorem grownBy_blk {a b : World} {r : Option Nat} {g : Nat} {o : Obj} (h : a.grownBy b r) (hg : a.heap[g]? = some o) (hne : some g ≠ r) : b.heap[g]? = some o := (h.block _ (lt_of_block hg) hne).trans hg
end Go.Proofs.Ytggpjapmhakklaa

/- The drawing helpers: the source of bytes, and a number from it. -/
namespace Go.Proofs.Ytggpjapmhakklaa
open Go.RowKit

/-- The value v is a slice of bytes that reads in w. -/
def BytesAt (w : World) (p : Option Addr) (n c : Nat) : Prop :=
  n ≤ c ∧ n ≤ 9223372036854775807 ∧ ∀ i, i < n → ∃ b off, ∃ x : Nat, p = some ⟨b, off, none⟩ ∧ w.cell? ⟨b, off + i, none⟩ = some (.int .u8 x) ∧ x < 256
theorem BytesAt.ext {w w' : World} {p : Option Addr} {n c : Nat} (h : BytesAt w p n c) (hb : Ext w w') : BytesAt w' p n c := by
  refine ⟨h.1, h.2.1, fun i hi => ?_⟩
  obtain ⟨b, off, x, hp, hc, hx⟩ := h.2.2 i hi
  exact ⟨b, off, x, hp, hb.keep hc, hx⟩

theorem BytesAt.grown {w w' : World} {g : Nat} {p : Option Addr} {n c : Nat} (h : BytesAt w p n c) (hg : w.grownBy w' (some g)) (hp : ∀ b off, 0 < n → p = some ⟨b, off, none⟩ → b < g) : BytesAt w' p n c := by
  refine ⟨h.1, h.2.1, fun i hi => ?_⟩
  obtain ⟨b, off, x, e, hc, hx⟩ := h.2.2 i hi
  refine ⟨b, off, x, e, ?_, hx⟩
  have hb := hp b off (by omega) e
  have := hg.block b (World.block_lt_of_cell? w _ hc) (fun e => by have := Option.some.inj e; omega)
  exact (World.cell?_of_block this).trans hc
theorem Ext.grownRd {W w w' : World} {g : Nat} (h : Ext W w) (hg : w.grownBy w' (some g)) (hB : W.heap.size ≤ g) : Ext W w' :=
  h.grown hg (fun k e => by have := Option.some.inj e; omega)

theorem blk2_set1'' {W : World} {g : Nat} {a b : Value} {t : TypeId} (h : W.heap[g]? = some (.cells #[a, b] t (0, 0))) (c : Value) : (W.setCell ⟨g, 1, none⟩ c).heap[g]? = some (.cells #[a, c] t (0, 0)) := by
  rw [heap_setCell_same W g 1 _ _ c h]; rfl
theorem grown_set (w : World) (g o : Nat) (v : Value) : w.grownBy (w.setCell ⟨g, o, none⟩ v) (some g) :=
  ⟨rfl, rfl, rfl, by simp, fun k _ hk => heap_setCell_other w ⟨g, o, none⟩ k v (fun e => hk (by simp [e]))⟩

end Go.Proofs.Ytggpjapmhakklaa
