/- The texts D3 A17, joined. No statement is proved here. -/
import Derived.Test.YtccibfldadflkaaQS18
import Derived.Test.YtccibfldadflkaaQS40
import Derived.Test.YtccibfldadflkaaQS07
import Derived.Deep.AppendLies
import Derived.Deep.RegionLaw
import Derived.Deep.DeepCutAuto
import Derived.Deep.RegionHeld3
/- Draws: an element of a list, a place. -/
namespace Go.Proofs.Ytccibfldadflkaa
open Go.RowKit

/-- Since w0 only new blocks, and writes to block g. -/
def Dr (w0 : World) (g : Nat) (w : World) : Prop := w0.grownBy w (some g)
theorem Dr.refl (w : World) (g : Nat) : Dr w g w := World.grownBy.refl _ _
theorem Dr.trans {a b c : World} {g : Nat} (h : Dr a g b) (k : Dr b g c) : Dr a g c := grownBy_trans h k
theorem Dr.ext {a b c : World} {g : Nat} (h : Dr a g b) (k : Ext b c) : Dr a g c := grownBy_trans h (k.grownBy _)
theorem Dr.alloc {a b : World} {g : Nat} (h : Dr a g b) (o : Obj) : Dr a g (b.alloc o) := h.ext ((Ext.refl b).alloc o)
theorem Dr.drew {a b : World} {g : Nat} (h : Dr a g b) : Dr a g b.drew := h.ext (Ext.refl b).drew
/-- A row that has been made since w0 is written. -/
theorem Dr.fresh {a b c : World} {g : Nat} {row : Option Nat} (h : Dr a g b) (k : b.grownBy c row) (hr : ∀ j, row = some j → a.heap.size ≤ j) : Dr a g c :=
  ⟨k.os.trans h.os, k.tape.trans h.tape, k.output.trans h.output, Nat.le_trans h.size k.size, fun i hi hne => (k.block i (Nat.lt_of_lt_of_le hi h.size) (fun e => by have := hr i e.symm; omega)).trans (h.block i hi hne)⟩
theorem Dr.set {a b : World} {g : Nat} (h : Dr a g b) {j o : Nat} (hj : a.heap.size ≤ j) (u : Value) : Dr a g (b.setCell ⟨j, o, none⟩ u) := h.fresh (grown_set b j o u) (fun k e => by have := Option.some.inj e; omega)
theorem Dr.ext0 {W a b : World} {g : Nat} (h : Dr a g b) (hE : Ext W a) (hg : W.heap.size ≤ g) : Ext W b := hE.grownRd h hg

theorem Rd.lt {W : World} {g K : Nat} {w : World} (h : Rd W g K w) : g < w.heap.size := by
  obtain ⟨p, n, c, hb, k, h1, h2, h3, h4, h5⟩ := h
  exact lt_of_block h2

theorem own_form' {B size n : Nat} {e : TypeId} {w : World} {v : Value} {xs : List Value} (h : w.ownsRow B e size v n xs) (hv : v ≠ .slice none 0 0) : ∃ b c, v = .slice (some ⟨b, 0, none⟩) n c ∧ n ≤ c := by
  rcases h.2 with ⟨rfl, rfl⟩ | ⟨g, cap, cur, rfl, _, _, h1, _⟩
  · exact absurd rfl hv
  · exact ⟨_, _, rfl, h1⟩

end Go.Proofs.Ytccibfldadflkaa

/- Contracts: the model's substitution. -/
namespace Go.Proofs.Ytccibfldadflkaa
open Go.RowKit

end Go.Proofs.Ytccibfldadflkaa
