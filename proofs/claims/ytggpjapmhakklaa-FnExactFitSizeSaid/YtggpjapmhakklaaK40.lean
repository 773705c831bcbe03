/- The texts N2 N3, joined. No statement is proved here. -/
import Derived.Test.YtggpjapmhakklaaK31
/- Contracts of the laws' own helpers for lists of expressions and nests: copies. -/
namespace Go.Proofs.Ytggpjapmhakklaa
open Go.RowKit

/-- A row of pairs, of the call's own, with what is behind its elements (from block B on, too). -/
def PairsOwn {α : Type} (T : TypeId) (R : Nat → World → Value → Value → α → Prop) (B : Nat) (w : World) (v : Value) (xs : List α) : Prop :=
  ∃ vs, w.ownsRow B T 2 v xs.length vs ∧ ∀ i x, xs[i]? = some x → ∃ u0 u1, vs[i * 2]? = some u0 ∧ vs[i * 2 + 1]? = some u1 ∧ R B w u0 u1 x

def AffO (B : Nat) (w : World) (u0 u1 : Value) (a : Aff) : Prop := IntsOwn B w u0 a.1 ∧ u1 = .int .i64 a.2
def AffsOwn : Nat → World → Value → List Aff → Prop := PairsOwn 45 AffO
theorem PairsOwn.at' {α : Type} {T : TypeId} {R : Nat → World → Value → Value → α → Prop} {Q : World → Value → Value → α → Prop} (hq : ∀ {B w u0 u1 x}, R B w u0 u1 x → Q w u0 u1 x) {B : Nat} {w : World} {v : Value} {xs : List α} (h : PairsOwn T R B w v xs) : PairsAt Q w v xs := by
  obtain ⟨vs, ho, hr⟩ := h
  rcases ho.2 with ⟨rfl, hn⟩ | ⟨g, cap, cur, rfl, _⟩
  · refine ⟨none, 0, by rw [hn], by omega, fun i x hi => ?_⟩
    rw [List.eq_nil_of_length_eq_zero hn] at hi; simp at hi
  · refine PairsAt.own ho rfl (fun i x hi => ?_)
    obtain ⟨u0, u1, h0, h1, h2⟩ := hr i x hi
    exact ⟨u0, u1, h0, h1, hq h2⟩
theorem PairsOwn.map' {α : Type} {T : TypeId} {R : Nat → World → Value → Value → α → Prop} {B B' : Nat} {w w' : World} {v : Value} {xs : List α} (h : PairsOwn T R B w v xs) (ho : ∀ vs, w.ownsRow B T 2 v xs.length vs → w'.ownsRow B' T 2 v xs.length vs) (hR : ∀ {u0 u1 x}, R B w u0 u1 x → R B' w' u0 u1 x) : PairsOwn T R B' w' v xs := by
  obtain ⟨vs, h1, hr⟩ := h
  refine ⟨vs, ho vs h1, fun i x hi => ?_⟩
  obtain ⟨u0, u1, h0, h1, h2⟩ := hr i x hi
  exact ⟨u0, u1, h0, h1, hR h2⟩

theorem AffsOwn.at {B : Nat} {w : World} {v : Value} {xs : List Aff} (h : AffsOwn B w v xs) : AffsAt w v xs := PairsOwn.at' (fun h => ⟨h.1.at, h.2⟩) h
theorem AffsOwn.ext {B : Nat} {w w' : World} {v : Value} {xs : List Aff} (h : AffsOwn B w v xs) (hb : Ext w w') : AffsOwn B w' v xs := PairsOwn.map' h (fun _ h => ownsRow_ext h hb) (fun h => ⟨h.1.ext hb, h.2⟩)
theorem AffsOwn.weak {B B' : Nat} {w : World} {v : Value} {xs : List Aff} (h : AffsOwn B w v xs) (hB : B' ≤ B) : AffsOwn B' w v xs := PairsOwn.map' h (fun _ h => ownsRow_weak h hB) (fun h => ⟨h.1.weak hB, h.2⟩)
/-- The first k elements of a row of n pairs are written. -/
def PairRow {α : Type} (T : TypeId) (R : Nat → World → Value → Value → α → Prop) (B Bi g n : Nat) (xs : List α) (k : Nat) (w : World) : Prop :=
  ∃ vs, w.ownsRow B T 2 (.slice (some ⟨g, 0, none⟩) n n) n vs ∧ ∀ i x, i < k → xs[i]? = some x → ∃ u0 u1, vs[i * 2]? = some u0 ∧ vs[i * 2 + 1]? = some u1 ∧ R Bi w u0 u1 x

theorem PairRow.done {α : Type} {T : TypeId} {R : Nat → World → Value → Value → α → Prop} (hweak : ∀ {B B' w u0 u1 x}, R B w u0 u1 x → B' ≤ B → R B' w u0 u1 x) {B g n : Nat} {xs : List α} {w : World} (h : PairRow T R B (g + 1) g n xs n w) (hn : xs.length = n) (hB : B ≤ g) :
    PairsOwn T R B w (.slice (some ⟨g, 0, none⟩) n n) xs := by
  obtain ⟨vs, ho, hv⟩ := h
  refine ⟨vs, by rw [hn]; exact ho, fun i x hi => ?_⟩
  have hlt : i < n := by rw [← hn]; exact (List.getElem?_eq_some_iff.1 hi).1
  obtain ⟨u0, u1, h0, h1, h2⟩ := hv i x hlt hi
  exact ⟨u0, u1, h0, h1, hweak h2 (by omega)⟩

end Go.Proofs.Ytggpjapmhakklaa

/- Contracts of the laws' own helpers for nests: copies of loops and nests. -/
namespace Go.Proofs.Ytggpjapmhakklaa
open Go.RowKit

theorem blk_off {a : World} {g g' o' : Nat} {o : Obj} (hg : a.heap[g]? = some o) (hne : g ≠ g') (u : Value) : (a.setCell ⟨g', o', none⟩ u).heap[g]? = some o := (Below.heap_setCell _ _ _ _ hne).trans hg

end Go.Proofs.Ytggpjapmhakklaa
