/- The texts N1 N2, joined. No statement is proved here. -/
import Derived.Test.YtccibfldadflkaaK48
import Derived.Test.YtccibfldadflkaaK39
/- Contracts of the laws' own helpers for lists of expressions and nests: sizes. -/
namespace Go.Proofs.Ytccibfldadflkaa
open Go.RowKit

end Go.Proofs.Ytccibfldadflkaa

/- Contracts of the laws' own helpers for lists of expressions and nests: copies. -/
namespace Go.Proofs.Ytccibfldadflkaa
open Go.RowKit

/-- A row of pairs, of the call's own, with what is behind its elements (from block B on, too). -/
def PairsOwn {α : Type} (T : TypeId) (R : Nat → World → Value → Value → α → Prop) (B : Nat) (w : World) (v : Value) (xs : List α) : Prop :=
  ∃ vs, w.ownsRow B T 2 v xs.length vs ∧ ∀ i x, xs[i]? = some x → ∃ u0 u1, vs[i * 2]? = some u0 ∧ vs[i * 2 + 1]? = some u1 ∧ R B w u0 u1 x

def AffO (B : Nat) (w : World) (u0 u1 : Value) (a : Aff) : Prop := IntsOwn B w u0 a.1 ∧ u1 = .int .i64 a.2
def AffsOwn : Nat → World → Value → List Aff → Prop := PairsOwn 36 AffO
def LoopO (B : Nat) (w : World) (u0 u1 : Value) (a : Lp) : Prop := AffsOwn B w u0 a.1 ∧ AffsOwn B w u1 a.2
def LoopsOwn : Nat → World → Value → List Lp → Prop := PairsOwn 75 LoopO

theorem PairsOwn.at' {α : Type} {T : TypeId} {R : Nat → World → Value → Value → α → Prop} {Q : World → Value → Value → α → Prop} (hq : ∀ {B w u0 u1 x}, R B w u0 u1 x → Q w u0 u1 x) {B : Nat} {w : World} {v : Value} {xs : List α} (h : PairsOwn T R B w v xs) : PairsAt Q w v xs := by
  obtain ⟨vs, ho, hr⟩ := h
  rcases ho.2 with ⟨rfl, hn⟩ | ⟨g, cap, cur, rfl, _⟩
  · refine ⟨none, 0, by rw [hn], by omega, fun i x hi => ?_⟩
    rw [List.eq_nil_of_length_eq_zero hn] at hi; simp at hi
  · refine PairsAt.own ho rfl (fun i x hi => ?_)
    obtain ⟨u0, u1, h0, h1, h2⟩ := hr i x hi
    exact ⟨u0, u1, h0, h1, hq h2⟩
theorem PairsOwn.map' {α : Type} {T : TypeId} {R : Nat → World → Value → Value → α → Prop} {B B' : Nat} {w w' : World} {v : Value} {xs : List α} (h : PairsOwn T R B w v xs) (ho : ∀ vs, w.ownsRow B T 2 v xs.length vs → w'.ownsRow B' T 2 v xs.length vs) (hR : ∀ {u0 u1 x}, R B w u0 u1 x → R B' w' u0 u1 x) : PairsOwn T R B' w' v xs := by
  obtain ⟨vs, h1, hr⟩ := h
  refine ⟨vs, ho vs h1, fun i x hi => ?_⟩
  obtain ⟨u0, u1, h0, h1, h2⟩ := hr i x hi
  exact ⟨u0, u1, h0, h1, hR h2⟩

theorem AffsOwn.at {B : Nat} {w : World} {v : Value} {xs : List Aff} (h : AffsOwn B w v xs) : AffsAt w v xs := PairsOwn.at' (fun h => ⟨h.1.at, h.2⟩) h
theorem LoopsOwn.at {B : Nat} {w : World} {v : Value} {xs : List Lp} (h : LoopsOwn B w v xs) : LoopsAt w v xs := PairsOwn.at' (fun h => ⟨h.1.at, h.2.at⟩) h
theorem AffsOwn.ext {B : Nat} {w w' : World} {v : Value} {xs : List Aff} (h : AffsOwn B w v xs) (hb : Ext w w') : AffsOwn B w' v xs := PairsOwn.map' h (fun _ h => ownsRow_ext h hb) (fun h => ⟨h.1.ext hb, h.2⟩)
theorem LoopsOwn.ext {B : Nat} {w w' : World} {v : Value} {xs : List Lp} (h : LoopsOwn B w v xs) (hb : Ext w w') : LoopsOwn B w' v xs := PairsOwn.map' h (fun _ h => ownsRow_ext h hb) (fun h => ⟨h.1.ext hb, h.2.ext hb⟩)
theorem AffsOwn.weak {B B' : Nat} {w : World} {v : Value} {xs : List Aff} (h : AffsOwn B w v xs) (hB : B' ≤ B) : AffsOwn B' w v xs := PairsOwn.map' h (fun _ h => ownsRow_weak h hB) (fun h => ⟨h.1.weak hB, h.2⟩)
theorem LoopsOwn.weak {B B' : Nat} {w : World} {v : Value} {xs : List Lp} (h : LoopsOwn B w v xs) (hB : B' ≤ B) : LoopsOwn B' w v xs := PairsOwn.map' h (fun _ h => ownsRow_weak h hB) (fun h => ⟨h.1.weak hB, h.2.weak hB⟩)
theorem AffsOwn.setOld {B : Nat} {w : World} {v : Value} {xs : List Aff} (h : AffsOwn B w v xs) {p : Addr} (hp : p.block < B) (u : Value) : AffsOwn B (w.setCell p u) v xs := PairsOwn.map' h (fun _ h => ownsRow_setCell_below h hp u) (fun h => ⟨h.1.setOld hp u, h.2⟩)
theorem LoopsOwn.setOld {B : Nat} {w : World} {v : Value} {xs : List Lp} (h : LoopsOwn B w v xs) {p : Addr} (hp : p.block < B) (u : Value) : LoopsOwn B (w.setCell p u) v xs := PairsOwn.map' h (fun _ h => ownsRow_setCell_below h hp u) (fun h => ⟨h.1.setOld hp u, h.2.setOld hp u⟩)

/-- The first k elements of a row of n pairs are written. -/
def PairRow {α : Type} (T : TypeId) (R : Nat → World → Value → Value → α → Prop) (B Bi g n : Nat) (xs : List α) (k : Nat) (w : World) : Prop :=
  ∃ vs, w.ownsRow B T 2 (.slice (some ⟨g, 0, none⟩) n n) n vs ∧ ∀ i x, i < k → xs[i]? = some x → ∃ u0 u1, vs[i * 2]? = some u0 ∧ vs[i * 2 + 1]? = some u1 ∧ R Bi w u0 u1 x

theorem PairRow.done {α : Type} {T : TypeId} {R : Nat → World → Value → Value → α → Prop} (hweak : ∀ {B B' w u0 u1 x}, R B w u0 u1 x → B' ≤ B → R B' w u0 u1 x) {B g n : Nat} {xs : List α} {w : World} (h : PairRow T R B (g + 1) g n xs n w) (hn : xs.length = n) (hB : B ≤ g) :
    PairsOwn T R B w (.slice (some ⟨g, 0, none⟩) n n) xs := by
  obtain ⟨vs, ho, hv⟩ := h
  refine ⟨vs, by rw [hn]; exact ho, fun i x hi => ?_⟩
  have hlt : i < n := by rw [← hn]; exact (List.getElem?_eq_some_iff.1 hi).1
  obtain ⟨u0, u1, h0, h1, h2⟩ := hv i x hlt hi
  exact ⟨u0, u1, h0, h1, hweak h2 (by omega)⟩

end Go.Proofs.Ytccibfldadflkaa
