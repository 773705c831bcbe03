/- The texts A13 A14 A15 N0, joined. No statement is proved here. -/
import Derived.Test.YtccibfldadflkaaK05
import Derived.Test.YtccibfldadflkaaK04
import Derived.Test.YtccibfldadflkaaK07
import Derived.Deep.RegionHeld3
import Derived.Test.YtccibfldadflkaaK01
/- Contracts: the model's sums and multiples. -/
namespace Go.Proofs.Ytccibfldadflkaa
open Go.RowKit

end Go.Proofs.Ytccibfldadflkaa

/- Contracts: multiples. -/
namespace Go.Proofs.Ytccibfldadflkaa
open Go.RowKit

end Go.Proofs.Ytccibfldadflkaa

/- Contracts: substitutions. -/
namespace Go.Proofs.Ytccibfldadflkaa
open Go.RowKit

end Go.Proofs.Ytccibfldadflkaa

/- How lists of expressions and nests read in memory. No statement of the seat is proved here. -/
namespace Go.Proofs.Ytccibfldadflkaa
open Go.RowKit

/-- The value v is a slice of structs of two cells, each of which reads by R. -/
def PairsAt {α : Type} (R : World → Value → Value → α → Prop) (w : World) (v : Value) (xs : List α) : Prop :=
  ∃ p c, v = .slice p xs.length c ∧ xs.length ≤ 9223372036854775807 ∧ ∀ i x, xs[i]? = some x → ∃ b off u0 u1, p = some ⟨b, off, none⟩ ∧ w.cell? ⟨b, off + i * 2, none⟩ = some u0 ∧ w.cell? ⟨b, off + i * 2 + 1, none⟩ = some u1 ∧ b < w.heap.size ∧ R w u0 u1 x

theorem PairsAt.ext {α : Type} {R : World → Value → Value → α → Prop} (hR : ∀ {w w' u0 u1 x}, R w u0 u1 x → Ext w w' → R w' u0 u1 x) {w w' : World} {v : Value} {xs : List α} (h : PairsAt R w v xs) (hb : Ext w w') : PairsAt R w' v xs := by
  obtain ⟨p, c, hv, hm, hc⟩ := h
  refine ⟨p, c, hv, hm, fun i x hi => ?_⟩
  obtain ⟨b, off, u0, u1, hp, h0, h1, hlt, hr⟩ := hc i x hi
  exact ⟨b, off, u0, u1, hp, hb.keep h0, hb.keep h1, Nat.lt_of_lt_of_le hlt hb.size_le, hR hr hb⟩

/-- An expression: coefficients and constant. -/
abbrev Aff := List Int × Int
def AffR (w : World) (u0 u1 : Value) (a : Aff) : Prop := IntsAt w u0 a.1 ∧ u1 = .int .i64 a.2
theorem AffR.ext {w w' : World} {u0 u1 : Value} {a : Aff} (h : AffR w u0 u1 a) (hb : Ext w w') : AffR w' u0 u1 a := ⟨h.1.ext hb, h.2⟩
/-- The value v reads as a list of expressions. -/
def AffsAt : World → Value → List Aff → Prop := PairsAt AffR
theorem AffsAt.ext {w w' : World} {v : Value} {xs : List Aff} (h : AffsAt w v xs) (hb : Ext w w') : AffsAt w' v xs := PairsAt.ext (R := AffR) (fun h hb => h.ext hb) h hb

/-- A loop: its two sides. -/
abbrev Lp := List Aff × List Aff
def LoopR (w : World) (u0 u1 : Value) (a : Lp) : Prop := AffsAt w u0 a.1 ∧ AffsAt w u1 a.2
theorem LoopR.ext {w w' : World} {u0 u1 : Value} {a : Lp} (h : LoopR w u0 u1 a) (hb : Ext w w') : LoopR w' u0 u1 a := ⟨h.1.ext hb, h.2.ext hb⟩
/-- The value v reads as a nest. -/
def LoopsAt : World → Value → List Lp → Prop := PairsAt LoopR
theorem LoopsAt.ext {w w' : World} {v : Value} {xs : List Lp} (h : LoopsAt w v xs) (hb : Ext w w') : LoopsAt w' v xs := PairsAt.ext (R := LoopR) (fun h hb => h.ext hb) h hb

/-- A row of pairs of the call's own, as a list of pairs. -/
theorem PairsAt.own {α : Type} {R : World → Value → Value → α → Prop} {B : Nat} {w : World} {e : TypeId} {g n cap : Nat} {vs : List Value} {xs : List α} (h : w.ownsRow B e 2 (.slice (some ⟨g, 0, none⟩) n cap) n vs) (hn : xs.length = n)
    (hr : ∀ i x, xs[i]? = some x → ∃ u0 u1, vs[i * 2]? = some u0 ∧ vs[i * 2 + 1]? = some u1 ∧ R w u0 u1 x) : PairsAt R w (.slice (some ⟨g, 0, none⟩) n cap) xs := by
  have hm : n ≤ 9223372036854775807 := by
    rcases h.2 with ⟨_, h0⟩ | ⟨_, cap', _, hv, _, _, h1, h2, _⟩
    · omega
    · unfold maxLen at h2; cases hv; omega
  refine ⟨_, _, by rw [hn], by omega, fun i x hi => ?_⟩
  obtain ⟨u0, u1, h0, h1, hx⟩ := hr i x hi
  have hlt : i < n := by rw [← hn]; exact (List.getElem?_eq_some_iff.1 hi).1
  refine ⟨g, 0, u0, u1, rfl, ?_, ?_, (h.lt g rfl).2, hx⟩
  · rw [Nat.zero_add, h.cellAt (i * 2) (by omega)]; exact h0
  · rw [Nat.zero_add, h.cellAt (i * 2 + 1) (by omega)]; exact h1

end Go.Proofs.Ytccibfldadflkaa
