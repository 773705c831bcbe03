/- The texts N0 A9, joined. No statement is proved here. -/
import Derived.Test.YtccibfldadflkaaQV45
import Derived.Test.YtccibfldadflkaaQV07
/- How lists of expressions and nests read in memory. No statement of the seat is proved here. -/
namespace Go.Proofs.Ytccibfldadflkaa
open Go.RowKit

/-- The value v is a slice of structs of two cells, each of which reads by R. -/
def PairsAt {α : Type} (R : World → Value → Value → α → Prop) (w : World) (v : Value) (xs : List α) : Prop :=
  ∃ p c, v = .slice p xs.length c ∧ xs.length ≤ 9223372036854775807 ∧ ∀ i x, xs[i]? = some x → ∃ b off u0 u1, p = some ⟨b, off, none⟩ ∧ w.cell? ⟨b, off + i * 2, none⟩ = some u0 ∧ w.cell? ⟨b, off + i * 2 + 1, none⟩ = some u1 ∧ b < w.heap.size ∧ R w u0 u1 x

theorem PairsAt.ext {α : Type} {R : World → Value → Value → α → Prop} (hR : ∀ {w w' u0 u1 x}, R w u0 u1 x → Ext w w' → R w' u0 u1 x) {w w' : World} {v : Value} {xs : List α} (h : PairsAt R w v xs) (hb : Ext w w') : PairsAt R w' v xs := by
  obtain ⟨p, c, hv, hm, hc⟩ := h
  refine ⟨p, c, hv, hm, fun i x hi => ?_⟩
  obtain ⟨b, off, u0, u1, hp, h0, h1, hlt, hr⟩ := hc i x hi
  exact ⟨b, off, u0, u1, hp, hb.keep h0, hb.keep h1, Nat.lt_of_lt_of_le hlt hb.size_le, hR hr hb⟩

/-- An expression: coefficients and constant. -/
abbrev Aff := List Int × Int
def AffR (w : World) (u0 u1 : Value) (a : Aff) : Prop := IntsAt w u0 a.1 ∧ u1 = .int .i64 a.2
theorem AffR.ext {w w' : World} {u0 u1 : Value} {a : Aff} (h : AffR w u0 u1 a) (hb : Ext w w') : AffR w' u0 u1 a := ⟨h.1.ext hb, h.2⟩
/-- The value v reads as a list of expressions. -/
def AffsAt : World → Value → List Aff → Prop := PairsAt AffR
theorem AffsAt.ext {w w' : World} {v : Value} {xs : List Aff} (h : AffsAt w v xs) (hb : Ext w w') : AffsAt w' v xs := PairsAt.ext (R := AffR) (fun h hb => h.ext hb) h hb

/-- A loop: its two sides. -/
abbrev Lp := List Aff × List Aff
def LoopR (w : World) (u0 u1 : Value) (a : Lp) : Prop := AffsAt w u0 a.1 ∧ AffsAt w u1 a.2
theorem LoopR.ext {w w' : World} {u0 u1 : Value} {a : Lp} (h : LoopR w u0 u1 a) (hb : Ext w w') : LoopR w' u0 u1 a := ⟨h.1.ext hb, h.2.ext hb⟩
/-- The value v reads as a nest. -/
def LoopsAt : World → Value → List Lp → Prop := PairsAt LoopR
theorem LoopsAt.ext {w w' : World} {v : Value} {xs : List Lp} (h : LoopsAt w v xs) (hb : Ext w w') : LoopsAt w' v xs := PairsAt.ext (R := LoopR) (fun h hb => h.ext hb) h hb

theorem AffsAt.form {w : World} {v : Value} {xs : List Aff} (h : AffsAt w v xs) : ∃ p c, v = .slice p xs.length c ∧ xs.length ≤ 9223372036854775807 := by
  obtain ⟨p, c, hv, hm, _⟩ := h; exact ⟨p, c, hv, hm⟩
theorem LoopsAt.form {w : World} {v : Value} {xs : List Lp} (h : LoopsAt w v xs) : ∃ p c, v = .slice p xs.length c ∧ xs.length ≤ 9223372036854775807 := by
  obtain ⟨p, c, hv, hm, _⟩ := h; exact ⟨p, c, hv, hm⟩

/-- Element i of a list of expressions. -/
theorem AffsAt.elem {w : World} {p : Option Addr} {n c : Nat} {xs : List Aff} (h : AffsAt w (.slice p n c) xs) {i : Nat} {x : Aff} (hi : xs[i]? = some x) :
    ∃ b off q m, p = some ⟨b, off, none⟩ ∧ w.cell? ⟨b, off + i * 2, none⟩ = some (.slice q x.1.length m) ∧ w.cell? ⟨b, off + i * 2 + 1, none⟩ = some (.int .i64 x.2) ∧ b < w.heap.size ∧ IntsAt w (.slice q x.1.length m) x.1 := by
  obtain ⟨p', c', hv, hm, hc⟩ := h
  cases hv
  obtain ⟨b, off, u0, u1, hp, h0, h1, hlt, hr, rfl⟩ := hc i x hi
  obtain ⟨q, m, rfl, _⟩ := id hr
  exact ⟨b, off, q, m, hp, h0, h1, hlt, hr⟩
/-- Element i of a nest. -/
theorem LoopsAt.elem {w : World} {p : Option Addr} {n c : Nat} {xs : List Lp} (h : LoopsAt w (.slice p n c) xs) {i : Nat} {x : Lp} (hi : xs[i]? = some x) :
    ∃ b off q m q' m', p = some ⟨b, off, none⟩ ∧ w.cell? ⟨b, off + i * 2, none⟩ = some (.slice q x.1.length m) ∧ w.cell? ⟨b, off + i * 2 + 1, none⟩ = some (.slice q' x.2.length m') ∧ b < w.heap.size ∧ AffsAt w (.slice q x.1.length m) x.1 ∧ AffsAt w (.slice q' x.2.length m') x.2 := by
  obtain ⟨p', c', hv, hm, hc⟩ := h
  cases hv
  obtain ⟨b, off, u0, u1, hp, h0, h1, hlt, hr, hr'⟩ := hc i x hi
  obtain ⟨q, m, rfl, _⟩ := id hr
  obtain ⟨q', m', rfl, _⟩ := id hr'
  exact ⟨b, off, q, m, q', m', hp, h0, h1, hlt, hr, hr'⟩

/-- A row of pairs of the call's own, as a list of pairs. -/
theorem PairsAt.own {α : Type} {R : World → Value → Value → α → Prop} {B : Nat} {w : World} {e : TypeId} {g n cap : Nat} {vs : List Value} {xs : List α} (h : w.ownsRow B e 2 (.slice (some ⟨g, 0, none⟩) n cap) n vs) (hn : xs.length = n)
    (hr : ∀ i x, xs[i]? = some x → ∃ u0 u1, vs[i * 2]? = some u0 ∧ vs[i * 2 + 1]? = some u1 ∧ R w u0 u1 x) : PairsAt R w (.slice (some ⟨g, 0, none⟩) n cap) xs := by
  have hm : n ≤ 9223372036854775807 := by
    rcases h.2 with ⟨_, h0⟩ | ⟨_, cap', _, hv, _, _, h1, h2, _⟩
    · omega
    · unfold maxLen at h2; cases hv; omega
  refine ⟨_, _, by rw [hn], by omega, fun i x hi => ?_⟩
  obtain ⟨u0, u1, h0, h1, hx⟩ := hr i x hi
  have hlt : i < n := by rw [← hn]; exact (List.getElem?_eq_some_iff.1 hi).1
  refine ⟨g, 0, u0, u1, rfl, ?_, ?_, (h.lt g rfl).2, hx⟩
  · rw [Nat.zero_add, h.cellAt (i * 2) (by omega)]; exact h0
  · rw [Nat.zero_add, h.cellAt (i * 2 + 1) (by omega)]; exact h1

theorem infoAff : (Try.prog.info? 36).map (fun i => (i.zero, i.size, i.bytes)) = some (some (.agg #[.slice none 0 0, .int .i64 0]), 2, 32) := by kernel_rfl
end Go.Proofs.Ytccibfldadflkaa

/- Contracts: EvalAffine and its model. -/
namespace Go.Proofs.Ytccibfldadflkaa
open Go.RowKit

end Go.Proofs.Ytccibfldadflkaa
