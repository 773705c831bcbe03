/- The texts N2 N3 S0, joined. No statement is proved here. -/
import Derived.Test.YtccibfldadflkaaQV34
import Derived.Test.YtccibfldadflkaaQV08
/- Contracts of the laws' own helpers for lists of expressions and nests: copies. -/
namespace Go.Proofs.Ytccibfldadflkaa
open Go.RowKit

/-- A row of pairs, of the call's own, with what is behind its elements (from block B on, too). -/
def PairsOwn {α : Type} (T : TypeId) (R : Nat → World → Value → Value → α → Prop) (B : Nat) (w : World) (v : Value) (xs : List α) : Prop :=
  ∃ vs, w.ownsRow B T 2 v xs.length vs ∧ ∀ i x, xs[i]? = some x → ∃ u0 u1, vs[i * 2]? = some u0 ∧ vs[i * 2 + 1]? = some u1 ∧ R B w u0 u1 x

def AffO (B : Nat) (w : World) (u0 u1 : Value) (a : Aff) : Prop := IntsOwn B w u0 a.1 ∧ u1 = .int .i64 a.2
def AffsOwn : Nat → World → Value → List Aff → Prop := PairsOwn 36 AffO
def LoopO (B : Nat) (w : World) (u0 u1 : Value) (a : Lp) : Prop := AffsOwn B w u0 a.1 ∧ AffsOwn B w u1 a.2
def LoopsOwn : Nat → World → Value → List Lp → Prop := PairsOwn 75 LoopO

theorem PairsOwn.at' {α : Type} {T : TypeId} {R : Nat → World → Value → Value → α → Prop} {Q : World → Value → Value → α → Prop} (hq : ∀ {B w u0 u1 x}, R B w u0 u1 x → Q w u0 u1 x) {B : Nat} {w : World} {v : Value} {xs : List α} (h : PairsOwn T R B w v xs) : PairsAt Q w v xs := by
  obtain ⟨vs, ho, hr⟩ := h
  rcases ho.2 with ⟨rfl, hn⟩ | ⟨g, cap, cur, rfl, _⟩
  · refine ⟨none, 0, by rw [hn], by omega, fun i x hi => ?_⟩
    rw [List.eq_nil_of_length_eq_zero hn] at hi; simp at hi
  · refine PairsAt.own ho rfl (fun i x hi => ?_)
    obtain ⟨u0, u1, h0, h1, h2⟩ := hr i x hi
    exact ⟨u0, u1, h0, h1, hq h2⟩
theorem PairsOwn.map' {α : Type} {T : TypeId} {R : Nat → World → Value → Value → α → Prop} {B B' : Nat} {w w' : World} {v : Value} {xs : List α} (h : PairsOwn T R B w v xs) (ho : ∀ vs, w.ownsRow B T 2 v xs.length vs → w'.ownsRow B' T 2 v xs.length vs) (hR : ∀ {u0 u1 x}, R B w u0 u1 x → R B' w' u0 u1 x) : PairsOwn T R B' w' v xs := by
  obtain ⟨vs, h1, hr⟩ := h
  refine ⟨vs, ho vs h1, fun i x hi => ?_⟩
  obtain ⟨u0, u1, h0, h1, h2⟩ := hr i x hi
  exact ⟨u0, u1, h0, h1, hR h2⟩

theorem AffsOwn.at {B : Nat} {w : World} {v : Value} {xs : List Aff} (h : AffsOwn B w v xs) : AffsAt w v xs := PairsOwn.at' (fun h => ⟨h.1.at, h.2⟩) h
theorem LoopsOwn.at {B : Nat} {w : World} {v : Value} {xs : List Lp} (h : LoopsOwn B w v xs) : LoopsAt w v xs := PairsOwn.at' (fun h => ⟨h.1.at, h.2.at⟩) h
theorem AffsOwn.ext {B : Nat} {w w' : World} {v : Value} {xs : List Aff} (h : AffsOwn B w v xs) (hb : Ext w w') : AffsOwn B w' v xs := PairsOwn.map' h (fun _ h => ownsRow_ext h hb) (fun h => ⟨h.1.ext hb, h.2⟩)
theorem LoopsOwn.ext {B : Nat} {w w' : World} {v : Value} {xs : List Lp} (h : LoopsOwn B w v xs) (hb : Ext w w') : LoopsOwn B w' v xs := PairsOwn.map' h (fun _ h => ownsRow_ext h hb) (fun h => ⟨h.1.ext hb, h.2.ext hb⟩)
theorem AffsOwn.weak {B B' : Nat} {w : World} {v : Value} {xs : List Aff} (h : AffsOwn B w v xs) (hB : B' ≤ B) : AffsOwn B' w v xs := PairsOwn.map' h (fun _ h => ownsRow_weak h hB) (fun h => ⟨h.1.weak hB, h.2⟩)
theorem LoopsOwn.weak {B B' : Nat} {w : World} {v : Value} {xs : List Lp} (h : LoopsOwn B w v xs) (hB : B' ≤ B) : LoopsOwn B' w v xs := PairsOwn.map' h (fun _ h => ownsRow_weak h hB) (fun h => ⟨h.1.weak hB, h.2.weak hB⟩)
theorem AffsOwn.setOld {B : Nat} {w : World} {v : Value} {xs : List Aff} (h : AffsOwn B w v xs) {p : Addr} (hp : p.block < B) (u : Value) : AffsOwn B (w.setCell p u) v xs := PairsOwn.map' h (fun _ h => ownsRow_setCell_below h hp u) (fun h => ⟨h.1.setOld hp u, h.2⟩)
theorem LoopsOwn.setOld {B : Nat} {w : World} {v : Value} {xs : List Lp} (h : LoopsOwn B w v xs) {p : Addr} (hp : p.block < B) (u : Value) : LoopsOwn B (w.setCell p u) v xs := PairsOwn.map' h (fun _ h => ownsRow_setCell_below h hp u) (fun h => ⟨h.1.setOld hp u, h.2.setOld hp u⟩)

/-- The first k elements of a row of n pairs are written. -/
def PairRow {α : Type} (T : TypeId) (R : Nat → World → Value → Value → α → Prop) (B Bi g n : Nat) (xs : List α) (k : Nat) (w : World) : Prop :=
  ∃ vs, w.ownsRow B T 2 (.slice (some ⟨g, 0, none⟩) n n) n vs ∧ ∀ i x, i < k → xs[i]? = some x → ∃ u0 u1, vs[i * 2]? = some u0 ∧ vs[i * 2 + 1]? = some u1 ∧ R Bi w u0 u1 x

theorem PairRow.done {α : Type} {T : TypeId} {R : Nat → World → Value → Value → α → Prop} (hweak : ∀ {B B' w u0 u1 x}, R B w u0 u1 x → B' ≤ B → R B' w u0 u1 x) {B g n : Nat} {xs : List α} {w : World} (h : PairRow T R B (g + 1) g n xs n w) (hn : xs.length = n) (hB : B ≤ g) :
    PairsOwn T R B w (.slice (some ⟨g, 0, none⟩) n n) xs := by
  obtain ⟨vs, ho, hv⟩ := h
  refine ⟨vs, by rw [hn]; exact ho, fun i x hi => ?_⟩
  have hlt : i < n := by rw [← hn]; exact (List.getElem?_eq_some_iff.1 hi).1
  obtain ⟨u0, u1, h0, h1, h2⟩ := hv i x hlt hi
  exact ⟨u0, u1, h0, h1, hweak h2 (by omega)⟩

end Go.Proofs.Ytccibfldadflkaa

/- Contracts of the laws' own helpers for nests: copies of loops and nests. -/
namespace Go.Proofs.Ytccibfldadflkaa
open Go.RowKit

theorem blk2_set0' {W : World} {g : Nat} {a b c : Value} {t : TypeId} (h : W.heap[g]? = some (.cells #[a, b] t (0, 0))) : (W.setCell ⟨g, 0, none⟩ c).heap[g]? = some (.cells #[c, b] t (0, 0)) := by
  rw [heap_setCell_same W g 0 _ _ c h]; rfl
theorem blk2_set1' {W : World} {g : Nat} {a b c : Value} {t : TypeId} (h : W.heap[g]? = some (.cells #[a, b] t (0, 0))) : (W.setCell ⟨g, 1, none⟩ c).heap[g]? = some (.cells #[a, c] t (0, 0)) := by
  rw [heap_setCell_same W g 1 _ _ c h]; rfl
theorem blk_off {a : World} {g g' o' : Nat} {o : Obj} (hg : a.heap[g]? = some o) (hne : g ≠ g') (u : Value) : (a.setCell ⟨g', o', none⟩ u).heap[g]? = some o := (Below.heap_setCell _ _ _ _ hne).trans hg

end Go.Proofs.Ytccibfldadflkaa

/- Expressions of statements in memory: trees; how an argument reads as one. No statement is proved here. -/
namespace Go.Proofs.Ytccibfldadflkaa
open Go.RowKit Go.ChangeShapes Go.WideShapes Go.ChangeAt Go.Joins

/-- A node: kind, number, index, array and subscripts, operands. -/
inductive Ex where
  | mk (kind num : Int) (ix : Aff) (arr : ByteArray) (subs : List Aff) (kids : List Ex)
def Ex.kind : Ex → Int | .mk k _ _ _ _ _ => k
def Ex.num : Ex → Int | .mk _ n _ _ _ _ => n
def Ex.ix : Ex → Aff | .mk _ _ x _ _ _ => x
def Ex.arr : Ex → ByteArray | .mk _ _ _ a _ _ => a
def Ex.subs : Ex → List Aff | .mk _ _ _ _ s _ => s
def Ex.kids : Ex → List Ex | .mk _ _ _ _ _ k => k

/-- The seven cells read as the node in w. -/
inductive ExR (w : World) : List Value → Ex → Prop
  | mk (kind num k : Int) (u s : Value) (xs : List Int) (arr : ByteArray) (subs : List Aff) (p : Option Addr) (cap : Nat) (kids : List Ex) (us : Nat → List Value) (hu : IntsAt w u xs) (ha : arr.size ≤ 9223372036854775807) (hs : AffsAt w s subs) (hl : kids.length ≤ 9223372036854775807)
      (hc : ∀ (i : Nat) (e : Ex), kids[i]? = some e → ∃ b off, p = some ⟨b, off, none⟩ ∧ b < w.heap.size ∧ ∀ (j : Nat) (v : Value), (us i)[j]? = some v → w.cell? ⟨b, off + i * 7 + j, none⟩ = some v)
      (hk : ∀ (i : Nat) (e : Ex), kids[i]? = some e → ExR w (us i) e) :
      ExR w [.int .i64 kind, .int .i64 num, u, .int .i64 k, .string arr, s, .slice p kids.length cap] (.mk kind num (xs, k) arr subs kids)
/-- A list of nodes. -/
def ExsAt (w : World) (v : Value) (es : List Ex) : Prop := ∃ p c, ∃ us : Nat → List Value, v = .slice p es.length c ∧ es.length ≤ 9223372036854775807 ∧
  (∀ (i : Nat) (e : Ex), es[i]? = some e → ∃ b off, p = some ⟨b, off, none⟩ ∧ b < w.heap.size ∧ ∀ (j : Nat) (v : Value), (us i)[j]? = some v → w.cell? ⟨b, off + i * 7 + j, none⟩ = some v) ∧ ∀ (i : Nat) (e : Ex), es[i]? = some e → ExR w (us i) e
theorem ExR.parts {w : World} {cs : List Value} {e : Ex} (h : ExR w cs e) : ∃ u s v, cs = [.int .i64 e.kind, .int .i64 e.num, u, .int .i64 e.ix.2, .string e.arr, s, v] ∧ IntsAt w u e.ix.1 ∧ e.arr.size ≤ 9223372036854775807 ∧ AffsAt w s e.subs ∧ ExsAt w v e.kids := by
  cases h with
  | mk kind num k u s xs arr subs p cap kids us hu ha hs hl hc hk => exact ⟨u, s, _, rfl, hu, ha, hs, p, cap, us, rfl, hl, hc, hk⟩
theorem ExR.of {w : World} {u s v : Value} {e : Ex} (hu : IntsAt w u e.ix.1) (ha : e.arr.size ≤ 9223372036854775807) (hs : AffsAt w s e.subs) (hv : ExsAt w v e.kids) : ExR w [.int .i64 e.kind, .int .i64 e.num, u, .int .i64 e.ix.2, .string e.arr, s, v] e := by
  obtain ⟨kind, num, ⟨xs, k⟩, arr, subs, kids⟩ := e
  obtain ⟨p, c, us, rfl, hl, hc, hk⟩ := hv
  exact .mk kind num k u s xs arr subs p c kids us hu ha hs hl hc hk
theorem ExR.ext {w w' : World} {cs : List Value} {e : Ex} (h : ExR w cs e) (hE : Ext w w') : ExR w' cs e := by
  induction h with
  | mk kind num k u s xs arr subs p cap kids us hu ha hs hl hc hk ih =>
    refine .mk kind num k u s xs arr subs p cap kids us (hu.ext hE) ha (hs.ext hE) hl (fun i e hi => ?_) ih
    obtain ⟨b, off, h1, h2, h3⟩ := hc i e hi
    exact ⟨b, off, h1, Nat.lt_of_lt_of_le h2 hE.size_le, fun j v hj => hE.keep (h3 j v hj)⟩
theorem ExsAt.ext {w w' : World} {v : Value} {es : List Ex} (h : ExsAt w v es) (hE : Ext w w') : ExsAt w' v es := by
  obtain ⟨p, c, us, hv, hl, hc, hk⟩ := h
  refine ⟨p, c, us, hv, hl, fun i e hi => ?_, fun i e hi => (hk i e hi).ext hE⟩
  obtain ⟨b, off, h1, h2, h3⟩ := hc i e hi
  exact ⟨b, off, h1, Nat.lt_of_lt_of_le h2 hE.size_le, fun j v hj => hE.keep (h3 j v hj)⟩
theorem ExsAt.form {w : World} {v : Value} {es : List Ex} (h : ExsAt w v es) : ∃ p c, v = .slice p es.length c ∧ es.length ≤ 9223372036854775807 := by
  obtain ⟨p, c, us, hv, hl, _⟩ := h; exact ⟨p, c, hv, hl⟩
/-- Element i of a list of nodes: its seven cells. -/
theorem ExsAt.elem {w : World} {p : Option Addr} {n c i : Nat} {es : List Ex} {e : Ex} (h : ExsAt w (.slice p n c) es) (hi : es[i]? = some e) :
    ∃ b off u s v, p = some ⟨b, off, none⟩ ∧ b < w.heap.size ∧ w.cell? ⟨b, off + i * 7, none⟩ = some (.int .i64 e.kind) ∧ w.cell? ⟨b, off + i * 7 + 1, none⟩ = some (.int .i64 e.num) ∧ w.cell? ⟨b, off + i * 7 + 2, none⟩ = some u ∧ w.cell? ⟨b, off + i * 7 + 3, none⟩ = some (.int .i64 e.ix.2) ∧
      w.cell? ⟨b, off + i * 7 + 4, none⟩ = some (.string e.arr) ∧ w.cell? ⟨b, off + i * 7 + 5, none⟩ = some s ∧ w.cell? ⟨b, off + i * 7 + 6, none⟩ = some v ∧ IntsAt w u e.ix.1 ∧ e.arr.size ≤ 9223372036854775807 ∧ AffsAt w s e.subs ∧ ExsAt w v e.kids := by
  obtain ⟨p', c', us, hv, hl, hc, hk⟩ := h
  simp only [Value.slice.injEq] at hv
  obtain ⟨rfl, -, rfl⟩ := hv
  obtain ⟨b, off, h1, h2, h3⟩ := hc i e hi
  obtain ⟨u, s, v, hcs, hu, ha, hs, hkk⟩ := (hk i e hi).parts
  rw [hcs] at h3
  exact ⟨b, off, u, s, v, h1, h2, h3 0 _ rfl, h3 1 _ rfl, h3 2 _ rfl, h3 3 _ rfl, h3 4 _ rfl, h3 5 _ rfl, h3 6 _ rfl, hu, ha, hs, hkk⟩

end Go.Proofs.Ytccibfldadflkaa
