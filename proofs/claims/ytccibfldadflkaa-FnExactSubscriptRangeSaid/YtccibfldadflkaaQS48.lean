/- The texts Q1 S0, joined. No statement is proved here. -/
import Derived.Test.YtccibfldadflkaaQS47
import Derived.Test.YtccibfldadflkaaQS19
import Derived.Test.YtccibfldadflkaaQS42
import Derived.Test.YtccibfldadflkaaQS25
/- Rows told apart by the types of their blocks; a row of pairs, one pair more. -/
namespace Go.Proofs.Ytccibfldadflkaa
open Go.RowKit

/-- The block that may turn holds cells of the type T. -/
def Tag (w : World) (row : Option Nat) (T : TypeId) : Prop := ∀ g, row = some g → ∃ cs fz, w.heap[g]? = some (.cells cs T fz)
theorem Tag.none (w : World) (T : TypeId) : Tag w none T := fun _ h => by cases h
theorem Tag.blk {w : World} {g : Nat} {cs : Array Value} {T : TypeId} {fz : Nat × Nat} (h : w.heap[g]? = some (.cells cs T fz)) : Tag w (some g) T := fun _ e => by cases e; exact ⟨_, _, h⟩
theorem own_tag {B size n : Nat} {e : TypeId} {w : World} {v : Value} {xs : List Value} (h : w.ownsRow B e size v n xs) : Tag w v.ownBlock e := by
  intro g hg
  rcases h.2 with ⟨rfl, _⟩ | ⟨g', cap, cur, rfl, _, hgh, _⟩
  · simp [Value.ownBlock] at hg
  · have : g' = g := Option.some.inj hg
    subst this
    exact ⟨_, _, hgh⟩
theorem row_tag {B size n : Nat} {e T : TypeId} {w w' : World} {v : Value} {xs : List Value} {row : Option Nat} (h : w.ownsRow B e size v n xs) (hg : w.grownBy w' row) (ht : Tag w row T) (hT : T ≠ e) : w'.ownsRow B e size v n xs := by
  refine ⟨h.1, ?_⟩
  rcases h.2 with hn | ⟨g, cap, cur, hv, hbg, hgh, r⟩
  · exact .inl hn
  · refine .inr ⟨g, cap, cur, hv, hbg, ?_, r⟩
    refine grownBy_blk hg hgh (fun e' => ?_)
    obtain ⟨cs, fz, h2⟩ := ht g e'.symm
    rw [hgh] at h2
    cases h2
    exact hT rfl
theorem blk_tag {T T' : TypeId} {w w' : World} {row : Option Nat} {g : Nat} {cs : Array Value} {fz : Nat × Nat} (h : w.heap[g]? = some (.cells cs T' fz)) (hg : w.grownBy w' row) (ht : Tag w row T) (hT : T ≠ T') : w'.heap[g]? = some (.cells cs T' fz) :=
  grownBy_blk hg h (fun e' => by
    obtain ⟨cs', fz', h2⟩ := ht g e'.symm
    rw [h] at h2
    cases h2
    exact hT rfl)
theorem IntsOwn.tag {B : Nat} {T : TypeId} {w w' : World} {v : Value} {xs : List Int} {row : Option Nat} (h : IntsOwn B w v xs) (hg : w.grownBy w' row) (ht : Tag w row T) (hT : T ≠ 3) : IntsOwn B w' v xs := row_tag h hg ht hT
theorem AffsOwn.tag {B : Nat} {T : TypeId} {w w' : World} {v : Value} {xs : List Aff} {row : Option Nat} (h : AffsOwn B w v xs) (hg : w.grownBy w' row) (ht : Tag w row T) (hT : T ≠ 3) (hT2 : T ≠ 36) : AffsOwn B w' v xs :=
  PairsOwn.map' h (fun _ h => row_tag h hg ht hT2) (fun h => ⟨h.1.tag hg ht hT, h.2⟩)
theorem LoopsOwn.tag {B : Nat} {T : TypeId} {w w' : World} {v : Value} {xs : List Lp} {row : Option Nat} (h : LoopsOwn B w v xs) (hg : w.grownBy w' row) (ht : Tag w row T) (hT : T ≠ 3) (hT2 : T ≠ 36) (hT3 : T ≠ 75) : LoopsOwn B w' v xs :=
  PairsOwn.map' h (fun _ h => row_tag h hg ht hT3) (fun h => ⟨AffsOwn.tag h.1 hg ht hT hT2, AffsOwn.tag h.2 hg ht hT hT2⟩)

/-- One pair more, put behind the row where it lies or in a new block. -/
theorem PairsOwn.push {α : Type} {T : TypeId} {R : Nat → World → Value → Value → α → Prop} (hR : ∀ {B w w' u0 u1 x row}, R B w u0 u1 x → w.grownBy w' row → Tag w row T → R B w' u0 u1 x)
    {B n : Nat} {w w' : World} {v v' u0 u1 : Value} {xs : List α} {x : α} {vs : List Value} (hn : xs.length = n)
    (he : ∀ i y, xs[i]? = some y → ∃ t0 t1, vs[i * 2]? = some t0 ∧ vs[i * 2 + 1]? = some t1 ∧ R B w t0 t1 y) (hvl : vs.length = n * 2)
    (ho' : w'.ownsRow B T 2 v' (n + 1) (vs ++ [u0, u1])) (hg : w.grownBy w' v.ownBlock) (ht : Tag w v.ownBlock T) (hx : R B w u0 u1 x) : PairsOwn T R B w' v' (xs ++ [x]) := by
  refine ⟨vs ++ [u0, u1], by rw [List.length_append, hn]; exact ho', fun i y hi => ?_⟩
  rcases Nat.lt_or_ge i xs.length with hlt | hge
  · rw [List.getElem?_append_left hlt] at hi
    obtain ⟨t0, t1, h0, h1, h2⟩ := he i y hi
    exact ⟨t0, t1, by rw [List.getElem?_append_left (by omega)]; exact h0, by rw [List.getElem?_append_left (by omega)]; exact h1, hR h2 hg ht⟩
  · rw [List.getElem?_append_right hge] at hi
    have hi0 : i - xs.length = 0 := by
      rcases Nat.eq_zero_or_pos (i - xs.length) with h | h
      · exact h
      · rw [List.getElem?_eq_none (by simp; omega)] at hi; cases hi
    rw [hi0] at hi
    simp at hi
    subst hi
    have hin : i = n := by omega
    subst hin
    exact ⟨u0, u1, by rw [List.getElem?_append_right (by omega)]; simp [hvl], by rw [List.getElem?_append_right (by omega), hvl]; simp [show i * 2 + 1 - i * 2 = 1 by omega], hR hx hg ht⟩
theorem PairsOwn.slice {α : Type} {T : TypeId} {R : Nat → World → Value → Value → α → Prop} {B : Nat} {w : World} {v : Value} {xs : List α} (h : PairsOwn T R B w v xs) : ∃ p c, v = .slice p xs.length c := by
  obtain ⟨vs, ho, -⟩ := h
  rcases ho.2 with ⟨rfl, hn⟩ | ⟨g, cap, cur, rfl, _⟩
  · exact ⟨none, 0, by rw [hn]⟩
  · exact ⟨_, _, rfl⟩
theorem AffsOwn.nil (B : Nat) (w : World) : AffsOwn B w (.slice none 0 0) [] := ⟨[], World.ownsRow_nil _ _ _ _, fun i x hi => by simp at hi⟩
theorem LoopsOwn.made {B g c : Nat} {w : World} (h : w.ownsRow B 75 2 (.slice (some ⟨g, 0, none⟩) 0 c) 0 []) : LoopsOwn B w (.slice (some ⟨g, 0, none⟩) 0 c) [] := ⟨[], h, fun i x hi => by simp at hi⟩

/-- Lists of at most N expressions with four coefficients; nests of at most N loops with such sides. -/
def FourA (N : Nat) (zs : List Aff) : Prop := zs.length ≤ N ∧ ∀ a ∈ zs, a.1.length = 4
def FourL (N : Nat) (ls : List Lp) : Prop := ls.length ≤ N ∧ ∀ l ∈ ls, FourA N l.1 ∧ FourA N l.2
theorem FourA.mono {N M : Nat} {zs : List Aff} (h : FourA N zs) (hN : N ≤ M) : FourA M zs := ⟨by have := h.1; omega, h.2⟩
theorem FourL.mono {N M : Nat} {ls : List Lp} (h : FourL N ls) (hN : N ≤ M) : FourL M ls := ⟨by have := h.1; omega, fun l hl => ⟨(h.2 l hl).1.mono hN, (h.2 l hl).2.mono hN⟩⟩
theorem FourA.push {N : Nat} {zs : List Aff} {a : Aff} (h : FourA N zs) (ha : a.1.length = 4) : FourA (N + 1) (zs ++ [a]) :=
  ⟨by have := h.1; simp; omega, fun b hb => by rcases List.mem_append.1 hb with hb | hb; exact h.2 b hb; simp at hb; rw [hb]; exact ha⟩
theorem FourL.push {N : Nat} {ls : List Lp} {l : Lp} (h : FourL N ls) (h1 : FourA (N + 1) l.1) (h2 : FourA (N + 1) l.2) : FourL (N + 1) (ls ++ [l]) :=
  ⟨by have := h.1; simp; omega, fun b hb => by rcases List.mem_append.1 hb with hb | hb; exact (h.mono (by omega)).2 b hb; simp at hb; rw [hb]; exact ⟨h1, h2⟩⟩
end Go.Proofs.Ytccibfldadflkaa

/- Expressions of statements in memory: trees; how an argument reads as one. No statement is proved here. -/
namespace Go.Proofs.Ytccibfldadflkaa
open Go.RowKit Go.ChangeShapes Go.WideShapes Go.ChangeAt Go.Joins

/-- A node: kind, number, index, array and subscripts, operands. -/
inductive Ex where
  | mk (kind num : Int) (ix : Aff) (arr : ByteArray) (subs : List Aff) (kids : List Ex)
def Ex.kind : Ex → Int | .mk k _ _ _ _ _ => k
def Ex.num : Ex → Int | .mk _ n _ _ _ _ => n
def Ex.ix : Ex → Aff | .mk _ _ x _ _ _ => x
def Ex.arr : Ex → ByteArray | .mk _ _ _ a _ _ => a
def Ex.subs : Ex → List Aff | .mk _ _ _ _ s _ => s
def Ex.kids : Ex → List Ex | .mk _ _ _ _ _ k => k

/-- The seven cells read as the node in w. -/
inductive ExR (w : World) : List Value → Ex → Prop
  | mk (kind num k : Int) (u s : Value) (xs : List Int) (arr : ByteArray) (subs : List Aff) (p : Option Addr) (cap : Nat) (kids : List Ex) (us : Nat → List Value) (hu : IntsAt w u xs) (ha : arr.size ≤ 9223372036854775807) (hs : AffsAt w s subs) (hl : kids.length ≤ 9223372036854775807)
      (hc : ∀ (i : Nat) (e : Ex), kids[i]? = some e → ∃ b off, p = some ⟨b, off, none⟩ ∧ b < w.heap.size ∧ ∀ (j : Nat) (v : Value), (us i)[j]? = some v → w.cell? ⟨b, off + i * 7 + j, none⟩ = some v)
      (hk : ∀ (i : Nat) (e : Ex), kids[i]? = some e → ExR w (us i) e) :
      ExR w [.int .i64 kind, .int .i64 num, u, .int .i64 k, .string arr, s, .slice p kids.length cap] (.mk kind num (xs, k) arr subs kids)
/-- A list of nodes. -/
def ExsAt (w : World) (v : Value) (es : List Ex) : Prop := ∃ p c, ∃ us : Nat → List Value, v = .slice p es.length c ∧ es.length ≤ 9223372036854775807 ∧
  (∀ (i : Nat) (e : Ex), es[i]? = some e → ∃ b off, p = some ⟨b, off, none⟩ ∧ b < w.heap.size ∧ ∀ (j : Nat) (v : Value), (us i)[j]? = some v → w.cell? ⟨b, off + i * 7 + j, none⟩ = some v) ∧ ∀ (i : Nat) (e : Ex), es[i]? = some e → ExR w (us i) e
theorem ExR.parts {w : World} {cs : List Value} {e : Ex} (h : ExR w cs e) : ∃ u s v, cs = [.int .i64 e.kind, .int .i64 e.num, u, .int .i64 e.ix.2, .string e.arr, s, v] ∧ IntsAt w u e.ix.1 ∧ e.arr.size ≤ 9223372036854775807 ∧ AffsAt w s e.subs ∧ ExsAt w v e.kids := by
  cases h with
  | mk kind num k u s xs arr subs p cap kids us hu ha hs hl hc hk => exact ⟨u, s, _, rfl, hu, ha, hs, p, cap, us, rfl, hl, hc, hk⟩
theorem ExR.of {w : World} {u s v : Value} {e : Ex} (hu : IntsAt w u e.ix.1) (ha : e.arr.size ≤ 9223372036854775807) (hs : AffsAt w s e.subs) (hv : ExsAt w v e.kids) : ExR w [.int .i64 e.kind, .int .i64 e.num, u, .int .i64 e.ix.2, .string e.arr, s, v] e := by
  obtain ⟨kind, num, ⟨xs, k⟩, arr, subs, kids⟩ := e
  obtain ⟨p, c, us, rfl, hl, hc, hk⟩ := hv
  exact .mk kind num k u s xs arr subs p c kids us hu ha hs hl hc hk
theorem ExR.ext {w w' : World} {cs : List Value} {e : Ex} (h : ExR w cs e) (hE : Ext w w') : ExR w' cs e := by
  induction h with
  | mk kind num k u s xs arr subs p cap kids us hu ha hs hl hc hk ih =>
    refine .mk kind num k u s xs arr subs p cap kids us (hu.ext hE) ha (hs.ext hE) hl (fun i e hi => ?_) ih
    obtain ⟨b, off, h1, h2, h3⟩ := hc i e hi
    exact ⟨b, off, h1, Nat.lt_of_lt_of_le h2 hE.size_le, fun j v hj => hE.keep (h3 j v hj)⟩
theorem ExsAt.ext {w w' : World} {v : Value} {es : List Ex} (h : ExsAt w v es) (hE : Ext w w') : ExsAt w' v es := by
  obtain ⟨p, c, us, hv, hl, hc, hk⟩ := h
  refine ⟨p, c, us, hv, hl, fun i e hi => ?_, fun i e hi => (hk i e hi).ext hE⟩
  obtain ⟨b, off, h1, h2, h3⟩ := hc i e hi
  exact ⟨b, off, h1, Nat.lt_of_lt_of_le h2 hE.size_le, fun j v hj => hE.keep (h3 j v hj)⟩
theorem ExsAt.form {w : World} {v : Value} {es : List Ex} (h : ExsAt w v es) : ∃ p c, v = .slice p es.length c ∧ es.length ≤ 9223372036854775807 := by
  obtain ⟨p, c, us, hv, hl, _⟩ := h; exact ⟨p, c, hv, hl⟩
/-- Element i of a list of nodes: its seven cells. -/
theorem ExsAt.elem {w : World} {p : Option Addr} {n c i : Nat} {es : List Ex} {e : Ex} (h : ExsAt w (.slice p n c) es) (hi : es[i]? = some e) :
    ∃ b off u s v, p = some ⟨b, off, none⟩ ∧ b < w.heap.size ∧ w.cell? ⟨b, off + i * 7, none⟩ = some (.int .i64 e.kind) ∧ w.cell? ⟨b, off + i * 7 + 1, none⟩ = some (.int .i64 e.num) ∧ w.cell? ⟨b, off + i * 7 + 2, none⟩ = some u ∧ w.cell? ⟨b, off + i * 7 + 3, none⟩ = some (.int .i64 e.ix.2) ∧
      w.cell? ⟨b, off + i * 7 + 4, none⟩ = some (.string e.arr) ∧ w.cell? ⟨b, off + i * 7 + 5, none⟩ = some s ∧ w.cell? ⟨b, off + i * 7 + 6, none⟩ = some v ∧ IntsAt w u e.ix.1 ∧ e.arr.size ≤ 9223372036854775807 ∧ AffsAt w s e.subs ∧ ExsAt w v e.kids := by
  obtain ⟨p', c', us, hv, hl, hc, hk⟩ := h
  simp only [Value.slice.injEq] at hv
  obtain ⟨rfl, -, rfl⟩ := hv
  obtain ⟨b, off, h1, h2, h3⟩ := hc i e hi
  obtain ⟨u, s, v, hcs, hu, ha, hs, hkk⟩ := (hk i e hi).parts
  rw [hcs] at h3
  exact ⟨b, off, u, s, v, h1, h2, h3 0 _ rfl, h3 1 _ rfl, h3 2 _ rfl, h3 3 _ rfl, h3 4 _ rfl, h3 5 _ rfl, h3 6 _ rfl, hu, ha, hs, hkk⟩

end Go.Proofs.Ytccibfldadflkaa
