/- The texts A17 Q1 S3, joined. No statement is proved here. -/
import Derived.Test.YtccibfldadflkaaQT33
import Derived.Test.YtccibfldadflkaaQT04
import Derived.Deep.AppendLies
import Derived.Deep.RegionLaw
import Derived.Deep.DeepCutAuto
import Derived.Deep.RegionHeld3
import Derived.Test.YtccibfldadflkaaQT36
import Derived.Test.YtccibfldadflkaaQT15
import Derived.Test.YtccibfldadflkaaQT38
/- Contracts: the model's substitution. -/
namespace Go.Proofs.Ytccibfldadflkaa
open Go.RowKit

/-- A row of the call's own stays where another block is written. -/
theorem ownsRow_off {w : World} {base : Nat} {e : TypeId} {g n cap b o : Nat} {xs : List Value} (h : w.ownsRow base e 1 (.slice (some ⟨g, 0, none⟩) n cap) n xs) (hne : g ≠ b) (u : Value) :
    (w.setCell ⟨b, o, none⟩ u).ownsRow base e 1 (.slice (some ⟨g, 0, none⟩) n cap) n xs := by
  rcases h.2 with ⟨h', _⟩ | ⟨g', cap', cur, h', hb, hg, hr⟩
  · cases h'
  · cases h'
    exact ⟨h.1, .inr ⟨_, _, cur, rfl, hb, (Below.heap_setCell _ _ _ _ hne).trans hg, hr⟩⟩

/-- A row of ints is no block of an Affine. -/
theorem own_ne {B g gr n cap : Nat} {w : World} {xs : List Int} {u0 u1 : Value} (h : IntsOwn B w (.slice (some ⟨g, 0, none⟩) n cap) xs) (hb : w.heap[gr]? = some (.cells #[u0, u1] 36 (0, 0))) : g ≠ gr := by
  rintro rfl
  unfold IntsOwn at h
  rcases h.2 with ⟨h', _⟩ | ⟨g', cap', cur, h', _, hg, _⟩
  · cases h'
  · cases h'
    rw [hb] at hg
    simp at hg

end Go.Proofs.Ytccibfldadflkaa

/- Rows told apart by the types of their blocks; a row of pairs, one pair more. -/
namespace Go.Proofs.Ytccibfldadflkaa
open Go.RowKit

/-- The block that may turn holds cells of the type T. -/
def Tag (w : World) (row : Option Nat) (T : TypeId) : Prop := ∀ g, row = some g → ∃ cs fz, w.heap[g]? = some (.cells cs T fz)
theorem Tag.none (w : World) (T : TypeId) : Tag w none T := fun _ h => by cases h
theorem Tag.blk {w : World} {g : Nat} {cs : Array Value} {T : TypeId} {fz : Nat × Nat} (h : w.heap[g]? = some (.cells cs T fz)) : Tag w (some g) T := fun _ e => by cases e; exact ⟨_, _, h⟩
theorem own_tag {B size n : Nat} {e : TypeId} {w : World} {v : Value} {xs : List Value} (h : w.ownsRow B e size v n xs) : Tag w v.ownBlock e := by
  intro g hg
  rcases h.2 with ⟨rfl, _⟩ | ⟨g', cap, cur, rfl, _, hgh, _⟩
  · simp [Value.ownBlock] at hg
  · have : g' = g := Option.some.inj hg
    subst this
    exact ⟨_, _, hgh⟩
theorem row_tag {B size n : Nat} {e T : TypeId} {w w' : World} {v : Value} {xs : List Value} {row : Option Nat} (h : w.ownsRow B e size v n xs) (hg : w.grownBy w' row) (ht : Tag w row T) (hT : T ≠ e) : w'.ownsRow B e size v n xs := by
  refine ⟨h.1, ?_⟩
  rcases h.2 with hn | ⟨g, cap, cur, hv, hbg, hgh, r⟩
  · exact .inl hn
  · refine .inr ⟨g, cap, cur, hv, hbg, ?_, r⟩
    refine grownBy_blk hg hgh (fun e' => ?_)
    obtain ⟨cs, fz, h2⟩ := ht g e'.symm
    rw [hgh] at h2
    cases h2
    exact hT rfl
theorem blk_tag {T T' : TypeId} {w w' : World} {row : Option Nat} {g : Nat} {cs : Array Value} {fz : Nat × Nat} (h : w.heap[g]? = some (.cells cs T' fz)) (hg : w.grownBy w' row) (ht : Tag w row T) (hT : T ≠ T') : w'.heap[g]? = some (.cells cs T' fz) :=
  grownBy_blk hg h (fun e' => by
    obtain ⟨cs', fz', h2⟩ := ht g e'.symm
    rw [h] at h2
    cases h2
    exact hT rfl)
theorem IntsOwn.tag {B : Nat} {T : TypeId} {w w' : World} {v : Value} {xs : List Int} {row : Option Nat} (h : IntsOwn B w v xs) (hg : w.grownBy w' row) (ht : Tag w row T) (hT : T ≠ 3) : IntsOwn B w' v xs := row_tag h hg ht hT
theorem AffsOwn.tag {B : Nat} {T : TypeId} {w w' : World} {v : Value} {xs : List Aff} {row : Option Nat} (h : AffsOwn B w v xs) (hg : w.grownBy w' row) (ht : Tag w row T) (hT : T ≠ 3) (hT2 : T ≠ 36) : AffsOwn B w' v xs :=
  PairsOwn.map' h (fun _ h => row_tag h hg ht hT2) (fun h => ⟨h.1.tag hg ht hT, h.2⟩)
theorem LoopsOwn.tag {B : Nat} {T : TypeId} {w w' : World} {v : Value} {xs : List Lp} {row : Option Nat} (h : LoopsOwn B w v xs) (hg : w.grownBy w' row) (ht : Tag w row T) (hT : T ≠ 3) (hT2 : T ≠ 36) (hT3 : T ≠ 75) : LoopsOwn B w' v xs :=
  PairsOwn.map' h (fun _ h => row_tag h hg ht hT3) (fun h => ⟨AffsOwn.tag h.1 hg ht hT hT2, AffsOwn.tag h.2 hg ht hT hT2⟩)

/-- One pair more, put behind the row where it lies or in a new block. -/
theorem PairsOwn.push {α : Type} {T : TypeId} {R : Nat → World → Value → Value → α → Prop} (hR : ∀ {B w w' u0 u1 x row}, R B w u0 u1 x → w.grownBy w' row → Tag w row T → R B w' u0 u1 x)
    {B n : Nat} {w w' : World} {v v' u0 u1 : Value} {xs : List α} {x : α} {vs : List Value} (hn : xs.length = n)
    (he : ∀ i y, xs[i]? = some y → ∃ t0 t1, vs[i * 2]? = some t0 ∧ vs[i * 2 + 1]? = some t1 ∧ R B w t0 t1 y) (hvl : vs.length = n * 2)
    (ho' : w'.ownsRow B T 2 v' (n + 1) (vs ++ [u0, u1])) (hg : w.grownBy w' v.ownBlock) (ht : Tag w v.ownBlock T) (hx : R B w u0 u1 x) : PairsOwn T R B w' v' (xs ++ [x]) := by
  refine ⟨vs ++ [u0, u1], by rw [List.length_append, hn]; exact ho', fun i y hi => ?_⟩
  rcases Nat.lt_or_ge i xs.length with hlt | hge
  · rw [List.getElem?_append_left hlt] at hi
    obtain ⟨t0, t1, h0, h1, h2⟩ := he i y hi
    exact ⟨t0, t1, by rw [List.getElem?_append_left (by omega)]; exact h0, by rw [List.getElem?_append_left (by omega)]; exact h1, hR h2 hg ht⟩
  · rw [List.getElem?_append_right hge] at hi
    have hi0 : i - xs.length = 0 := by
      rcases Nat.eq_zero_or_pos (i - xs.length) with h | h
      · exact h
      · rw [List.getElem?_eq_none (by simp; omega)] at hi; cases hi
    rw [hi0] at hi
    simp at hi
    subst hi
    have hin : i = n := by omega
    subst hin
    exact ⟨u0, u1, by rw [List.getElem?_append_right (by omega)]; simp [hvl], by rw [List.getElem?_append_right (by omega), hvl]; simp [show i * 2 + 1 - i * 2 = 1 by omega], hR hx hg ht⟩
theorem AffO.grow {B : Nat} {w w' : World} {u0 u1 : Value} {x : Aff} {row : Option Nat} (h : AffO B w u0 u1 x) (hg : w.grownBy w' row) (ht : Tag w row 36) : AffO B w' u0 u1 x := ⟨h.1.tag hg ht (by decide), h.2⟩
theorem LoopO.grow {B : Nat} {w w' : World} {u0 u1 : Value} {x : Lp} {row : Option Nat} (h : LoopO B w u0 u1 x) (hg : w.grownBy w' row) (ht : Tag w row 75) : LoopO B w' u0 u1 x := ⟨AffsOwn.tag h.1 hg ht (by decide) (by decide), AffsOwn.tag h.2 hg ht (by decide) (by decide)⟩

theorem underSliceAff : Try.prog.underlying 49 = some (.slice 36) := Try.underlying49
theorem underSliceLp : Try.prog.underlying 34 = some (.slice 75) := Try.underlying34
theorem pair_cells {L : Nat} {w : World} {u0 u1 : Value} {t : TypeId} (hL : L = w.heap.size) : ∀ j u, [u0, u1][j]? = some u → (w.alloc (.cells #[u0, u1] t)).cell? ((⟨L, 0, none⟩ : Addr).add j) = some u := by
  subst hL
  intro q u hq
  match q, hq with
  | 0, hq => simp at hq; subst hq; simp [Addr.add]
  | 1, hq => simp at hq; subst hq; simp [Addr.add, go_sem]

theorem PairsOwn.slice {α : Type} {T : TypeId} {R : Nat → World → Value → Value → α → Prop} {B : Nat} {w : World} {v : Value} {xs : List α} (h : PairsOwn T R B w v xs) : ∃ p c, v = .slice p xs.length c := by
  obtain ⟨vs, ho, -⟩ := h
  rcases ho.2 with ⟨rfl, hn⟩ | ⟨g, cap, cur, rfl, _⟩
  · exact ⟨none, 0, by rw [hn]⟩
  · exact ⟨_, _, rfl⟩
theorem AffsOwn.nil (B : Nat) (w : World) : AffsOwn B w (.slice none 0 0) [] := ⟨[], World.ownsRow_nil _ _ _ _, fun i x hi => by simp at hi⟩
theorem LoopsOwn.made {B g c : Nat} {w : World} (h : w.ownsRow B 75 2 (.slice (some ⟨g, 0, none⟩) 0 c) 0 []) : LoopsOwn B w (.slice (some ⟨g, 0, none⟩) 0 c) [] := ⟨[], h, fun i x hi => by simp at hi⟩

/-- Lists of at most N expressions with four coefficients; nests of at most N loops with such sides. -/
def FourA (N : Nat) (zs : List Aff) : Prop := zs.length ≤ N ∧ ∀ a ∈ zs, a.1.length = 4
def FourL (N : Nat) (ls : List Lp) : Prop := ls.length ≤ N ∧ ∀ l ∈ ls, FourA N l.1 ∧ FourA N l.2
theorem FourA.mono {N M : Nat} {zs : List Aff} (h : FourA N zs) (hN : N ≤ M) : FourA M zs := ⟨by have := h.1; omega, h.2⟩
theorem FourL.mono {N M : Nat} {ls : List Lp} (h : FourL N ls) (hN : N ≤ M) : FourL M ls := ⟨by have := h.1; omega, fun l hl => ⟨(h.2 l hl).1.mono hN, (h.2 l hl).2.mono hN⟩⟩
theorem FourA.push {N : Nat} {zs : List Aff} {a : Aff} (h : FourA N zs) (ha : a.1.length = 4) : FourA (N + 1) (zs ++ [a]) :=
  ⟨by have := h.1; simp; omega, fun b hb => by rcases List.mem_append.1 hb with hb | hb; exact h.2 b hb; simp at hb; rw [hb]; exact ha⟩
theorem FourL.push {N : Nat} {ls : List Lp} {l : Lp} (h : FourL N ls) (h1 : FourA (N + 1) l.1) (h2 : FourA (N + 1) l.2) : FourL (N + 1) (ls ++ [l]) :=
  ⟨by have := h.1; simp; omega, fun b hb => by rcases List.mem_append.1 hb with hb | hb; exact (h.mono (by omega)).2 b hb; simp at hb; rw [hb]; exact ⟨h1, h2⟩⟩
end Go.Proofs.Ytccibfldadflkaa

/- Statements: sizes, copies. No statement is proved here. -/
namespace Go.Proofs.Ytccibfldadflkaa
open Go.RowKit

/-- The value reads as a statement: array and subscripts of the element, expression. -/
def StR (w : World) (v : Value) (arr : ByteArray) (subs : List Aff) (e : Ex) : Prop := ∃ s cs, v = .agg (.string arr :: s :: cs).toArray ∧ arr.size ≤ 9223372036854775807 ∧ AffsAt w s subs ∧ ExR w cs e
theorem StR.ext {w w' : World} {v : Value} {arr : ByteArray} {subs : List Aff} {e : Ex} (h : StR w v arr subs e) (hE : Ext w w') : StR w' v arr subs e := by
  obtain ⟨s, cs, h1, h2, h3, h4⟩ := h
  exact ⟨s, cs, h1, h2, h3.ext hE, h4.ext hE⟩
theorem StR.parts {w : World} {v : Value} {arr : ByteArray} {subs : List Aff} {e : Ex} (h : StR w v arr subs e) :
    ∃ q1 d1 q2 d2 q3 d3 q4 d4, v = .agg #[.string arr, .slice q1 subs.length d1, .int .i64 e.kind, .int .i64 e.num, .slice q2 e.ix.1.length d2, .int .i64 e.ix.2, .string e.arr, .slice q3 e.subs.length d3, .slice q4 e.kids.length d4] ∧
      arr.size ≤ 9223372036854775807 ∧ AffsAt w (.slice q1 subs.length d1) subs ∧ ExR w [.int .i64 e.kind, .int .i64 e.num, .slice q2 e.ix.1.length d2, .int .i64 e.ix.2, .string e.arr, .slice q3 e.subs.length d3, .slice q4 e.kids.length d4] e := by
  obtain ⟨s, cs, rfl, h2, h3, h4⟩ := h
  obtain ⟨q1, d1, rfl, -⟩ := h3.form
  obtain ⟨u, s, v, rfl, hu, -, hs, hv⟩ := h4.parts
  obtain ⟨q2, d2, rfl, -, -⟩ := hu
  obtain ⟨q3, d3, rfl, -⟩ := hs.form
  obtain ⟨q4, d4, rfl, -⟩ := hv.form
  exact ⟨q1, d1, q2, d2, q3, d3, q4, d4, rfl, h2, h3, h4⟩
/-- A statement of the call's own. -/
def StO (B : Nat) (w : World) (v : Value) (arr : ByteArray) (subs : List Aff) (e : Ex) : Prop := ∃ s cs, v = .agg (.string arr :: s :: cs).toArray ∧ arr.size ≤ 9223372036854775807 ∧ AffsOwn B w s subs ∧ ExO B w cs e
theorem StO.at {B : Nat} {w : World} {v : Value} {arr : ByteArray} {subs : List Aff} {e : Ex} (h : StO B w v arr subs e) : StR w v arr subs e := by
  obtain ⟨s, cs, h1, h2, h3, h4⟩ := h
  exact ⟨s, cs, h1, h2, h3.at, h4.at⟩

end Go.Proofs.Ytccibfldadflkaa
