/- The texts Q1, joined. No statement is proved here. -/
import Derived.Test.YtggpjapmhakklaaK30
import Derived.Test.YtggpjapmhakklaaK36
import Derived.Test.YtggpjapmhakklaaK33
/- Rows told apart by the types of their blocks; a row of pairs, one pair more. -/
namespace Go.Proofs.Ytggpjapmhakklaa
open Go.RowKit

/-- The block that may turn holds cells of the type T. -/
def Tag (w : World) (row : Option Nat) (T : TypeId) : Prop := ∀ g, row = some g → ∃ cs fz, w.heap[g]? = some (.cells cs T fz)
theorem Tag.none (w : World) (T : TypeId) : Tag w none T := fun _ h => by cases h
theorem Tag.blk {w : World} {g : Nat} {cs : Array Value} {T : TypeId} {fz : Nat × Nat} (h : w.heap[g]? = some (.cells cs T fz)) : Tag w (some g) T := fun _ e => by cases e; exact ⟨_, _, h⟩
theorem row_tag {B size n : Nat} {e T : TypeId} {w w' : World} {v : Value} {xs : List Value} {row : Option Nat} (h : w.ownsRow B e size v n xs) (hg : w.grownBy w' row) (ht : Tag w row T) (hT : T ≠ e) : w'.ownsRow B e size v n xs := by
  refine ⟨h.1, ?_⟩
  rcases h.2 with hn | ⟨g, cap, cur, hv, hbg, hgh, r⟩
  · exact .inl hn
  · refine .inr ⟨g, cap, cur, hv, hbg, ?_, r⟩
    refine grownBy_blk hg hgh (fun e' => ?_)
    obtain ⟨cs, fz, h2⟩ := ht g e'.symm
    rw [hgh] at h2
    cases h2
    exact hT rfl
theorem blk_tag {T T' : TypeId} {w w' : World} {row : Option Nat} {g : Nat} {cs : Array Value} {fz : Nat × Nat} (h : w.heap[g]? = some (.cells cs T' fz)) (hg : w.grownBy w' row) (ht : Tag w row T) (hT : T ≠ T') : w'.heap[g]? = some (.cells cs T' fz) :=
  grownBy_blk hg h (fun e' => by
    obtain ⟨cs', fz', h2⟩ := ht g e'.symm
    rw [h] at h2
    cases h2
    exact hT rfl)
theorem IntsOwn.tag {B : Nat} {T : TypeId} {w w' : World} {v : Value} {xs : List Int} {row : Option Nat} (h : IntsOwn B w v xs) (hg : w.grownBy w' row) (ht : Tag w row T) (hT : T ≠ 3) : IntsOwn B w' v xs := row_tag h hg ht hT
theorem AffsOwn.tag {B : Nat} {T : TypeId} {w w' : World} {v : Value} {xs : List Aff} {row : Option Nat} (h : AffsOwn B w v xs) (hg : w.grownBy w' row) (ht : Tag w row T) (hT : T ≠ 3) (hT2 : T ≠ 45) : AffsOwn B w' v xs :=
  PairsOwn.map' h (fun _ h => row_tag h hg ht hT2) (fun h => ⟨h.1.tag hg ht hT, h.2⟩)
/-- One pair more, put behind the row where it lies or in a new block. -/
theorem PairsOwn.push {α : Type} {T : TypeId} {R : Nat → World → Value → Value → α → Prop} (hR : ∀ {B w w' u0 u1 x row}, R B w u0 u1 x → w.grownBy w' row → Tag w row T → R B w' u0 u1 x)
    {B n : Nat} {w w' : World} {v v' u0 u1 : Value} {xs : List α} {x : α} {vs : List Value} (hn : xs.length = n)
    (he : ∀ i y, xs[i]? = some y → ∃ t0 t1, vs[i * 2]? = some t0 ∧ vs[i * 2 + 1]? = some t1 ∧ R B w t0 t1 y) (hvl : vs.length = n * 2)
    (ho' : w'.ownsRow B T 2 v' (n + 1) (vs ++ [u0, u1])) (hg : w.grownBy w' v.ownBlock) (ht : Tag w v.ownBlock T) (hx : R B w u0 u1 x) : PairsOwn T R B w' v' (xs ++ [x]) := by
  refine ⟨vs ++ [u0, u1], by rw [List.length_append, hn]; exact ho', fun i y hi => ?_⟩
  rcases Nat.lt_or_ge i xs.length with hlt | hge
  · rw [List.getElem?_append_left hlt] at hi
    obtain ⟨t0, t1, h0, h1, h2⟩ := he i y hi
    exact ⟨t0, t1, by rw [List.getElem?_append_left (by omega)]; exact h0, by rw [List.getElem?_append_left (by omega)]; exact h1, hR h2 hg ht⟩
  · rw [List.getElem?_append_right hge] at hi
    have hi0 : i - xs.length = 0 := by
      rcases Nat.eq_zero_or_pos (i - xs.length) with h | h
      · exact h
      · rw [List.getElem?_eq_none (by simp; omega)] at hi; cases hi
    rw [hi0] at hi
    simp at hi
    subst hi
    have hin : i = n := by omega
    subst hin
    exact ⟨u0, u1, by rw [List.getElem?_append_right (by omega)]; simp [hvl], by rw [List.getElem?_append_right (by omega), hvl]; simp [show i * 2 + 1 - i * 2 = 1 by omega], hR hx hg ht⟩
theorem AffO.grow {B : Nat} {w w' : World} {u0 u1 : Value} {x : Aff} {row : Option Nat} (h : AffO B w u0 u1 x) (hg : w.grownBy w' row) (ht : Tag w row 45) : AffO B w' u0 u1 x := ⟨h.1.tag hg ht (by decide), h.2⟩
theorem PairsOwn.slice {α : Type} {T : TypeId} {R : Nat → World → Value → Value → α → Prop} {B : Nat} {w : World} {v : Value} {xs : List α} (h : PairsOwn T R B w v xs) : ∃ p c, v = .slice p xs.length c := by
  obtain ⟨vs, ho, -⟩ := h
  rcases ho.2 with ⟨rfl, hn⟩ | ⟨g, cap, cur, rfl, _⟩
  · exact ⟨none, 0, by rw [hn]⟩
  · exact ⟨_, _, rfl⟩
theorem AffsOwn.nil (B : Nat) (w : World) : AffsOwn B w (.slice none 0 0) [] := ⟨[], World.ownsRow_nil _ _ _ _, fun i x hi => by simp at hi⟩
/-- Lists of at most N expressions with four coefficients; nests of at most N loops with such sides. -/
def FourA (N : Nat) (zs : List Aff) : Prop := zs.length ≤ N ∧ ∀ a ∈ zs, a.1.length = 4
def FourL (N : Nat) (ls : List Lp) : Prop := ls.length ≤ N ∧ ∀ l ∈ ls, FourA N l.1 ∧ FourA N l.2
theorem FourA.mono {N M : Nat} {zs : List Aff} (h : FourA N zs) (hN : N ≤ M) : FourA M zs := ⟨by have := h.1; omega, h.2⟩
theorem FourL.mono {N M : Nat} {ls : List Lp} (h : FourL N ls) (hN : N ≤ M) : FourL M ls := ⟨by have := h.1; omega, fun l hl => ⟨(h.2 l hl).1.mono hN, (h.2 l hl).2.mono hN⟩⟩
theorem FourA.push {N : Nat} {zs : List Aff} {a : Aff} (h : FourA N zs) (ha : a.1.length = 4) : FourA (N + 1) (zs ++ [a]) :=
  ⟨by have := h.1; simp; omega, fun b hb => by rcases List.mem_append.1 hb with hb | hb; exact h.2 b hb; simp at hb; rw [hb]; exact ha⟩
theorem FourL.push {N : Nat} {ls : List Lp} {l : Lp} (h : FourL N ls) (h1 : FourA (N + 1) l.1) (h2 : FourA (N + 1) l.2) : FourL (N + 1) (ls ++ [l]) :=
  ⟨by have := h.1; simp; omega, fun b hb => by rcases List.mem_append.1 hb with hb | hb; exact (h.mono (by omega)).2 b hb; simp at hb; rw [hb]; exact ⟨h1, h2⟩⟩
end Go.Proofs.Ytggpjapmhakklaa
