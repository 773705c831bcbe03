/- The texts Q1, joined. No statement is proved here. -/
import Derived.Test.YtccibfldadflkaaK35
import Derived.Test.YtccibfldadflkaaK15
import Derived.Test.YtccibfldadflkaaK30
/- Rows told apart by the types of their blocks; a row of pairs, one pair more. -/
namespace Go.Proofs.Ytccibfldadflkaa
open Go.RowKit

/-- The block that may turn holds cells of the type T. -/
def Tag (w : World) (row : Option Nat) (T : TypeId) : Prop := ∀ g, row = some g → ∃ cs fz, w.heap[g]? = some (.cells cs T fz)
theorem Tag.none (w : World) (T : TypeId) : Tag w none T := fun _ h => by cases h
theorem Tag.blk {w : World} {g : Nat} {cs : Array Value} {T : TypeId} {fz : Nat × Nat} (h : w.heap[g]? = some (.cells cs T fz)) : Tag w (some g) T := fun _ e => by cases e; exact ⟨_, _, h⟩
theorem blk_tag {T T' : TypeId} {w w' : World} {row : Option Nat} {g : Nat} {cs : Array Value} {fz : Nat × Nat} (h : w.heap[g]? = some (.cells cs T' fz)) (hg : w.grownBy w' row) (ht : Tag w row T) (hT : T ≠ T') : w'.heap[g]? = some (.cells cs T' fz) :=
  grownBy_blk hg h (fun e' => by
    obtain ⟨cs', fz', h2⟩ := ht g e'.symm
    rw [h] at h2
    cases h2
    exact hT rfl)
theorem PairsOwn.slice {α : Type} {T : TypeId} {R : Nat → World → Value → Value → α → Prop} {B : Nat} {w : World} {v : Value} {xs : List α} (h : PairsOwn T R B w v xs) : ∃ p c, v = .slice p xs.length c := by
  obtain ⟨vs, ho, -⟩ := h
  rcases ho.2 with ⟨rfl, hn⟩ | ⟨g, cap, cur, rfl, _⟩
  · exact ⟨none, 0, by rw [hn]⟩
  · exact ⟨_, _, rfl⟩
theorem AffsOwn.nil (B : Nat) (w : World) : AffsOwn B w (.slice none 0 0) [] := ⟨[], World.ownsRow_nil _ _ _ _, fun i x hi => by simp at hi⟩
theorem LoopsOwn.made {B g c : Nat} {w : World} (h : w.ownsRow B 75 2 (.slice (some ⟨g, 0, none⟩) 0 c) 0 []) : LoopsOwn B w (.slice (some ⟨g, 0, none⟩) 0 c) [] := ⟨[], h, fun i x hi => by simp at hi⟩

/-- Lists of at most N expressions with four coefficients; nests of at most N loops with such sides. -/
def FourA (N : Nat) (zs : List Aff) : Prop := zs.length ≤ N ∧ ∀ a ∈ zs, a.1.length = 4
def FourL (N : Nat) (ls : List Lp) : Prop := ls.length ≤ N ∧ ∀ l ∈ ls, FourA N l.1 ∧ FourA N l.2
theorem FourA.mono {N M : Nat} {zs : List Aff} (h : FourA N zs) (hN : N ≤ M) : FourA M zs := ⟨by have := h.1; omega, h.2⟩
theorem FourL.mono {N M : Nat} {ls : List Lp} (h : FourL N ls) (hN : N ≤ M) : FourL M ls := ⟨by have := h.1; omega, fun l hl => ⟨(h.2 l hl).1.mono hN, (h.2 l hl).2.mono hN⟩⟩
end Go.Proofs.Ytccibfldadflkaa
