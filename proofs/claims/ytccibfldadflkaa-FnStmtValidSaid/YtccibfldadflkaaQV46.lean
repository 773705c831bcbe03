/- The texts Li N7, joined. No statement is proved here. -/
import Derived.Test.YtccibfldadflkaaQV10
import Derived.Maps.AppendAt
/- Rows of linear expressions of the call's own; contract: linears (valid expressions as linear ones). No statement is proved here. -/
namespace Go.Proofs.Ytccibfldadflkaa
open Go.RowKit

def lin5 (x : Aff) : List Value := x.1.map (Value.int .i64) ++ [.int .i64 x.2]
def lins (xs : List Aff) : List Value := xs.flatMap lin5
/-- A row of linear expressions, of the call's own. -/
def LinsOwn (B : Nat) (w : World) (v : Value) (xs : List Aff) : Prop := w.ownsRow B 79 5 v xs.length (lins xs) ∧ ∀ x ∈ xs, affValidB x.1 x.2 = true
theorem LinsOwn.nil (B : Nat) (w : World) : LinsOwn B w (.slice none 0 0) [] := ⟨World.ownsRow_nil _ _ _ _, by simp⟩
theorem LinsOwn.ext {B : Nat} {w w' : World} {v : Value} {xs : List Aff} (h : LinsOwn B w v xs) (hE : Ext w w') : LinsOwn B w' v xs := ⟨ownsRow_ext h.1 hE, h.2⟩
theorem LinsOwn.weak {B B' : Nat} {w : World} {v : Value} {xs : List Aff} (h : LinsOwn B w v xs) (hB : B' ≤ B) : LinsOwn B' w v xs := ⟨ownsRow_weak h.1 hB, h.2⟩
theorem LinsOwn.setOld {B : Nat} {w : World} {v : Value} {xs : List Aff} (h : LinsOwn B w v xs) {p : Addr} (hp : p.block < B) (u : Value) : LinsOwn B (w.setCell p u) v xs := ⟨ownsRow_setCell_below h.1 hp u, h.2⟩
theorem LinsOwn.form {B : Nat} {w : World} {v : Value} {xs : List Aff} (h : LinsOwn B w v xs) : ∃ p c, v = .slice p xs.length c := by
  rcases h.1.2 with ⟨rfl, hn0⟩ | ⟨g, cap, cur, e, _⟩
  · exact ⟨none, 0, by rw [hn0]⟩
  · exact ⟨_, cap, e⟩
theorem infoLin : (Try.prog.info? 79).map (fun i => (i.zero, i.size, i.bytes)) = some (some (.agg #[.int .i64 0, .int .i64 0, .int .i64 0, .int .i64 0, .int .i64 0]), 5, 40) := by kernel_rfl
theorem lin5_len {x : Aff} (h : affValidB x.1 x.2 = true) : (lin5 x).length = 5 := by
  obtain ⟨xs, k⟩ := x
  obtain ⟨a, b, c, d, rfl, _⟩ := valid_four h
  rfl
set_option linter.unusedVariables false in
theorem lins_get : ∀ {xs : List Aff} (hv : ∀ x ∈ xs, affValidB x.1 x.2 = true) {i : Nat} {x : Aff}, xs[i]? = some x → ∀ (j : Nat) (u : Value), (lin5 x)[j]? = some u → (lins xs)[i * 5 + j]? = some u
  | [], _, _, _, h, _, _, _ => by simp at h
  | y :: r, hv, 0, x, h, j, u, hu => by
    simp only [List.getElem?_cons_zero, Option.some.injEq] at h
    subst h
    have hl := lin5_len (hv y (by simp))
    have hj : j < 5 := by
      obtain ⟨hlt, -⟩ := List.getElem?_eq_some_iff.1 hu
      omega
    show (lin5 y ++ lins r)[0 * 5 + j]? = some u
    rw [Nat.zero_mul, Nat.zero_add, List.getElem?_append_left (by omega)]
    exact hu
  | y :: r, hv, i + 1, x, h, j, u, hu => by
    rw [List.getElem?_cons_succ] at h
    have hl := lin5_len (hv y (by simp))
    show (lin5 y ++ lins r)[(i + 1) * 5 + j]? = some u
    rw [List.getElem?_append_right (by omega), hl, show (i + 1) * 5 + j - 5 = i * 5 + j by omega]
    exact lins_get (fun z hz => hv z (by simp [hz])) h j u hu
theorem LinsOwn.get {B : Nat} {w : World} {p : Option Addr} {n c : Nat} {xs : List Aff} (h : LinsOwn B w (.slice p n c) xs) {i : Nat} {x : Aff} (hi : xs[i]? = some x) :
    ∃ g a b c d k, x = ([a, b, c, d], k) ∧ affValidB [a, b, c, d] k = true ∧ p = some ⟨g, 0, none⟩ ∧ g < w.heap.size ∧ w.cell? ⟨g, i * 5, none⟩ = some (.int .i64 a) ∧ w.cell? ⟨g, i * 5 + 1, none⟩ = some (.int .i64 b) ∧ w.cell? ⟨g, i * 5 + 2, none⟩ = some (.int .i64 c) ∧ w.cell? ⟨g, i * 5 + 3, none⟩ = some (.int .i64 d) ∧ w.cell? ⟨g, i * 5 + 4, none⟩ = some (.int .i64 k) := by
  obtain ⟨ho, hv⟩ := h
  have hx := hv x (List.mem_of_getElem? hi)
  obtain ⟨xs', k⟩ := x
  obtain ⟨a, b, c', d, rfl, _⟩ := valid_four hx
  have ho2 := ho.2
  rcases ho2 with ⟨e, hn⟩ | ⟨g, cap, cur, e, _, hg, _⟩
  · rw [List.eq_nil_of_length_eq_zero hn] at hi; simp at hi
  · cases e
    have hc := World.ownsRow.cells ho (g := g) rfl
    have cell : ∀ j u, (lin5 ([a, b, c', d], k))[j]? = some u → w.cell? ⟨g, i * 5 + j, none⟩ = some u := fun j u hu => by
      have h := hc _ _ (lins_get hv hi j u hu)
      have hadd : (⟨g, 0, none⟩ : Addr).add (i * 5 + j) = ⟨g, i * 5 + j, none⟩ := by unfold Addr.add; split <;> simp_all
      rw [hadd] at h
      exact h
    exact ⟨g, a, b, c', d, k, rfl, hx, rfl, lt_of_block hg, cell 0 _ rfl, cell 1 _ rfl, cell 2 _ rfl, cell 3 _ rfl, cell 4 _ rfl⟩

end Go.Proofs.Ytccibfldadflkaa

/- Contracts: comparisons of loops and nests. -/
namespace Go.Proofs.Ytccibfldadflkaa
open Go.RowKit

end Go.Proofs.Ytccibfldadflkaa
