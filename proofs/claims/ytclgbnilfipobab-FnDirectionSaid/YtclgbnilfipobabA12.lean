/- Contracts: the model's combination of two expressions. -/
import Derived.Test.YtclgbnilfipobabA11
import Derived.Deep.AppendLies
import Derived.Deep.RegionLaw
import Derived.Deep.RegionHeld3
namespace Go.Proofs.Ytclgbnilfipobab
open Go.RowKit

/-- x times a plus y times b, coefficient by coefficient. -/
def comb (xs : List Int) (x : Int) (ys : List Int) (y : Int) : List Int := List.zipWith (fun a b => x * a + y * b) xs ys

/-- One int appended to a row of the call's own, in a region that draws. -/
theorem step_push {ops : Array Oper} {o : Oper} {a : Act} {K : Act → World → Prop} {Q : Exit → Act → World → Prop} {E : Prop} {W : World} (hgd : o.guard = none) (s x : Operand)
    (ho : o.op = .call { callee := .builtin .append, args := #[s, x], argTypes := #[22, 22] }) (base n : Nat) (p : Option Addr) (c : Nat) (xs : List Int) (val : Int) (ab ao : Nat)
    (hs : a.eval s = .slice p n c) (hx : a.eval x = .slice (some ⟨ab, ao, none⟩) 1 1) (hown : W.ownsRow base 3 1 (.slice p n c) n (xs.map (Value.int .i64))) (hcell : W.cell? ⟨ab, ao, none⟩ = some (.int .i64 val)) (hn : n < 1000000000) (hb : base ≤ W.heap.size)
    (h : ∀ g cap w', w'.ownsRow base 3 1 (.slice (some ⟨g, 0, none⟩) (n + 1) cap) (n + 1) ((xs ++ [val]).map (Value.int .i64)) → W.grownBy w' (Value.slice p n c).ownBlock → K (a.put o.dst (.slice (some ⟨g, 0, none⟩) (n + 1) cap)) w') :
    if Region.wanted o (yielded ops a.tmps) = true then Oper.wp Try.prog o a W K Q else E := by
  obtain ⟨i0, hi, hz0, hz1, hz2⟩ := info_parts infoInt
  refine step_append_lies W hgd s x 22 ho base 3 i0 (.int .i64 0) 1 8 underSliceInt hi hz0 hz1 hz2 rfl (by decide) (.slice p n c) n _ hs hown ⟨ab, ao, none⟩ 1 1 [.int .i64 val] hx rfl ?_ (by intro u hu; simp at hu; subst hu; rfl) (by omega) (by unfold maxLen; omega) (by omega) hb W.heap.size rfl ?_
  · intro j u hu
    match j, hu with
    | 0, hu => simp at hu; subst hu; rw [Addr.add_lit]; exact hcell
  · intro g cap w' h1 h2 _ _
    refine h g cap w' ?_ h2
    simpa using h1

theorem cells1 {w : World} {g : Nat} {v : Value} (h : w.cell? ⟨g, 0, none⟩ = some v) : ∀ j u, [v][j]? = some u → w.cell? ((⟨g, 0, none⟩ : Addr).add j) = some u := by
  intro j u hu
  match j, hu with
  | 0, hu => simp at hu; subst hu; rw [Addr.add_lit]; exact h
theorem cell_setAt {w : World} {g o b o' : Nat} (u : Value) (h : b ≠ g) : (w.setCell ⟨g, o, none⟩ u).cell? ⟨b, o', none⟩ = w.cell? ⟨b, o', none⟩ := World.cell?_of_block (Below.heap_setCell _ _ _ _ h)

theorem comb_get {xs ys : List Int} {x y a b : Int} {i : Nat} (ha : xs[i]? = some a) (hb : ys[i]? = some b) : (comb xs x ys y)[i]? = some (x * a + y * b) := by
  simp [comb, List.getElem?_zipWith, ha, hb]
theorem comb_len (xs ys : List Int) (x y : Int) : (comb xs x ys y).length = min xs.length ys.length := by simp [comb]

theorem blk2_set0 {W : World} {g : Nat} {a b c : Value} {t : TypeId} (h : W.heap[g]? = some (.cells #[a, b] t (0, 0))) : (W.setCell ⟨g, 0, none⟩ c).heap[g]? = some (.cells #[c, b] t (0, 0)) := by
  simpa using heap_setCell_same W g 0 #[a, b] t c h
theorem grownBy_blk {a b : World} {r : Option Nat} {g : Nat} {o : Obj} (h : a.grownBy b r) (hg : a.heap[g]? = some o) (hne : some g ≠ r) : b.heap[g]? = some o := (h.block _ (lt_of_block hg) hne).trans hg
theorem setCell_blk {a : World} {g g' o' : Nat} {o : Obj} (hg : a.heap[g]? = some o) (hne : g ≠ g') (u : Value) : (a.setCell ⟨g', o', none⟩ u).heap[g]? = some o := (Below.heap_setCell _ _ _ _ hne).trans hg

end Go.Proofs.Ytclgbnilfipobab
