/- Contracts: the model's combination of two expressions. -/
import Derived.Test.YtcpbfefgjpimiaaA11
import Derived.Deep.AppendLies
import Derived.Deep.RegionLaw
import Derived.Deep.RegionHeld3
namespace Go.Proofs.Ytcpbfefgjpimiaa
open Go.RowKit

/-- x times a plus y times b, coefficient by coefficient. -/
def comb (xs : List Int) (x : Int) (ys : List Int) (y : Int) : List Int := List.zipWith (fun a b => x * a + y * b) xs ys

/-- One int appended to a row of the call's own, in a region that draws. -/
theorem step_push {ops : Array Oper} {o : Oper} {a : Act} {K : Act → World → Prop} {Q : Exit → Act → World → Prop} {E : Prop} {W : World} (hgd : o.guard = none) (s x : Operand)
    (ho : o.op = .call { callee := .builtin .append, args := #[s, x], argTypes := #[25, 25] }) (base n : Nat) (p : Option Addr) (c : Nat) (xs : List Int) (val : Int) (ab ao : Nat)
    (hs : a.eval s = .slice p n c) (hx : a.eval x = .slice (some ⟨ab, ao, none⟩) 1 1) (hown : W.ownsRow base 3 1 (.slice p n c) n (xs.map (Value.int .i64))) (hcell : W.cell? ⟨ab, ao, none⟩ = some (.int .i64 val)) (hn : n < 1000000000) (hb : base ≤ W.heap.size)
    (h : ∀ g cap w', w'.ownsRow base 3 1 (.slice (some ⟨g, 0, none⟩) (n + 1) cap) (n + 1) ((xs ++ [val]).map (Value.int .i64)) → W.grownBy w' (Value.slice p n c).ownBlock → K (a.put o.dst (.slice (some ⟨g, 0, none⟩) (n + 1) cap)) w') :
    if Region.wanted o (yielded ops a.tmps) = true then Oper.wp Try.prog o a W K Q else E := by
  obtain ⟨i0, hi, hz0, hz1, hz2⟩ := info_parts infoInt
  refine step_append_lies W hgd s x 25 ho base 3 i0 (.int .i64 0) 1 8 underSliceInt hi hz0 hz1 hz2 rfl (by decide) (.slice p n c) n _ hs hown ⟨ab, ao, none⟩ 1 1 [.int .i64 val] hx rfl ?_ (by intro u hu; simp at hu; subst hu; rfl) (by omega) (by unfold maxLen; omega) (by omega) hb W.heap.size rfl ?_
  · intro j u hu
    match j, hu with
    | 0, hu => simp at hu; subst hu; rw [Addr.add_lit]; exact hcell
  · intro g cap w' h1 h2 _ _
    refine h g cap w' ?_ h2
    simpa using h1

theorem cells1 {w : World} {g : Nat} {v : Value} (h : w.cell? ⟨g, 0, none⟩ = some v) : ∀ j u, [v][j]? = some u → w.cell? ((⟨g, 0, none⟩ : Addr).add j) = some u := by
  intro j u hu
  match j, hu with
  | 0, hu => simp at hu; subst hu; rw [Addr.add_lit]; exact h
theorem cell_setAt {w : World} {g o b o' : Nat} (u : Value) (h : b ≠ g) : (w.setCell ⟨g, o, none⟩ u).cell? ⟨b, o', none⟩ = w.cell? ⟨b, o', none⟩ := World.cell?_of_block (Below.heap_setCell _ _ _ _ h)

theorem comb_get {xs ys : List Int} {x y a b : Int} {i : Nat} (ha : xs[i]? = some a) (hb : ys[i]? = some b) : (comb xs x ys y)[i]? = some (x * a + y * b) := by
  simp [comb, List.getElem?_zipWith, ha, hb]
theorem comb_len (xs ys : List Int) (x y : Int) : (comb xs x ys y).length = min xs.length ys.length := by simp [comb]

theorem blk2_set0 {W : World} {g : Nat} {a b c : Value} {t : TypeId} (h : W.heap[g]? = some (.cells #[a, b] t (0, 0))) : (W.setCell ⟨g, 0, none⟩ c).heap[g]? = some (.cells #[c, b] t (0, 0)) := by
  simpa using heap_setCell_same W g 0 #[a, b] t c h
theorem grownBy_blk {a b : World} {r : Option Nat} {g : Nat} {o : Obj} (h : a.grownBy b r) (hg : a.heap[g]? = some o) (hne : some g ≠ r) : b.heap[g]? = some o := (h.block _ (lt_of_block hg) hne).trans hg
theorem setCell_blk {a : World} {g g' o' : Nat} {o : Obj} (hg : a.heap[g]? = some o) (hne : g ≠ g') (u : Value) : (a.setCell ⟨g', o', none⟩ u).heap[g]? = some o := (Below.heap_setCell _ _ _ _ hne).trans hg

/-- What holds at the head of round n of the model's combination. -/
def CombRel (w : World) (g0 : Nat) (va vb : Value) (zs : List Int) (k l m : Int) (n : Nat) (wr : World) : Prop :=
  ∃ p c, wr.heap[g0 + 1 + 1 + 1]? = some (.cells #[.slice p n c, .int .i64 m] 38 (0, 0)) ∧ wr.ownsRow (g0 + 1 + 1 + 1 + 1) 3 1 (.slice p n c) n ((zs.take n).map (Value.int .i64)) ∧
    wr.heap[g0]? = some (.cells #[va, .int .i64 k] 38 (0, 0)) ∧ wr.heap[g0 + 1]? = some (.cells #[vb, .int .i64 l] 38 (0, 0)) ∧ wr.heap[g0 + 1 + 1]? = some (.cells #[.slice none 0 0, .int .i64 0] 38 (0, 0)) ∧ Ext w wr

theorem comb_step {w wr : World} {g0 n : Nat} {va vb : Value} {zs : List Int} {k l m z : Int} {p : Option Addr} {c : Nat} (hg : w.heap.size = g0) (hz : zs[n]? = some z)
    (B9 : wr.heap[g0 + 1 + 1 + 1]? = some (.cells #[.slice p n c, .int .i64 m] 38 (0, 0))) (hown : wr.ownsRow (g0 + 1 + 1 + 1 + 1) 3 1 (.slice p n c) n ((zs.take n).map (Value.int .i64)))
    (BA : wr.heap[g0]? = some (.cells #[va, .int .i64 k] 38 (0, 0))) (BB : wr.heap[g0 + 1]? = some (.cells #[vb, .int .i64 l] 38 (0, 0))) (BR : wr.heap[g0 + 1 + 1]? = some (.cells #[.slice none 0 0, .int .i64 0] 38 (0, 0))) (hE : Ext w wr)
    (g cap : Nat) (o : Obj) (w1 : World) (hown1 : w1.ownsRow (g0 + 1 + 1 + 1 + 1) 3 1 (.slice (some ⟨g, 0, none⟩) (n + 1) cap) (n + 1) ((zs.take n ++ [z]).map (Value.int .i64))) (hgrow : ((wr.alloc o).drew).grownBy w1 (Value.slice p n c).ownBlock) :
    CombRel w g0 va vb zs k l m (n + 1) (w1.setCell ⟨g0 + 1 + 1 + 1, 0, none⟩ (.slice (some ⟨g, 0, none⟩) (n + 1) cap)) := by
  have ne : ∀ b, b < g0 + 1 + 1 + 1 + 1 → some b ≠ (Value.slice p n c).ownBlock := fun b hb e => by have := (hown.lt b e.symm).1; omega
  refine ⟨some ⟨g, 0, none⟩, cap, blk2_set0 (grownBy_blk hgrow (blk_old B9) (ne _ (by omega))), ?_, setCell_blk (grownBy_blk hgrow (blk_old BA) (ne _ (by omega))) (by omega) _, setCell_blk (grownBy_blk hgrow (blk_old BB) (ne _ (by omega))) (by omega) _, setCell_blk (grownBy_blk hgrow (blk_old BR) (ne _ (by omega))) (by omega) _, ?_⟩
  · rw [take_next hz]
    exact ownsRow_setCell_below hown1 (by dsimp only; omega) _
  · refine Ext.setAt ((hE.alloc _).drew.grown hgrow (fun b hb => ?_)) (by omega) _
    have := (hown.lt b hb).1
    omega

end Go.Proofs.Ytcpbfefgjpimiaa
