/- The texts D3 N4, joined. No statement is proved here. -/
import Derived.Test.YtccibfldadflkaaQV04
import Derived.Test.YtccibfldadflkaaQV49
import Derived.Deep.RegionHeld3
/- Draws: an element of a list, a place. -/
namespace Go.Proofs.Ytccibfldadflkaa
open Go.RowKit

/-- Since w0 only new blocks, and writes to block g. -/
def Dr (w0 : World) (g : Nat) (w : World) : Prop := w0.grownBy w (some g)
theorem Dr.refl (w : World) (g : Nat) : Dr w g w := World.grownBy.refl _ _
theorem Dr.trans {a b c : World} {g : Nat} (h : Dr a g b) (k : Dr b g c) : Dr a g c := grownBy_trans h k
theorem Dr.ext {a b c : World} {g : Nat} (h : Dr a g b) (k : Ext b c) : Dr a g c := grownBy_trans h (k.grownBy _)
theorem Dr.alloc {a b : World} {g : Nat} (h : Dr a g b) (o : Obj) : Dr a g (b.alloc o) := h.ext ((Ext.refl b).alloc o)
theorem Dr.drew {a b : World} {g : Nat} (h : Dr a g b) : Dr a g b.drew := h.ext (Ext.refl b).drew
/-- A row that has been made since w0 is written. -/
theorem Dr.fresh {a b c : World} {g : Nat} {row : Option Nat} (h : Dr a g b) (k : b.grownBy c row) (hr : ∀ j, row = some j → a.heap.size ≤ j) : Dr a g c :=
  ⟨k.os.trans h.os, k.tape.trans h.tape, k.output.trans h.output, Nat.le_trans h.size k.size, fun i hi hne => (k.block i (Nat.lt_of_lt_of_le hi h.size) (fun e => by have := hr i e.symm; omega)).trans (h.block i hi hne)⟩
theorem Dr.set {a b : World} {g : Nat} (h : Dr a g b) {j o : Nat} (hj : a.heap.size ≤ j) (u : Value) : Dr a g (b.setCell ⟨j, o, none⟩ u) := h.fresh (grown_set b j o u) (fun k e => by have := Option.some.inj e; omega)
theorem Dr.ext0 {W a b : World} {g : Nat} (h : Dr a g b) (hE : Ext W a) (hg : W.heap.size ≤ g) : Ext W b := hE.grownRd h hg

/-- The source (137) stays where a later row is written. -/
theorem Rd.beside {W : World} {g K : Nat} {w w' : World} {row : Option Nat} (h : Rd W g K w) (hg : w.grownBy w' row) (hr : ∀ j, row = some j → g < j) : Rd W g K w' := by
  obtain ⟨p, n, c, hb, k, h1, h2, h3, h4, h5⟩ := h
  refine ⟨p, n, c, ⟨hb.1, hb.2.1, fun i hi => ?_⟩, k, h1, (hg.block g (lt_of_block h2) (fun e => by have := hr g e.symm; omega)).trans h2, h3, h4.grown hg (fun j e => by have := hr j e; omega), h5⟩
  obtain ⟨b, off, x, e, hc, hx⟩ := hb.2.2 i hi
  refine ⟨b, off, x, e, ?_, hx⟩
  have hbg := h5 b off (by omega) e
  exact (World.cell?_of_block (hg.block b (World.block_lt_of_cell? w _ hc) (fun e => by have := hr b e.symm; omega))).trans hc
theorem Rd.lt {W : World} {g K : Nat} {w : World} (h : Rd W g K w) : g < w.heap.size := by
  obtain ⟨p, n, c, hb, k, h1, h2, h3, h4, h5⟩ := h
  exact lt_of_block h2

/-- A row of the call's own, above the source, stays where the source is asked. -/
theorem row_dr {B g size n : Nat} {e : TypeId} {w w' : World} {v : Value} {xs : List Value} (h : w.ownsRow B e size v n xs) (hD : Dr w g w') (hB : g < B) : w'.ownsRow B e size v n xs := by
  refine World.ownsRow.kept h hD ?_
  cases hb : v.ownBlock with
  | none => exact .inl rfl
  | some b => exact .inr (fun e => by have := (h.lt b hb).1; have := Option.some.inj e; omega)
theorem blk_dr {w w' : World} {g b : Nat} {o : Obj} (h : w.heap[b]? = some o) (hD : Dr w g w') (hb : b ≠ g) : w'.heap[b]? = some o := (hD.block b (lt_of_block h) (fun e => hb (Option.some.inj e))).trans h

theorem own_form' {B size n : Nat} {e : TypeId} {w : World} {v : Value} {xs : List Value} (h : w.ownsRow B e size v n xs) (hv : v ≠ .slice none 0 0) : ∃ b c, v = .slice (some ⟨b, 0, none⟩) n c ∧ n ≤ c := by
  rcases h.2 with ⟨rfl, rfl⟩ | ⟨g, cap, cur, rfl, _, _, h1, _⟩
  · exact absurd rfl hv
  · exact ⟨_, _, rfl, h1⟩

set_option maxHeartbeats 1000000 in
theorem num_any (W : World) (g K b m : Nat) (xs : List Int) (w : World) (hr : Rd W g K w) (hK : K ≤ 100000) (hm : xs.length = m) (h0 : 0 < m) (h1 : m ≤ 1000) (hb : w.heap[b]? = some (.cells (xs.map (Value.int .i64)).toArray 3 (0, 0))) (hbg : b ≠ g) :
    Calls Try.prog 57 #[.pointer (some ⟨g, 0, none⟩), .slice (some ⟨b, 0, none⟩) m m] w fun e w' => (∃ x, e = .returned (.int .i64 x) ∧ x ∈ xs) ∧ Rd W g (K + 1) w' ∧ Dr w g w' := by
  have HR := Lib.hid hr; have HB := Lib.hid hb; have HM := Lib.hid hm; clear hr hb hm
  have hmi : (m : Int) ≤ 1000 := by omega
  go_enter Try.func57, Try.ntmps57
  go_wp2_with (fail)
  refine (pick_any W g K m _ HR.out hK (by omega)).mono ?_
  rintro e w1 ⟨⟨r, rfl, hlt⟩, h2, h3⟩
  have hrm : (r : Int) < (m : Int) := hlt (by omega)
  have hrn : r < m := by omega
  obtain ⟨x, hx⟩ := get_some (xs := xs) (k := r) (by rw [HM.out]; exact hrn)
  have hB1 := blk_dr HB.out h3 hbg
  have hc : w1.cell? ⟨b, r, none⟩ = some (.int .i64 x) := by
    rw [cell_of_row w1 b r _ 3 (0, 0) hB1]; simp [hx]
  have hr0 : (0 : Int) ≤ (r : Int) := by omega
  have H2 := Lib.hid h2; have H3 := Lib.hid h3; have HX := Lib.hid (List.mem_of_getElem? hx)
  clear h2 h3 hB1 hx hlt
  go_wp2
  go_ret
  exact ⟨⟨x, rfl, HX.out⟩, H2.out, H3.out⟩
end Go.Proofs.Ytccibfldadflkaa

/- Contracts of the laws' own helpers for nests: comparisons. -/
namespace Go.Proofs.Ytccibfldadflkaa
open Go.RowKit

/-- Two lists are the same. -/
def lEqB {α : Type} [DecidableEq α] (xs ys : List α) : Bool := decide (xs = ys)
theorem lEqB_len {α : Type} [DecidableEq α] {xs ys : List α} (h : xs.length ≠ ys.length) : lEqB xs ys = false := by
  unfold lEqB; apply decide_eq_false; intro e; exact h (by rw [e])
theorem lEqB_ne {α : Type} [DecidableEq α] {xs ys : List α} {k : Nat} {x y : α} (hx : xs[k]? = some x) (hy : ys[k]? = some y) (h : x ≠ y) : lEqB xs ys = false := by
  unfold lEqB; apply decide_eq_false; intro e; rw [e, hy] at hx; exact h (Option.some.inj hx).symm
theorem ltake_eq_next {α : Type} {xs ys : List α} {k : Nat} {x y : α} (hx : xs[k]? = some x) (hy : ys[k]? = some y) (h : xs.take k = ys.take k) (e : x = y) : xs.take (k + 1) = ys.take (k + 1) := by
  rw [take_next hx, take_next hy, h, e]
theorem lEqB_all {α : Type} [DecidableEq α] {xs ys : List α} {k : Nat} (hx : xs.length ≤ k) (hy : ys.length ≤ k) (h : xs.take k = ys.take k) : lEqB xs ys = true := by
  rw [List.take_of_length_le hx, List.take_of_length_le hy] at h; simp [lEqB, h]

theorem affEq_iff {x y : Aff} : affEqB x.1 x.2 y.1 y.2 = true ↔ x = y := by
  obtain ⟨a, b⟩ := x; obtain ⟨c, d⟩ := y
  simp [affEqB, eqB]
theorem affEq_no {x y : Aff} (h : affEqB x.1 x.2 y.1 y.2 = false) : x ≠ y := by
  intro e; rw [affEq_iff.2 e] at h; cases h

end Go.Proofs.Ytccibfldadflkaa
