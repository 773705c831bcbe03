/- Contracts: substitutions. -/
import Derived.Test.YtabkhiakekammaaA14
import Derived.Deep.RegionHeld3
namespace Go.Proofs.Ytabkhiakekammaa
open Go.RowKit

/-- What replaces: the coefficient of v is taken out, that many times y is put in. -/
def substL (xs ys : List Int) (v : Nat) : List Int := List.zipWith (· + ·) (xs.set v 0) (ys.map (· * xs.getD v 0))

theorem set5 {W : World} {g h : Nat} {o : Obj} {u0 u1 u2 u3 u4 : Value} (hne : g ≠ h) (hg : W.heap[g]? = some o) :
    (((((W.setCell ⟨h, 0, none⟩ u0).setCell ⟨h, 1, none⟩ u1).setCell ⟨h, 2, none⟩ u2).setCell ⟨h, 3, none⟩ u3).setCell ⟨h, 4, none⟩ u4).heap[g]? = some o :=
  (Below.heap_setCell _ _ _ _ hne).trans ((Below.heap_setCell _ _ _ _ hne).trans ((Below.heap_setCell _ _ _ _ hne).trans ((Below.heap_setCell _ _ _ _ hne).trans ((Below.heap_setCell _ _ _ _ hne).trans hg))))

set_option maxHeartbeats 1000000 in
theorem replace_0 (a0 a1 a2 a3 a4 b0 b1 b2 b3 b4 : Int) (w : World)
    (ha0 : -9 ≤ a0 ∧ a0 ≤ 9) (ha1 : -9 ≤ a1 ∧ a1 ≤ 9) (ha2 : -9 ≤ a2 ∧ a2 ≤ 9) (ha3 : -9 ≤ a3 ∧ a3 ≤ 9) (ha4 : -99 ≤ a4 ∧ a4 ≤ 99)
    (hb0 : -9 ≤ b0 ∧ b0 ≤ 9) (hb1 : -9 ≤ b1 ∧ b1 ≤ 9) (hb2 : -9 ≤ b2 ∧ b2 ≤ 9) (hb3 : -9 ≤ b3 ∧ b3 ≤ 9) (hb4 : -99 ≤ b4 ∧ b4 ≤ 99) :
    Calls Try.prog 65 #[.agg #[.int .i64 a0, .int .i64 a1, .int .i64 a2, .int .i64 a3, .int .i64 a4], .int .i64 0, .agg #[.int .i64 b0, .int .i64 b1, .int .i64 b2, .int .i64 b3, .int .i64 b4]] w fun e w' =>
      (∃ c0 c1 c2 c3, e = .returned (.agg #[.int .i64 c0, .int .i64 c1, .int .i64 c2, .int .i64 c3, .int .i64 (a4 + b4 * [a0, a1, a2, a3].getD 0 0)]) ∧ substL [a0, a1, a2, a3] [b0, b1, b2, b3] 0 = [c0, c1, c2, c3]) ∧ Ext w w' := by
  have m0 := mul_99 (a := b0) (k := a0) (by omega) (by omega) (by omega) (by omega)
  have m1 := mul_99 (a := b1) (k := a0) (by omega) (by omega) (by omega) (by omega)
  have m2 := mul_99 (a := b2) (k := a0) (by omega) (by omega) (by omega) (by omega)
  have m3 := mul_99 (a := b3) (k := a0) (by omega) (by omega) (by omega) (by omega)
  have m4 := mul_99 (a := b4) (k := a0) (by omega) (by omega) (by omega) (by omega)
  have HT := Lib.hid (fun W => times_any b0 b1 b2 b3 b4 a0 W (by omega) (by omega) (by omega) (by omega) (by omega) (by omega))
  have HP := Lib.hid (fun W => plus_any 0 a1 a2 a3 a4 (b0 * a0) (b1 * a0) (b2 * a0) (b3 * a0) (b4 * a0) W (by unfold bd; omega) (by unfold bd; omega) (by unfold bd; omega) (by unfold bd; omega) (by unfold bd; omega) (by unfold bd; omega) (by unfold bd; omega) (by unfold bd; omega) (by unfold bd; omega) (by unfold bd; omega))
  clear m0 m1 m2 m3 m4 ha0 ha1 ha2 ha3 ha4 hb0 hb1 hb2 hb3 hb4
  have E0 := Lib.hid ((((Ext.refl w).alloc (.cells #[.int .i64 0, .int .i64 a1, .int .i64 a2, .int .i64 a3, .int .i64 a4] 76)).alloc (.cells #[.int .i64 b0, .int .i64 b1, .int .i64 b2, .int .i64 b3, .int .i64 b4] 76)).alloc (.cells #[.int .i64 0, .int .i64 0, .int .i64 0, .int .i64 0, .int .i64 0] 76))
  have Y0 := Lib.hid (blk_old (o := (.cells #[.int .i64 0, .int .i64 0, .int .i64 0, .int .i64 0, .int .i64 0] 76)) (blk_old (o := (.cells #[.int .i64 b0, .int .i64 b1, .int .i64 b2, .int .i64 b3, .int .i64 b4] 76)) (blk_at (w := w) (o := (.cells #[.int .i64 0, .int .i64 a1, .int .i64 a2, .int .i64 a3, .int .i64 a4] 76)) rfl)))
  have Y1 := Lib.hid (blk_old (o := (.cells #[.int .i64 0, .int .i64 0, .int .i64 0, .int .i64 0, .int .i64 0] 76)) (blk_at (w := w.alloc (.cells #[.int .i64 0, .int .i64 a1, .int .i64 a2, .int .i64 a3, .int .i64 a4] 76)) (g := w.heap.size + 1) (o := (.cells #[.int .i64 b0, .int .i64 b1, .int .i64 b2, .int .i64 b3, .int .i64 b4] 76)) (by simp)))
  have Y2 := Lib.hid (blk_at (w := (w.alloc (.cells #[.int .i64 0, .int .i64 a1, .int .i64 a2, .int .i64 a3, .int .i64 a4] 76)).alloc (.cells #[.int .i64 b0, .int .i64 b1, .int .i64 b2, .int .i64 b3, .int .i64 b4] 76)) (g := w.heap.size + 1 + 1) (o := (.cells #[.int .i64 0, .int .i64 0, .int .i64 0, .int .i64 0, .int .i64 0] 76)) (by simp))
  go_enter Try.func65, Try.ntmps65
  go_wp2_with (fail)
  generalize ((w.alloc (.cells #[.int .i64 0, .int .i64 a1, .int .i64 a2, .int .i64 a3, .int .i64 a4] 76)).alloc (.cells #[.int .i64 b0, .int .i64 b1, .int .i64 b2, .int .i64 b3, .int .i64 b4] 76)).alloc (.cells #[.int .i64 0, .int .i64 0, .int .i64 0, .int .i64 0, .int .i64 0] 76) = W0 at *
  generalize hg0 : w.heap.size = g0 at *
  have HG0 := Lib.hid hg0; clear hg0
  have hlt : g0 + 1 + 1 < W0.heap.size := lt_of_block Y2.out
  obtain ⟨x0, x1, x2, x3, x4, _⟩ := blk5 Y0.out
  obtain ⟨y0, y1, y2, y3, y4, _⟩ := blk5 Y1.out
  have hE0 := (Ext.refl W0).drew
  have ne0 : ∀ h, h = g0 + 1 + 1 → g0 ≠ h := fun h e => by omega
  have ne1 : ∀ h, h = g0 + 1 + 1 → g0 + 1 ≠ h := fun h e => by omega
  go_region_held3 (fun W => (W.cell? ⟨g0, 0, none⟩ = some (.int .i64 0) ∧ W.cell? ⟨g0, 1, none⟩ = some (.int .i64 a1) ∧ W.cell? ⟨g0, 2, none⟩ = some (.int .i64 a2) ∧ W.cell? ⟨g0, 3, none⟩ = some (.int .i64 a3) ∧ W.cell? ⟨g0, 4, none⟩ = some (.int .i64 a4)) ∧ W.cell? ⟨g0 + 1, 0, none⟩ = some (.int .i64 b0) ∧ W.cell? ⟨g0 + 1, 1, none⟩ = some (.int .i64 b1) ∧ W.cell? ⟨g0 + 1, 2, none⟩ = some (.int .i64 b2) ∧ W.cell? ⟨g0 + 1, 3, none⟩ = some (.int .i64 b3) ∧ W.cell? ⟨g0 + 1, 4, none⟩ = some (.int .i64 b4))
    (first | with_reducible exact ⟨⟨x0, x1, x2, x3, x4⟩, y0, y1, y2, y3, y4⟩ | with_reducible exact ⟨⟨hE0.keep x0, hE0.keep x1, hE0.keep x2, hE0.keep x3, hE0.keep x4⟩, hE0.keep y0, hE0.keep y1, hE0.keep y2, hE0.keep y3, hE0.keep y4⟩ | with_reducible exact ⟨⟨hE1.keep x0, hE1.keep x1, hE1.keep x2, hE1.keep x3, hE1.keep x4⟩, hE1.keep y0, hE1.keep y1, hE1.keep y2, hE1.keep y3, hE1.keep y4⟩ | with_reducible exact ⟨⟨hE2.keep x0, hE2.keep x1, hE2.keep x2, hE2.keep x3, hE2.keep x4⟩, hE2.keep y0, hE2.keep y1, hE2.keep y2, hE2.keep y3, hE2.keep y4⟩ | exact ⟨⟨(blk5 (set5 (ne0 _ rfl) (hE2.blk Y0.out))).1, (blk5 (set5 (ne0 _ rfl) (hE2.blk Y0.out))).2.1, (blk5 (set5 (ne0 _ rfl) (hE2.blk Y0.out))).2.2.1, (blk5 (set5 (ne0 _ rfl) (hE2.blk Y0.out))).2.2.2.1, (blk5 (set5 (ne0 _ rfl) (hE2.blk Y0.out))).2.2.2.2.1⟩, (blk5 (set5 (ne1 _ rfl) (hE2.blk Y1.out))).1, (blk5 (set5 (ne1 _ rfl) (hE2.blk Y1.out))).2.1, (blk5 (set5 (ne1 _ rfl) (hE2.blk Y1.out))).2.2.1, (blk5 (set5 (ne1 _ rfl) (hE2.blk Y1.out))).2.2.2.1, (blk5 (set5 (ne1 _ rfl) (hE2.blk Y1.out))).2.2.2.2.1⟩)
    (first
      | (go_at_call 110; (with_reducible refine (HT.out _).mono ?_); rintro e w1 ⟨rfl, hE⟩; have hE1 := (Ext.refl W0).drew.trans hE)
      | (go_at_call 71; (with_reducible refine (HP.out _).mono ?_); rintro e w2 ⟨rfl, hE'⟩; have hE2 := hE1.trans hE'; have Z2 := Lib.hid (hE2.blk Y2.out); have fz := blk5 Z2.out; have z0 := fz.1; have z1 := fz.2.1; have z2 := fz.2.2.1; have z3 := fz.2.2.2.1; have z4 := fz.2.2.2.2.1; have f0 := fz.2.2.2.2.2.1; have f1 := fz.2.2.2.2.2.2.1; have f2 := fz.2.2.2.2.2.2.2.1; have f3 := fz.2.2.2.2.2.2.2.2.1; have f4 := fz.2.2.2.2.2.2.2.2.2; clear fz))
  have HE := Lib.hid (E0.out.trans hE2)
  clear hE1 hE2 hE hE' hE0
  go_wp2
  exact bodyPost_ret (v := .agg #[.int .i64 (b0 * a0), .int .i64 (a1 + b1 * a0), .int .i64 (a2 + b2 * a0), .int .i64 (a3 + b3 * a0), .int .i64 (a4 + b4 * a0)]) (by simp [results, Try.results65, go_sem, z0, z1, z2, z3, z4]) rfl ⟨⟨_, _, _, _, rfl, by simp [substL]⟩, ((((HE.out.setAt (by rw [HG0.out]; omega) _).setAt (by rw [HG0.out]; omega) _).setAt (by rw [HG0.out]; omega) _).setAt (by rw [HG0.out]; omega) _).setAt (by rw [HG0.out]; omega) _⟩
set_option maxHeartbeats 1000000 in
theorem replace_1 (a0 a1 a2 a3 a4 b0 b1 b2 b3 b4 : Int) (w : World)
    (ha0 : -9 ≤ a0 ∧ a0 ≤ 9) (ha1 : -9 ≤ a1 ∧ a1 ≤ 9) (ha2 : -9 ≤ a2 ∧ a2 ≤ 9) (ha3 : -9 ≤ a3 ∧ a3 ≤ 9) (ha4 : -99 ≤ a4 ∧ a4 ≤ 99)
    (hb0 : -9 ≤ b0 ∧ b0 ≤ 9) (hb1 : -9 ≤ b1 ∧ b1 ≤ 9) (hb2 : -9 ≤ b2 ∧ b2 ≤ 9) (hb3 : -9 ≤ b3 ∧ b3 ≤ 9) (hb4 : -99 ≤ b4 ∧ b4 ≤ 99) :
    Calls Try.prog 65 #[.agg #[.int .i64 a0, .int .i64 a1, .int .i64 a2, .int .i64 a3, .int .i64 a4], .int .i64 1, .agg #[.int .i64 b0, .int .i64 b1, .int .i64 b2, .int .i64 b3, .int .i64 b4]] w fun e w' =>
      (∃ c0 c1 c2 c3, e = .returned (.agg #[.int .i64 c0, .int .i64 c1, .int .i64 c2, .int .i64 c3, .int .i64 (a4 + b4 * [a0, a1, a2, a3].getD 1 0)]) ∧ substL [a0, a1, a2, a3] [b0, b1, b2, b3] 1 = [c0, c1, c2, c3]) ∧ Ext w w' := by
  have m0 := mul_99 (a := b0) (k := a1) (by omega) (by omega) (by omega) (by omega)
  have m1 := mul_99 (a := b1) (k := a1) (by omega) (by omega) (by omega) (by omega)
  have m2 := mul_99 (a := b2) (k := a1) (by omega) (by omega) (by omega) (by omega)
  have m3 := mul_99 (a := b3) (k := a1) (by omega) (by omega) (by omega) (by omega)
  have m4 := mul_99 (a := b4) (k := a1) (by omega) (by omega) (by omega) (by omega)
  have HT := Lib.hid (fun W => times_any b0 b1 b2 b3 b4 a1 W (by omega) (by omega) (by omega) (by omega) (by omega) (by omega))
  have HP := Lib.hid (fun W => plus_any a0 0 a2 a3 a4 (b0 * a1) (b1 * a1) (b2 * a1) (b3 * a1) (b4 * a1) W (by unfold bd; omega) (by unfold bd; omega) (by unfold bd; omega) (by unfold bd; omega) (by unfold bd; omega) (by unfold bd; omega) (by unfold bd; omega) (by unfold bd; omega) (by unfold bd; omega) (by unfold bd; omega))
  clear m0 m1 m2 m3 m4 ha0 ha1 ha2 ha3 ha4 hb0 hb1 hb2 hb3 hb4
  have E0 := Lib.hid ((((Ext.refl w).alloc (.cells #[.int .i64 a0, .int .i64 0, .int .i64 a2, .int .i64 a3, .int .i64 a4] 76)).alloc (.cells #[.int .i64 b0, .int .i64 b1, .int .i64 b2, .int .i64 b3, .int .i64 b4] 76)).alloc (.cells #[.int .i64 0, .int .i64 0, .int .i64 0, .int .i64 0, .int .i64 0] 76))
  have Y0 := Lib.hid (blk_old (o := (.cells #[.int .i64 0, .int .i64 0, .int .i64 0, .int .i64 0, .int .i64 0] 76)) (blk_old (o := (.cells #[.int .i64 b0, .int .i64 b1, .int .i64 b2, .int .i64 b3, .int .i64 b4] 76)) (blk_at (w := w) (o := (.cells #[.int .i64 a0, .int .i64 0, .int .i64 a2, .int .i64 a3, .int .i64 a4] 76)) rfl)))
  have Y1 := Lib.hid (blk_old (o := (.cells #[.int .i64 0, .int .i64 0, .int .i64 0, .int .i64 0, .int .i64 0] 76)) (blk_at (w := w.alloc (.cells #[.int .i64 a0, .int .i64 0, .int .i64 a2, .int .i64 a3, .int .i64 a4] 76)) (g := w.heap.size + 1) (o := (.cells #[.int .i64 b0, .int .i64 b1, .int .i64 b2, .int .i64 b3, .int .i64 b4] 76)) (by simp)))
  have Y2 := Lib.hid (blk_at (w := (w.alloc (.cells #[.int .i64 a0, .int .i64 0, .int .i64 a2, .int .i64 a3, .int .i64 a4] 76)).alloc (.cells #[.int .i64 b0, .int .i64 b1, .int .i64 b2, .int .i64 b3, .int .i64 b4] 76)) (g := w.heap.size + 1 + 1) (o := (.cells #[.int .i64 0, .int .i64 0, .int .i64 0, .int .i64 0, .int .i64 0] 76)) (by simp))
  go_enter Try.func65, Try.ntmps65
  go_wp2_with (fail)
  generalize ((w.alloc (.cells #[.int .i64 a0, .int .i64 0, .int .i64 a2, .int .i64 a3, .int .i64 a4] 76)).alloc (.cells #[.int .i64 b0, .int .i64 b1, .int .i64 b2, .int .i64 b3, .int .i64 b4] 76)).alloc (.cells #[.int .i64 0, .int .i64 0, .int .i64 0, .int .i64 0, .int .i64 0] 76) = W0 at *
  generalize hg0 : w.heap.size = g0 at *
  have HG0 := Lib.hid hg0; clear hg0
  have hlt : g0 + 1 + 1 < W0.heap.size := lt_of_block Y2.out
  obtain ⟨x0, x1, x2, x3, x4, _⟩ := blk5 Y0.out
  obtain ⟨y0, y1, y2, y3, y4, _⟩ := blk5 Y1.out
  have hE0 := (Ext.refl W0).drew
  have ne0 : ∀ h, h = g0 + 1 + 1 → g0 ≠ h := fun h e => by omega
  have ne1 : ∀ h, h = g0 + 1 + 1 → g0 + 1 ≠ h := fun h e => by omega
  go_region_held3 (fun W => (W.cell? ⟨g0, 0, none⟩ = some (.int .i64 a0) ∧ W.cell? ⟨g0, 1, none⟩ = some (.int .i64 0) ∧ W.cell? ⟨g0, 2, none⟩ = some (.int .i64 a2) ∧ W.cell? ⟨g0, 3, none⟩ = some (.int .i64 a3) ∧ W.cell? ⟨g0, 4, none⟩ = some (.int .i64 a4)) ∧ W.cell? ⟨g0 + 1, 0, none⟩ = some (.int .i64 b0) ∧ W.cell? ⟨g0 + 1, 1, none⟩ = some (.int .i64 b1) ∧ W.cell? ⟨g0 + 1, 2, none⟩ = some (.int .i64 b2) ∧ W.cell? ⟨g0 + 1, 3, none⟩ = some (.int .i64 b3) ∧ W.cell? ⟨g0 + 1, 4, none⟩ = some (.int .i64 b4))
    (first | with_reducible exact ⟨⟨x0, x1, x2, x3, x4⟩, y0, y1, y2, y3, y4⟩ | with_reducible exact ⟨⟨hE0.keep x0, hE0.keep x1, hE0.keep x2, hE0.keep x3, hE0.keep x4⟩, hE0.keep y0, hE0.keep y1, hE0.keep y2, hE0.keep y3, hE0.keep y4⟩ | with_reducible exact ⟨⟨hE1.keep x0, hE1.keep x1, hE1.keep x2, hE1.keep x3, hE1.keep x4⟩, hE1.keep y0, hE1.keep y1, hE1.keep y2, hE1.keep y3, hE1.keep y4⟩ | with_reducible exact ⟨⟨hE2.keep x0, hE2.keep x1, hE2.keep x2, hE2.keep x3, hE2.keep x4⟩, hE2.keep y0, hE2.keep y1, hE2.keep y2, hE2.keep y3, hE2.keep y4⟩ | exact ⟨⟨(blk5 (set5 (ne0 _ rfl) (hE2.blk Y0.out))).1, (blk5 (set5 (ne0 _ rfl) (hE2.blk Y0.out))).2.1, (blk5 (set5 (ne0 _ rfl) (hE2.blk Y0.out))).2.2.1, (blk5 (set5 (ne0 _ rfl) (hE2.blk Y0.out))).2.2.2.1, (blk5 (set5 (ne0 _ rfl) (hE2.blk Y0.out))).2.2.2.2.1⟩, (blk5 (set5 (ne1 _ rfl) (hE2.blk Y1.out))).1, (blk5 (set5 (ne1 _ rfl) (hE2.blk Y1.out))).2.1, (blk5 (set5 (ne1 _ rfl) (hE2.blk Y1.out))).2.2.1, (blk5 (set5 (ne1 _ rfl) (hE2.blk Y1.out))).2.2.2.1, (blk5 (set5 (ne1 _ rfl) (hE2.blk Y1.out))).2.2.2.2.1⟩)
    (first
      | (go_at_call 110; (with_reducible refine (HT.out _).mono ?_); rintro e w1 ⟨rfl, hE⟩; have hE1 := (Ext.refl W0).drew.trans hE)
      | (go_at_call 71; (with_reducible refine (HP.out _).mono ?_); rintro e w2 ⟨rfl, hE'⟩; have hE2 := hE1.trans hE'; have Z2 := Lib.hid (hE2.blk Y2.out); have fz := blk5 Z2.out; have z0 := fz.1; have z1 := fz.2.1; have z2 := fz.2.2.1; have z3 := fz.2.2.2.1; have z4 := fz.2.2.2.2.1; have f0 := fz.2.2.2.2.2.1; have f1 := fz.2.2.2.2.2.2.1; have f2 := fz.2.2.2.2.2.2.2.1; have f3 := fz.2.2.2.2.2.2.2.2.1; have f4 := fz.2.2.2.2.2.2.2.2.2; clear fz))
  have HE := Lib.hid (E0.out.trans hE2)
  clear hE1 hE2 hE hE' hE0
  go_wp2
  exact bodyPost_ret (v := .agg #[.int .i64 (a0 + b0 * a1), .int .i64 (b1 * a1), .int .i64 (a2 + b2 * a1), .int .i64 (a3 + b3 * a1), .int .i64 (a4 + b4 * a1)]) (by simp [results, Try.results65, go_sem, z0, z1, z2, z3, z4]) rfl ⟨⟨_, _, _, _, rfl, by simp [substL]⟩, ((((HE.out.setAt (by rw [HG0.out]; omega) _).setAt (by rw [HG0.out]; omega) _).setAt (by rw [HG0.out]; omega) _).setAt (by rw [HG0.out]; omega) _).setAt (by rw [HG0.out]; omega) _⟩
set_option maxHeartbeats 1000000 in
theorem replace_2 (a0 a1 a2 a3 a4 b0 b1 b2 b3 b4 : Int) (w : World)
    (ha0 : -9 ≤ a0 ∧ a0 ≤ 9) (ha1 : -9 ≤ a1 ∧ a1 ≤ 9) (ha2 : -9 ≤ a2 ∧ a2 ≤ 9) (ha3 : -9 ≤ a3 ∧ a3 ≤ 9) (ha4 : -99 ≤ a4 ∧ a4 ≤ 99)
    (hb0 : -9 ≤ b0 ∧ b0 ≤ 9) (hb1 : -9 ≤ b1 ∧ b1 ≤ 9) (hb2 : -9 ≤ b2 ∧ b2 ≤ 9) (hb3 : -9 ≤ b3 ∧ b3 ≤ 9) (hb4 : -99 ≤ b4 ∧ b4 ≤ 99) :
    Calls Try.prog 65 #[.agg #[.int .i64 a0, .int .i64 a1, .int .i64 a2, .int .i64 a3, .int .i64 a4], .int .i64 2, .agg #[.int .i64 b0, .int .i64 b1, .int .i64 b2, .int .i64 b3, .int .i64 b4]] w fun e w' =>
      (∃ c0 c1 c2 c3, e = .returned (.agg #[.int .i64 c0, .int .i64 c1, .int .i64 c2, .int .i64 c3, .int .i64 (a4 + b4 * [a0, a1, a2, a3].getD 2 0)]) ∧ substL [a0, a1, a2, a3] [b0, b1, b2, b3] 2 = [c0, c1, c2, c3]) ∧ Ext w w' := by
  have m0 := mul_99 (a := b0) (k := a2) (by omega) (by omega) (by omega) (by omega)
  have m1 := mul_99 (a := b1) (k := a2) (by omega) (by omega) (by omega) (by omega)
  have m2 := mul_99 (a := b2) (k := a2) (by omega) (by omega) (by omega) (by omega)
  have m3 := mul_99 (a := b3) (k := a2) (by omega) (by omega) (by omega) (by omega)
  have m4 := mul_99 (a := b4) (k := a2) (by omega) (by omega) (by omega) (by omega)
  have HT := Lib.hid (fun W => times_any b0 b1 b2 b3 b4 a2 W (by omega) (by omega) (by omega) (by omega) (by omega) (by omega))
  have HP := Lib.hid (fun W => plus_any a0 a1 0 a3 a4 (b0 * a2) (b1 * a2) (b2 * a2) (b3 * a2) (b4 * a2) W (by unfold bd; omega) (by unfold bd; omega) (by unfold bd; omega) (by unfold bd; omega) (by unfold bd; omega) (by unfold bd; omega) (by unfold bd; omega) (by unfold bd; omega) (by unfold bd; omega) (by unfold bd; omega))
  clear m0 m1 m2 m3 m4 ha0 ha1 ha2 ha3 ha4 hb0 hb1 hb2 hb3 hb4
  have E0 := Lib.hid ((((Ext.refl w).alloc (.cells #[.int .i64 a0, .int .i64 a1, .int .i64 0, .int .i64 a3, .int .i64 a4] 76)).alloc (.cells #[.int .i64 b0, .int .i64 b1, .int .i64 b2, .int .i64 b3, .int .i64 b4] 76)).alloc (.cells #[.int .i64 0, .int .i64 0, .int .i64 0, .int .i64 0, .int .i64 0] 76))
  have Y0 := Lib.hid (blk_old (o := (.cells #[.int .i64 0, .int .i64 0, .int .i64 0, .int .i64 0, .int .i64 0] 76)) (blk_old (o := (.cells #[.int .i64 b0, .int .i64 b1, .int .i64 b2, .int .i64 b3, .int .i64 b4] 76)) (blk_at (w := w) (o := (.cells #[.int .i64 a0, .int .i64 a1, .int .i64 0, .int .i64 a3, .int .i64 a4] 76)) rfl)))
  have Y1 := Lib.hid (blk_old (o := (.cells #[.int .i64 0, .int .i64 0, .int .i64 0, .int .i64 0, .int .i64 0] 76)) (blk_at (w := w.alloc (.cells #[.int .i64 a0, .int .i64 a1, .int .i64 0, .int .i64 a3, .int .i64 a4] 76)) (g := w.heap.size + 1) (o := (.cells #[.int .i64 b0, .int .i64 b1, .int .i64 b2, .int .i64 b3, .int .i64 b4] 76)) (by simp)))
  have Y2 := Lib.hid (blk_at (w := (w.alloc (.cells #[.int .i64 a0, .int .i64 a1, .int .i64 0, .int .i64 a3, .int .i64 a4] 76)).alloc (.cells #[.int .i64 b0, .int .i64 b1, .int .i64 b2, .int .i64 b3, .int .i64 b4] 76)) (g := w.heap.size + 1 + 1) (o := (.cells #[.int .i64 0, .int .i64 0, .int .i64 0, .int .i64 0, .int .i64 0] 76)) (by simp))
  go_enter Try.func65, Try.ntmps65
  go_wp2_with (fail)
  generalize ((w.alloc (.cells #[.int .i64 a0, .int .i64 a1, .int .i64 0, .int .i64 a3, .int .i64 a4] 76)).alloc (.cells #[.int .i64 b0, .int .i64 b1, .int .i64 b2, .int .i64 b3, .int .i64 b4] 76)).alloc (.cells #[.int .i64 0, .int .i64 0, .int .i64 0, .int .i64 0, .int .i64 0] 76) = W0 at *
  generalize hg0 : w.heap.size = g0 at *
  have HG0 := Lib.hid hg0; clear hg0
  have hlt : g0 + 1 + 1 < W0.heap.size := lt_of_block Y2.out
  obtain ⟨x0, x1, x2, x3, x4, _⟩ := blk5 Y0.out
  obtain ⟨y0, y1, y2, y3, y4, _⟩ := blk5 Y1.out
  have hE0 := (Ext.refl W0).drew
  have ne0 : ∀ h, h = g0 + 1 + 1 → g0 ≠ h := fun h e => by omega
  have ne1 : ∀ h, h = g0 + 1 + 1 → g0 + 1 ≠ h := fun h e => by omega
  go_region_held3 (fun W => (W.cell? ⟨g0, 0, none⟩ = some (.int .i64 a0) ∧ W.cell? ⟨g0, 1, none⟩ = some (.int .i64 a1) ∧ W.cell? ⟨g0, 2, none⟩ = some (.int .i64 0) ∧ W.cell? ⟨g0, 3, none⟩ = some (.int .i64 a3) ∧ W.cell? ⟨g0, 4, none⟩ = some (.int .i64 a4)) ∧ W.cell? ⟨g0 + 1, 0, none⟩ = some (.int .i64 b0) ∧ W.cell? ⟨g0 + 1, 1, none⟩ = some (.int .i64 b1) ∧ W.cell? ⟨g0 + 1, 2, none⟩ = some (.int .i64 b2) ∧ W.cell? ⟨g0 + 1, 3, none⟩ = some (.int .i64 b3) ∧ W.cell? ⟨g0 + 1, 4, none⟩ = some (.int .i64 b4))
    (first | with_reducible exact ⟨⟨x0, x1, x2, x3, x4⟩, y0, y1, y2, y3, y4⟩ | with_reducible exact ⟨⟨hE0.keep x0, hE0.keep x1, hE0.keep x2, hE0.keep x3, hE0.keep x4⟩, hE0.keep y0, hE0.keep y1, hE0.keep y2, hE0.keep y3, hE0.keep y4⟩ | with_reducible exact ⟨⟨hE1.keep x0, hE1.keep x1, hE1.keep x2, hE1.keep x3, hE1.keep x4⟩, hE1.keep y0, hE1.keep y1, hE1.keep y2, hE1.keep y3, hE1.keep y4⟩ | with_reducible exact ⟨⟨hE2.keep x0, hE2.keep x1, hE2.keep x2, hE2.keep x3, hE2.keep x4⟩, hE2.keep y0, hE2.keep y1, hE2.keep y2, hE2.keep y3, hE2.keep y4⟩ | exact ⟨⟨(blk5 (set5 (ne0 _ rfl) (hE2.blk Y0.out))).1, (blk5 (set5 (ne0 _ rfl) (hE2.blk Y0.out))).2.1, (blk5 (set5 (ne0 _ rfl) (hE2.blk Y0.out))).2.2.1, (blk5 (set5 (ne0 _ rfl) (hE2.blk Y0.out))).2.2.2.1, (blk5 (set5 (ne0 _ rfl) (hE2.blk Y0.out))).2.2.2.2.1⟩, (blk5 (set5 (ne1 _ rfl) (hE2.blk Y1.out))).1, (blk5 (set5 (ne1 _ rfl) (hE2.blk Y1.out))).2.1, (blk5 (set5 (ne1 _ rfl) (hE2.blk Y1.out))).2.2.1, (blk5 (set5 (ne1 _ rfl) (hE2.blk Y1.out))).2.2.2.1, (blk5 (set5 (ne1 _ rfl) (hE2.blk Y1.out))).2.2.2.2.1⟩)
    (first
      | (go_at_call 110; (with_reducible refine (HT.out _).mono ?_); rintro e w1 ⟨rfl, hE⟩; have hE1 := (Ext.refl W0).drew.trans hE)
      | (go_at_call 71; (with_reducible refine (HP.out _).mono ?_); rintro e w2 ⟨rfl, hE'⟩; have hE2 := hE1.trans hE'; have Z2 := Lib.hid (hE2.blk Y2.out); have fz := blk5 Z2.out; have z0 := fz.1; have z1 := fz.2.1; have z2 := fz.2.2.1; have z3 := fz.2.2.2.1; have z4 := fz.2.2.2.2.1; have f0 := fz.2.2.2.2.2.1; have f1 := fz.2.2.2.2.2.2.1; have f2 := fz.2.2.2.2.2.2.2.1; have f3 := fz.2.2.2.2.2.2.2.2.1; have f4 := fz.2.2.2.2.2.2.2.2.2; clear fz))
  have HE := Lib.hid (E0.out.trans hE2)
  clear hE1 hE2 hE hE' hE0
  go_wp2
  exact bodyPost_ret (v := .agg #[.int .i64 (a0 + b0 * a2), .int .i64 (a1 + b1 * a2), .int .i64 (b2 * a2), .int .i64 (a3 + b3 * a2), .int .i64 (a4 + b4 * a2)]) (by simp [results, Try.results65, go_sem, z0, z1, z2, z3, z4]) rfl ⟨⟨_, _, _, _, rfl, by simp [substL]⟩, ((((HE.out.setAt (by rw [HG0.out]; omega) _).setAt (by rw [HG0.out]; omega) _).setAt (by rw [HG0.out]; omega) _).setAt (by rw [HG0.out]; omega) _).setAt (by rw [HG0.out]; omega) _⟩
set_option maxHeartbeats 1000000 in
theorem replace_3 (a0 a1 a2 a3 a4 b0 b1 b2 b3 b4 : Int) (w : World)
    (ha0 : -9 ≤ a0 ∧ a0 ≤ 9) (ha1 : -9 ≤ a1 ∧ a1 ≤ 9) (ha2 : -9 ≤ a2 ∧ a2 ≤ 9) (ha3 : -9 ≤ a3 ∧ a3 ≤ 9) (ha4 : -99 ≤ a4 ∧ a4 ≤ 99)
    (hb0 : -9 ≤ b0 ∧ b0 ≤ 9) (hb1 : -9 ≤ b1 ∧ b1 ≤ 9) (hb2 : -9 ≤ b2 ∧ b2 ≤ 9) (hb3 : -9 ≤ b3 ∧ b3 ≤ 9) (hb4 : -99 ≤ b4 ∧ b4 ≤ 99) :
    Calls Try.prog 65 #[.agg #[.int .i64 a0, .int .i64 a1, .int .i64 a2, .int .i64 a3, .int .i64 a4], .int .i64 3, .agg #[.int .i64 b0, .int .i64 b1, .int .i64 b2, .int .i64 b3, .int .i64 b4]] w fun e w' =>
      (∃ c0 c1 c2 c3, e = .returned (.agg #[.int .i64 c0, .int .i64 c1, .int .i64 c2, .int .i64 c3, .int .i64 (a4 + b4 * [a0, a1, a2, a3].getD 3 0)]) ∧ substL [a0, a1, a2, a3] [b0, b1, b2, b3] 3 = [c0, c1, c2, c3]) ∧ Ext w w' := by
  have m0 := mul_99 (a := b0) (k := a3) (by omega) (by omega) (by omega) (by omega)
  have m1 := mul_99 (a := b1) (k := a3) (by omega) (by omega) (by omega) (by omega)
  have m2 := mul_99 (a := b2) (k := a3) (by omega) (by omega) (by omega) (by omega)
  have m3 := mul_99 (a := b3) (k := a3) (by omega) (by omega) (by omega) (by omega)
  have m4 := mul_99 (a := b4) (k := a3) (by omega) (by omega) (by omega) (by omega)
  have HT := Lib.hid (fun W => times_any b0 b1 b2 b3 b4 a3 W (by omega) (by omega) (by omega) (by omega) (by omega) (by omega))
  have HP := Lib.hid (fun W => plus_any a0 a1 a2 0 a4 (b0 * a3) (b1 * a3) (b2 * a3) (b3 * a3) (b4 * a3) W (by unfold bd; omega) (by unfold bd; omega) (by unfold bd; omega) (by unfold bd; omega) (by unfold bd; omega) (by unfold bd; omega) (by unfold bd; omega) (by unfold bd; omega) (by unfold bd; omega) (by unfold bd; omega))
  clear m0 m1 m2 m3 m4 ha0 ha1 ha2 ha3 ha4 hb0 hb1 hb2 hb3 hb4
  have E0 := Lib.hid ((((Ext.refl w).alloc (.cells #[.int .i64 a0, .int .i64 a1, .int .i64 a2, .int .i64 0, .int .i64 a4] 76)).alloc (.cells #[.int .i64 b0, .int .i64 b1, .int .i64 b2, .int .i64 b3, .int .i64 b4] 76)).alloc (.cells #[.int .i64 0, .int .i64 0, .int .i64 0, .int .i64 0, .int .i64 0] 76))
  have Y0 := Lib.hid (blk_old (o := (.cells #[.int .i64 0, .int .i64 0, .int .i64 0, .int .i64 0, .int .i64 0] 76)) (blk_old (o := (.cells #[.int .i64 b0, .int .i64 b1, .int .i64 b2, .int .i64 b3, .int .i64 b4] 76)) (blk_at (w := w) (o := (.cells #[.int .i64 a0, .int .i64 a1, .int .i64 a2, .int .i64 0, .int .i64 a4] 76)) rfl)))
  have Y1 := Lib.hid (blk_old (o := (.cells #[.int .i64 0, .int .i64 0, .int .i64 0, .int .i64 0, .int .i64 0] 76)) (blk_at (w := w.alloc (.cells #[.int .i64 a0, .int .i64 a1, .int .i64 a2, .int .i64 0, .int .i64 a4] 76)) (g := w.heap.size + 1) (o := (.cells #[.int .i64 b0, .int .i64 b1, .int .i64 b2, .int .i64 b3, .int .i64 b4] 76)) (by simp)))
  have Y2 := Lib.hid (blk_at (w := (w.alloc (.cells #[.int .i64 a0, .int .i64 a1, .int .i64 a2, .int .i64 0, .int .i64 a4] 76)).alloc (.cells #[.int .i64 b0, .int .i64 b1, .int .i64 b2, .int .i64 b3, .int .i64 b4] 76)) (g := w.heap.size + 1 + 1) (o := (.cells #[.int .i64 0, .int .i64 0, .int .i64 0, .int .i64 0, .int .i64 0] 76)) (by simp))
  go_enter Try.func65, Try.ntmps65
  go_wp2_with (fail)
  generalize ((w.alloc (.cells #[.int .i64 a0, .int .i64 a1, .int .i64 a2, .int .i64 0, .int .i64 a4] 76)).alloc (.cells #[.int .i64 b0, .int .i64 b1, .int .i64 b2, .int .i64 b3, .int .i64 b4] 76)).alloc (.cells #[.int .i64 0, .int .i64 0, .int .i64 0, .int .i64 0, .int .i64 0] 76) = W0 at *
  generalize hg0 : w.heap.size = g0 at *
  have HG0 := Lib.hid hg0; clear hg0
  have hlt : g0 + 1 + 1 < W0.heap.size := lt_of_block Y2.out
  obtain ⟨x0, x1, x2, x3, x4, _⟩ := blk5 Y0.out
  obtain ⟨y0, y1, y2, y3, y4, _⟩ := blk5 Y1.out
  have hE0 := (Ext.refl W0).drew
  have ne0 : ∀ h, h = g0 + 1 + 1 → g0 ≠ h := fun h e => by omega
  have ne1 : ∀ h, h = g0 + 1 + 1 → g0 + 1 ≠ h := fun h e => by omega
  go_region_held3 (fun W => (W.cell? ⟨g0, 0, none⟩ = some (.int .i64 a0) ∧ W.cell? ⟨g0, 1, none⟩ = some (.int .i64 a1) ∧ W.cell? ⟨g0, 2, none⟩ = some (.int .i64 a2) ∧ W.cell? ⟨g0, 3, none⟩ = some (.int .i64 0) ∧ W.cell? ⟨g0, 4, none⟩ = some (.int .i64 a4)) ∧ W.cell? ⟨g0 + 1, 0, none⟩ = some (.int .i64 b0) ∧ W.cell? ⟨g0 + 1, 1, none⟩ = some (.int .i64 b1) ∧ W.cell? ⟨g0 + 1, 2, none⟩ = some (.int .i64 b2) ∧ W.cell? ⟨g0 + 1, 3, none⟩ = some (.int .i64 b3) ∧ W.cell? ⟨g0 + 1, 4, none⟩ = some (.int .i64 b4))
    (first | with_reducible exact ⟨⟨x0, x1, x2, x3, x4⟩, y0, y1, y2, y3, y4⟩ | with_reducible exact ⟨⟨hE0.keep x0, hE0.keep x1, hE0.keep x2, hE0.keep x3, hE0.keep x4⟩, hE0.keep y0, hE0.keep y1, hE0.keep y2, hE0.keep y3, hE0.keep y4⟩ | with_reducible exact ⟨⟨hE1.keep x0, hE1.keep x1, hE1.keep x2, hE1.keep x3, hE1.keep x4⟩, hE1.keep y0, hE1.keep y1, hE1.keep y2, hE1.keep y3, hE1.keep y4⟩ | with_reducible exact ⟨⟨hE2.keep x0, hE2.keep x1, hE2.keep x2, hE2.keep x3, hE2.keep x4⟩, hE2.keep y0, hE2.keep y1, hE2.keep y2, hE2.keep y3, hE2.keep y4⟩ | exact ⟨⟨(blk5 (set5 (ne0 _ rfl) (hE2.blk Y0.out))).1, (blk5 (set5 (ne0 _ rfl) (hE2.blk Y0.out))).2.1, (blk5 (set5 (ne0 _ rfl) (hE2.blk Y0.out))).2.2.1, (blk5 (set5 (ne0 _ rfl) (hE2.blk Y0.out))).2.2.2.1, (blk5 (set5 (ne0 _ rfl) (hE2.blk Y0.out))).2.2.2.2.1⟩, (blk5 (set5 (ne1 _ rfl) (hE2.blk Y1.out))).1, (blk5 (set5 (ne1 _ rfl) (hE2.blk Y1.out))).2.1, (blk5 (set5 (ne1 _ rfl) (hE2.blk Y1.out))).2.2.1, (blk5 (set5 (ne1 _ rfl) (hE2.blk Y1.out))).2.2.2.1, (blk5 (set5 (ne1 _ rfl) (hE2.blk Y1.out))).2.2.2.2.1⟩)
    (first
      | (go_at_call 110; (with_reducible refine (HT.out _).mono ?_); rintro e w1 ⟨rfl, hE⟩; have hE1 := (Ext.refl W0).drew.trans hE)
      | (go_at_call 71; (with_reducible refine (HP.out _).mono ?_); rintro e w2 ⟨rfl, hE'⟩; have hE2 := hE1.trans hE'; have Z2 := Lib.hid (hE2.blk Y2.out); have fz := blk5 Z2.out; have z0 := fz.1; have z1 := fz.2.1; have z2 := fz.2.2.1; have z3 := fz.2.2.2.1; have z4 := fz.2.2.2.2.1; have f0 := fz.2.2.2.2.2.1; have f1 := fz.2.2.2.2.2.2.1; have f2 := fz.2.2.2.2.2.2.2.1; have f3 := fz.2.2.2.2.2.2.2.2.1; have f4 := fz.2.2.2.2.2.2.2.2.2; clear fz))
  have HE := Lib.hid (E0.out.trans hE2)
  clear hE1 hE2 hE hE' hE0
  go_wp2
  exact bodyPost_ret (v := .agg #[.int .i64 (a0 + b0 * a3), .int .i64 (a1 + b1 * a3), .int .i64 (a2 + b2 * a3), .int .i64 (b3 * a3), .int .i64 (a4 + b4 * a3)]) (by simp [results, Try.results65, go_sem, z0, z1, z2, z3, z4]) rfl ⟨⟨_, _, _, _, rfl, by simp [substL]⟩, ((((HE.out.setAt (by rw [HG0.out]; omega) _).setAt (by rw [HG0.out]; omega) _).setAt (by rw [HG0.out]; omega) _).setAt (by rw [HG0.out]; omega) _).setAt (by rw [HG0.out]; omega) _⟩

theorem replace_any (a0 a1 a2 a3 a4 b0 b1 b2 b3 b4 v : Int) (w : World) (hv0 : 0 ≤ v) (hv4 : v < 4)
    (ha0 : -9 ≤ a0 ∧ a0 ≤ 9) (ha1 : -9 ≤ a1 ∧ a1 ≤ 9) (ha2 : -9 ≤ a2 ∧ a2 ≤ 9) (ha3 : -9 ≤ a3 ∧ a3 ≤ 9) (ha4 : -99 ≤ a4 ∧ a4 ≤ 99)
    (hb0 : -9 ≤ b0 ∧ b0 ≤ 9) (hb1 : -9 ≤ b1 ∧ b1 ≤ 9) (hb2 : -9 ≤ b2 ∧ b2 ≤ 9) (hb3 : -9 ≤ b3 ∧ b3 ≤ 9) (hb4 : -99 ≤ b4 ∧ b4 ≤ 99) :
    Calls Try.prog 65 #[.agg #[.int .i64 a0, .int .i64 a1, .int .i64 a2, .int .i64 a3, .int .i64 a4], .int .i64 v, .agg #[.int .i64 b0, .int .i64 b1, .int .i64 b2, .int .i64 b3, .int .i64 b4]] w fun e w' =>
      (∃ c0 c1 c2 c3, e = .returned (.agg #[.int .i64 c0, .int .i64 c1, .int .i64 c2, .int .i64 c3, .int .i64 (a4 + b4 * [a0, a1, a2, a3].getD v.toNat 0)]) ∧ substL [a0, a1, a2, a3] [b0, b1, b2, b3] v.toNat = [c0, c1, c2, c3]) ∧ Ext w w' := by
  have hc : v = 0 ∨ v = 1 ∨ v = 2 ∨ v = 3 := by omega
  rcases hc with rfl | rfl | rfl | rfl
  · exact replace_0 a0 a1 a2 a3 a4 b0 b1 b2 b3 b4 w ha0 ha1 ha2 ha3 ha4 hb0 hb1 hb2 hb3 hb4
  · exact replace_1 a0 a1 a2 a3 a4 b0 b1 b2 b3 b4 w ha0 ha1 ha2 ha3 ha4 hb0 hb1 hb2 hb3 hb4
  · exact replace_2 a0 a1 a2 a3 a4 b0 b1 b2 b3 b4 w ha0 ha1 ha2 ha3 ha4 hb0 hb1 hb2 hb3 hb4
  · exact replace_3 a0 a1 a2 a3 a4 b0 b1 b2 b3 b4 w ha0 ha1 ha2 ha3 ha4 hb0 hb1 hb2 hb3 hb4
end Go.Proofs.Ytabkhiakekammaa
