/- Draws: the argument of AffineValid and AffineDepth. -/
import Derived.Test.YtabkhiakekammaaD8
namespace Go.Proofs.Ytabkhiakekammaa
open Go.RowKit

set_option maxHeartbeats 4000000 in
theorem DrawAffineValid_any (p : Option Addr) (n c : Nat) (w : World) (hs : BytesAt w p n c) (hlt : ∀ b off, 0 < n → p = some ⟨b, off, none⟩ → b < w.heap.size) :
    Calls Try.prog 80 #[.slice p n c] w fun e w' => (∃ p n c k, ∃ xs : List Int, e = .returned (.agg #[.slice p n c, .int .i64 k]) ∧ xs.length = n ∧ w'.ownsRow w.heap.size 3 1 (.slice p n c) n (xs.map (Value.int .i64))) ∧ Ext w w' := by
  have HS := Lib.hid hs; have HL := Lib.hid hlt; clear hs hlt
  have E0 : Hid (Ext w (w.alloc (.cells #[.slice none 0 0, .int .i64 0] 25))) := Lib.hid ((Ext.refl w).alloc _)
  have X0 : Hid ((w.alloc (.cells #[.slice none 0 0, .int .i64 0] 25)).heap[w.heap.size]? = some (.cells #[.slice none 0 0, .int .i64 0] 25 (0, 0))) := Lib.hid (blk_at rfl)
  go_enter Try.func80, Try.ntmps80
  go_wp2_with (fail)
  generalize w.alloc (.cells #[.slice none 0 0, .int .i64 0] 25) = W at *
  have hWs : w.heap.size < W.heap.size := lt_of_block X0.out
  refine (l16Open_any p n c W (HS.out.ext E0.out) (fun b off h e => Nat.lt_of_lt_of_le (HL.out b off h e) E0.out.size_le)).mono ?_
  rintro e w1 ⟨g, rfl, hR, hE⟩
  have H1 := Lib.hid hR; have X1 := Lib.hid (hE.blk X0.out)
  have hg : W.heap.size ≤ g := by obtain ⟨_, _, _, _, _, _, _, h, _⟩ := hR; exact h
  have hg1 := hR.lt
  clear hR hE X0
  go_wp2_with (fail)
  refine (pick_any W g 0 5 _ H1.out (by omega) (by omega)).mono ?_
  rintro e w2 ⟨⟨r, rfl, hr⟩, h4, h5⟩
  have hr4 : r ≤ 4 := by have := hr (by omega); omega
  have H2 := Lib.hid h4; have X2 := Lib.hid (blk_dr X1.out h5 (by omega))
  have hs2 := h5.size
  clear h4 h5 H1 X1 hr
  go_wp2_with (fail)
  refine (l1Draw_any W g 1 r _ H2.out (by omega) hr4).mono ?_
  rintro e w3 ⟨⟨p3, c3, k3, xs, rfl, hx4, ho3⟩, h4, h5⟩
  obtain ⟨xa, xb, xc, xd, rfl⟩ := four hx4
  have H3 := Lib.hid h4; have HO3 := Lib.hid (row_at ho3 hx4); have X3 := Lib.hid (blk_dr X2.out h5 (by omega))
  have hs3 := h5.size
  clear h4 h5 H2 X2 ho3
  go_wp2_with (fail)
  refine (l1Mutate_any W g 6 _ xa xb xc xd k3 _ H3.out (by omega) HO3.out).mono ?_
  rintro e w4 ⟨⟨p4, n4, c4, k4, xs, rfl, hxn, ho4⟩, h4, h5⟩
  have EV : Ext w w4 := E0.out.trans (by obtain ⟨_, _, _, _, _, _, _, _, h, _⟩ := h4; exact h)
  have HEV := Lib.hid EV; have HO4 := Lib.hid ho4; have HXN := Lib.hid hxn; have X4 := blk_dr X3.out h5 (by omega)
  have hs4 := h5.size
  obtain ⟨x0, x1, f0, f1⟩ := blk2 X4
  clear h4 h5 EV H3 HO3 ho4 hxn X3 X4
  go_wp2
  refine bodyPost_ret (v := .agg #[.slice p4 n4 c4, .int .i64 k4]) (by simp [results, Try.results80, go_sem, x0, x1]) rfl ⟨⟨_, n4, c4, k4, xs, rfl, HXN.out, ownsRow_weak (B := w3.heap.size) ?_ (by omega)⟩, ?_⟩
  · repeat (with_reducible refine ownsRow_setCell_below ?_ (by dsimp only; omega) _)
    exact HO4.out
  · repeat (with_reducible refine Ext.setCell ?_ (by dsimp only; omega) _)
    exact HEV.out

theorem DrawAffineDepth_any (p : Option Addr) (n c : Nat) (w : World) (hs : BytesAt w p n c) (hlt : ∀ b off, 0 < n → p = some ⟨b, off, none⟩ → b < w.heap.size) :
    Calls Try.prog 28 #[.slice p n c] w fun e w' => (∃ u k xs, e = .returned (.agg #[u, .int .i64 k]) ∧ IntsAt w' u xs) ∧ Ext w w' := by
  have HS := Lib.hid hs; have HL := Lib.hid hlt; clear hs hlt
  have E0 : Hid (Ext w (w.alloc (.cells #[.slice none 0 0, .int .i64 0] 25))) := Lib.hid ((Ext.refl w).alloc _)
  have X0 : Hid ((w.alloc (.cells #[.slice none 0 0, .int .i64 0] 25)).heap[w.heap.size]? = some (.cells #[.slice none 0 0, .int .i64 0] 25 (0, 0))) := Lib.hid (blk_at rfl)
  go_enter Try.func28, Try.ntmps28
  go_wp2_with (fail)
  generalize w.alloc (.cells #[.slice none 0 0, .int .i64 0] 25) = W at *
  have hWs : w.heap.size < W.heap.size := lt_of_block X0.out
  refine (DrawAffineValid_any p n c W (HS.out.ext E0.out) (fun b off h e => Nat.lt_of_lt_of_le (HL.out b off h e) E0.out.size_le)).mono ?_
  rintro e w4 ⟨⟨p4, n4, c4, k4, xs, rfl, hxn, ho⟩, hE⟩
  have HX := Lib.hid ho; have HXN := Lib.hid hxn; have HE := Lib.hid (E0.out.trans hE); have X4 := hE.blk X0.out
  obtain ⟨x0, x1, f0, f1⟩ := blk2 X4
  clear ho hxn hE X4
  go_wp2
  refine bodyPost_ret (v := .agg #[.slice p4 n4 c4, .int .i64 k4]) (by simp [results, Try.results28, go_sem, x0, x1]) rfl ⟨⟨_, k4, xs, rfl, row_at (B := W.heap.size) ?_ HXN.out⟩, ?_⟩
  · repeat (with_reducible refine ownsRow_setCell_below ?_ (by dsimp only; omega) _)
    exact HX.out
  · repeat (with_reducible refine Ext.setCell ?_ (by dsimp only; omega) _)
    exact HE.out
end Go.Proofs.Ytabkhiakekammaa
