/- Draws: the arguments of ScaleAffine. -/
import Derived.Test.YtcpbfefgjpimiaaDoorD8
import Derived.Test.YtcpbfefgjpimiaaDoorD3
namespace Go.Proofs.YtcpbfefgjpimiaaDoor
open Go.RowKit

set_option maxHeartbeats 4000000 in
theorem DrawScaleAffine_any (p : Option Addr) (n c : Nat) (w : World) (hs : BytesAt w p n c) (hlt : ∀ b off, 0 < n → p = some ⟨b, off, none⟩ → b < w.heap.size) :
    Calls Tryd.prog 15 #[.slice p n c] w fun e w' => (∃ u k m xs, e = .returned (.tuple #[.agg #[u, .int .i64 k], .int .i64 m]) ∧ IntsAt w' u xs ∧ (-99 ≤ m ∧ m ≤ 99 ∨ withinB m 99 = false)) ∧ Ext w w' := by
  have HS := Lib.hid hs; have HL := Lib.hid hlt; clear hs hlt
  have E0 : Hid (Ext w (w.alloc (.cells #[.slice none 0 0, .int .i64 0] 27))) := Lib.hid ((Ext.refl w).alloc _)
  have X0 : Hid ((w.alloc (.cells #[.slice none 0 0, .int .i64 0] 27)).heap[w.heap.size]? = some (.cells #[.slice none 0 0, .int .i64 0] 27 (0, 0))) := Lib.hid (blk_at rfl)
  go_enter Tryd.func15, Tryd.ntmps15
  go_wp2_with (fail)
  generalize w.alloc (.cells #[.slice none 0 0, .int .i64 0] 27) = W at *
  have hWs : w.heap.size < W.heap.size := lt_of_block X0.out
  refine (l16Open_any p n c W (HS.out.ext E0.out) (fun b off h e => Nat.lt_of_lt_of_le (HL.out b off h e) E0.out.size_le)).mono ?_
  rintro e w1 ⟨g, rfl, hR, hE⟩
  have H1 := Lib.hid hR; have X1 := Lib.hid (hE.blk X0.out)
  have hg : W.heap.size ≤ g := by obtain ⟨_, _, _, _, _, _, _, h, _⟩ := hR; exact h
  have hg1 := hR.lt
  clear hR hE X0
  go_wp2_with (fail)
  refine (pick_any W g 0 5 _ H1.out (by omega) (by omega)).mono ?_
  rintro e w2 ⟨⟨r, rfl, hr⟩, h4, h5⟩
  have hr4 : r ≤ 4 := by have := hr (by omega); omega
  have H2 := Lib.hid h4; have X2 := Lib.hid (blk_dr X1.out h5 (by omega))
  have hs2 := h5.size
  clear h4 h5 H1 X1 hr
  go_wp2_with (fail)
  refine (l1Draw_any W g 1 r _ H2.out (by omega) hr4).mono ?_
  rintro e w3 ⟨⟨p3, c3, k3, xs, rfl, hx4, ho3⟩, h4, h5⟩
  obtain ⟨xa, xb, xc, xd, rfl⟩ := four hx4
  have H3 := Lib.hid h4; have X3 := Lib.hid (blk_dr X2.out h5 (by omega)); have HO3 := Lib.hid (row_at ho3 hx4)
  have hs3 := h5.size
  clear h4 h5 H2 X2 ho3
  go_wp2_with (fail)
  refine (l1Mutate_any W g 6 _ xa xb xc xd k3 _ H3.out (by omega) HO3.out).mono ?_
  rintro e w4 ⟨⟨p4, n4, c4, k4, xs, rfl, hxn, ho4⟩, h4, h5⟩
  have H4 := Lib.hid (h4.ext ((Ext.refl w4).alloc (.cells #[.slice p4 n4 c4, .int .i64 k4] 27))); have X4 := Lib.hid (blk_old (o := .cells #[.slice p4 n4 c4, .int .i64 k4] 27) (blk_dr X3.out h5 (by omega))); have HO4 := Lib.hid (ho4.alloc (.cells #[.slice p4 n4 c4, .int .i64 k4] 27)); have HXN := Lib.hid hxn
  have hs4 := h5.size
  have HA : Hid ((w4.alloc (.cells #[.slice p4 n4 c4, .int .i64 k4] 27)).heap[w4.heap.size]? = some (.cells #[.slice p4 n4 c4, .int .i64 k4] 27 (0, 0))) := Lib.hid (blk_at rfl)
  clear h4 h5 H3 X3 HO3 ho4 hxn
  go_wp2_with (fail)
  generalize w4.alloc (.cells #[.slice p4 n4 c4, .int .i64 k4] 27) = W5 at *
  generalize hga : w4.heap.size = ga at *
  clear hga
  obtain ⟨a0, a1, -, -⟩ := blk2 HA.out
  have HLit : Hid (((W5.alloc (.cells #[.int .i64 1, .int .i64 2, .int .i64 (-1), .int .i64 0, .int .i64 3, .int .i64 99, .int .i64 100, .int .i64 (-9223372036854775808)] 3)).drew).heap[W5.heap.size]? = some (.cells (([1, 2, -1, 0, 3, 99, 100, -9223372036854775808] : List Int).map (Value.int .i64)).toArray 3 (0, 0))) := Lib.hid (blk_at rfl)
  have EL : Ext W5 ((W5.alloc (.cells #[.int .i64 1, .int .i64 2, .int .i64 (-1), .int .i64 0, .int .i64 3, .int .i64 99, .int .i64 100, .int .i64 (-9223372036854775808)] 3)).drew) := ((Ext.refl W5).alloc _).drew
  have hgl := H4.out.lt
  go_region_held3 (fun W' => W'.cell? ⟨ga, 0, none⟩ = some (.slice p4 n4 c4) ∧ W'.cell? ⟨ga, 1, none⟩ = some (.int .i64 k4))
    (first
      | exact ⟨a0, a1⟩
      | exact ⟨EL.keep a0, EL.keep a1⟩
      | exact ⟨u3.1, u3.2.1⟩
      | exact ⟨(cell_setAt _ (by omega)).trans ((cell_setAt _ (by omega)).trans u3.1), (cell_setAt _ (by omega)).trans ((cell_setAt _ (by omega)).trans u3.2.1)⟩
      | fail)
    (first
      | (go_at_call 39; (with_reducible refine (num_any W g 8 W5.heap.size 8 [1, 2, -1, 0, 3, 99, 100, -9223372036854775808] _ (H4.out.ext EL) (by omega) rfl (by omega) (by omega) HLit.out (by omega)).mono ?_); rintro e v3 ⟨⟨y, rfl, hy⟩, h8, h9⟩; have g3 : Dr (W5.alloc (.cells #[.int .i64 1, .int .i64 2, .int .i64 (-1), .int .i64 0, .int .i64 3, .int .i64 99, .int .i64 100, .int .i64 (-9223372036854775808)] 3)).drew g v3 := h9; have u3 := blk2 (blk_dr (EL.blk HA.out) g3 (by omega)); have x3 := blk2 (blk_dr (EL.blk X4.out) g3 (by omega)); have x30 := x3.1; have x31 := x3.2.1; have x32 := x3.2.2.1; have x33 := x3.2.2.2; have hl3 := g3.size)
      | fail)
  all_goals
    have EV : Ext w v3 := E0.out.trans (by obtain ⟨_, _, _, _, _, _, _, _, h, _⟩ := h8; exact h)
    have i1 := row_dr (World.ownsRow.drew (World.ownsRow.alloc HO4.out _)) g3 (by omega)
    have hy2 : -99 ≤ y ∧ y ≤ 99 ∨ withinB y 99 = false := by
      simp only [List.mem_cons, List.not_mem_nil, or_false] at hy
      rcases hy with rfl | rfl | rfl | rfl | rfl | rfl | rfl | rfl
      · exact .inl (by omega)
      · exact .inl (by omega)
      · exact .inl (by omega)
      · exact .inl (by omega)
      · exact .inl (by omega)
      · exact .inl (by omega)
      · exact .inr (by decide)
      · exact .inr (by decide)
    have HI1 := Lib.hid i1; have HEV := Lib.hid EV; have HY2 := Lib.hid hy2
    clear i1 EV h8 h9 g3 u3 x3 hy hy2 a0 a1 EL
    go_wp2
    refine bodyPost_ret (v := .tuple #[.agg #[.slice p4 n4 c4, .int .i64 k4], .int .i64 y]) (by simp [results, Tryd.results15, go_sem, x30, x31]) rfl ⟨⟨_, k4, y, xs, rfl, row_at (B := w3.heap.size) ?_ HXN.out, HY2.out⟩, ?_⟩
    · repeat (with_reducible refine ownsRow_setCell_below ?_ (by dsimp only; omega) _)
      exact HI1.out
    · repeat (with_reducible refine Ext.setCell ?_ (by dsimp only; omega) _)
      exact HEV.out
end Go.Proofs.YtcpbfefgjpimiaaDoor
