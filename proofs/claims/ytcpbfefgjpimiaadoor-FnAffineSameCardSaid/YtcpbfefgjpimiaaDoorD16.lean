/- Draws: the arguments of AffineSame. -/
import Derived.Test.YtcpbfefgjpimiaaDoorD8
import Derived.Test.YtcpbfefgjpimiaaDoorD13
import Derived.Test.YtcpbfefgjpimiaaDoorD14
import Derived.Test.YtcpbfefgjpimiaaDoorD15
namespace Go.Proofs.YtcpbfefgjpimiaaDoor
open Go.RowKit

/-- l1Mutate of what l1Mutate returned. -/
theorem l1MutateL_any (W : World) (g K B : Nat) (p : Option Addr) (n c : Nat) (xs : List Int) (k : Int) (w : World) (hr : Rd W g K w) (hK : K ≤ 90000) (hx : xs.length = n) (hn : n = 4 ∨ n = 5 ∨ n = 0 ∧ p = none ∧ c = 0) (ho : w.ownsRow B 3 1 (.slice p n c) n (xs.map (Value.int .i64))) :
    Calls Tryd.prog 36 #[.pointer (some ⟨g, 0, none⟩), .agg #[.slice p n c, .int .i64 k]] w fun e w' => (∃ p n c k', ∃ xs : List Int, e = .returned (.agg #[.slice p n c, .int .i64 k']) ∧ xs.length = n ∧ w'.ownsRow w.heap.size 3 1 (.slice p n c) n (xs.map (Value.int .i64))) ∧ Rd W g (K + 2) w' ∧ Dr w g w' := by
  have hat := row_at ho hx
  rcases hn with rfl | rfl | ⟨rfl, rfl, rfl⟩
  · obtain ⟨a, b, c', d, rfl⟩ := four hx
    exact l1Mutate_any W g K _ a b c' d k w hr hK hat
  · match xs, hx with
    | [a, b, c', d, x], _ => exact l1Mutate5_any W g K _ a b c' d x k w hr hK hat
  · exact l1Mutate0_any W g K k w hr hK

set_option maxHeartbeats 4000000 in
theorem DrawAffineSame_any (p : Option Addr) (n c : Nat) (w : World) (hs : BytesAt w p n c) (hlt : ∀ b off, 0 < n → p = some ⟨b, off, none⟩ → b < w.heap.size) :
    Calls Tryd.prog 12 #[.slice p n c] w fun e w' => (∃ u v k l xs ys, e = .returned (.tuple #[.agg #[u, .int .i64 k], .agg #[v, .int .i64 l]]) ∧ IntsAt w' u xs ∧ IntsAt w' v ys) ∧ Ext w w' := by
  have HS := Lib.hid hs; have HL := Lib.hid hlt; clear hs hlt
  have E0 : Hid (Ext w ((w.alloc (.cells #[.slice none 0 0, .int .i64 0] 27)).alloc (.cells #[.slice none 0 0, .int .i64 0] 27))) := Lib.hid (((Ext.refl w).alloc _).alloc _)
  have X0 : Hid (((w.alloc (.cells #[.slice none 0 0, .int .i64 0] 27)).alloc (.cells #[.slice none 0 0, .int .i64 0] 27)).heap[w.heap.size]? = some (.cells #[.slice none 0 0, .int .i64 0] 27 (0, 0))) := Lib.hid (blk_old (blk_at rfl))
  have Y0 : Hid (((w.alloc (.cells #[.slice none 0 0, .int .i64 0] 27)).alloc (.cells #[.slice none 0 0, .int .i64 0] 27)).heap[w.heap.size + 1]? = some (.cells #[.slice none 0 0, .int .i64 0] 27 (0, 0))) := Lib.hid (blk_at (by simp))
  go_enter Tryd.func12, Tryd.ntmps12
  go_wp2_with (fail)
  generalize (w.alloc (.cells #[.slice none 0 0, .int .i64 0] 27)).alloc (.cells #[.slice none 0 0, .int .i64 0] 27) = W at *
  have hWs : w.heap.size + 1 < W.heap.size := lt_of_block Y0.out
  refine (l16Open_any p n c W (HS.out.ext E0.out) (fun b off h e => Nat.lt_of_lt_of_le (HL.out b off h e) E0.out.size_le)).mono ?_
  rintro e w1 ⟨g, rfl, hR, hE⟩
  have H1 := Lib.hid hR; have X1 := Lib.hid (hE.blk X0.out); have Y1 := Lib.hid (hE.blk Y0.out)
  have hg : W.heap.size ≤ g := by obtain ⟨_, _, _, _, _, _, _, h, _⟩ := hR; exact h
  have hg1 := hR.lt
  clear hR hE X0 Y0
  go_wp2_with (fail)
  refine (pick_any W g 0 5 _ H1.out (by omega) (by omega)).mono ?_
  rintro e w2 ⟨⟨r, rfl, hr⟩, h4, h5⟩
  have hr4 : r ≤ 4 := by have := hr (by omega); omega
  have H2 := Lib.hid h4; have X2 := Lib.hid (blk_dr X1.out h5 (by omega)); have Y2 := Lib.hid (blk_dr Y1.out h5 (by omega))
  have hs2 := h5.size
  clear h4 h5 H1 X1 Y1 hr
  go_wp2_with (fail)
  refine (l1Draw_any W g 1 r _ H2.out (by omega) hr4).mono ?_
  rintro e w3 ⟨⟨p3, c3, k3, xs, rfl, hx4, ho3⟩, h4, h5⟩
  obtain ⟨xa, xb, xc, xd, rfl⟩ := four hx4
  have hs3 := h5.size
  have H3 := Lib.hid (h4.ext ((Ext.refl w3).alloc (.cells #[.slice p3 4 c3, .int .i64 k3] 27))); have X3 := Lib.hid (blk_old (o := (.cells #[.slice p3 4 c3, .int .i64 k3] 27)) (blk_dr X2.out h5 (by omega))); have Y3 := Lib.hid (blk_old (o := (.cells #[.slice p3 4 c3, .int .i64 k3] 27)) (blk_dr Y2.out h5 (by omega))); have HO3 := Lib.hid (ho3.alloc (.cells #[.slice p3 4 c3, .int .i64 k3] 27))
  have HA : Hid ((w3.alloc (.cells #[.slice p3 4 c3, .int .i64 k3] 27)).heap[w3.heap.size]? = some (.cells #[.slice p3 4 c3, .int .i64 k3] 27 (0, 0))) := Lib.hid (blk_at rfl)
  clear h4 h5 H2 X2 Y2 ho3
  go_wp2_with (fail)
  generalize w3.alloc (.cells #[.slice p3 4 c3, .int .i64 k3] 27) = W5 at *
  generalize hga : w3.heap.size = ga at *
  clear hga
  refine (pick_any W g 6 2 _ H3.out (by omega) (by omega)).mono ?_
  rintro e w4 ⟨⟨q, rfl, -⟩, h4, h5⟩
  have H4 := Lib.hid h4; have X4 := Lib.hid (blk_dr X3.out h5 (by omega)); have Y4 := Lib.hid (blk_dr Y3.out h5 (by omega)); have A4 := Lib.hid (blk_dr HA.out h5 (by omega)); have HO4 := Lib.hid (row_dr HO3.out h5 (by omega))
  have HI4 := Lib.hid (row_at HO4.out rfl)
  have hs4 := h5.size
  have hl4 := lt_of_block HA.out
  clear h4 h5 H3 X3 Y3 HA HO3
  obtain ⟨a0, a1, -, -⟩ := blk2 A4.out
  by_cases hq0 : q = 0
  · subst hq0
    go_wp2_with (fail)
    go_region_held3 (fun W' => W'.cell? ⟨ga, 0, none⟩ = some (.slice p3 4 c3) ∧ W'.cell? ⟨ga, 1, none⟩ = some (.int .i64 k3))
      (first
        | exact ⟨a0, a1⟩
        | exact ⟨u1.1, u1.2.1⟩
        | exact ⟨u3.1, u3.2.1⟩
        | exact ⟨(cell_setAt _ (by omega)).trans ((cell_setAt _ (by omega)).trans u3.1), (cell_setAt _ (by omega)).trans ((cell_setAt _ (by omega)).trans u3.2.1)⟩
        | exact ⟨(cell_setAt _ (by omega)).trans ((cell_setAt _ (by omega)).trans ((cell_setAt _ (by omega)).trans ((cell_setAt _ (by omega)).trans u3.1))), (cell_setAt _ (by omega)).trans ((cell_setAt _ (by omega)).trans ((cell_setAt _ (by omega)).trans ((cell_setAt _ (by omega)).trans u3.2.1)))⟩
        | fail)
      (first
        | (go_at_call 35; (with_reducible refine (pick_any W g 7 5 _ (H4.out.ext (Ext.refl w4).drew) (by omega) (by omega)).mono ?_); rintro e v1 ⟨⟨r1, rfl, hr1⟩, h6, h7⟩; have g1 : Dr w4 g v1 := ((Dr.refl w4 g).drew).trans h7; have u1 := blk2 (blk_dr A4.out g1 (by omega)); have hr14 : r1 ≤ 4 := (by have := hr1 (by omega); omega))
        | (go_at_call 34; (with_reducible refine (l1Draw_any W g 8 r1 _ h6 (by omega) hr14).mono ?_); rintro e v3 ⟨⟨q3, d3, l3, zs, rfl, hz, ho⟩, h8, h9⟩; have g3 : Dr w4 g v3 := g1.trans h9; have u3 := blk2 (blk_dr A4.out g3 (by omega)); have x3 := blk2 (blk_dr X4.out g3 (by omega)); have y3 := blk2 (blk_dr Y4.out g3 (by omega)); have x30 := x3.1; have x31 := x3.2.1; have x32 := x3.2.2.1; have x33 := x3.2.2.2; have y30 := y3.1; have y31 := y3.2.1; have y32 := y3.2.2.1; have y33 := y3.2.2.2; have hl3 := g3.size)
        | fail)
    all_goals
      have EV : Ext w v3 := E0.out.trans (by obtain ⟨_, _, _, _, _, _, _, _, h, _⟩ := h8; exact h)
      have i1 := row_dr HO4.out g3 (by omega)
      have hv2 : W.heap.size ≤ v1.heap.size := by have := g1.size; have := lt_of_block A4.out; omega
      have HI1 := Lib.hid i1; have HI2 := Lib.hid ho; have HEV := Lib.hid EV; have HZ := Lib.hid hz
      clear i1 ho EV h6 h7 h8 h9 g1 g3 u1 u3 x3 y3 hz a0 a1
      go_wp2
      refine bodyPost_ret (v := .tuple #[.agg #[.slice p3 4 c3, .int .i64 k3], .agg #[.slice q3 4 d3, .int .i64 l3]]) (by simp [results, Tryd.results12, go_sem, x30, x31, y30, y31]) rfl ⟨⟨_, _, k3, l3, [xa, xb, xc, xd], zs, rfl, row_at (B := w2.heap.size) ?_ rfl, row_at (B := v1.heap.size) ?_ HZ.out⟩, ?_⟩
      · repeat (with_reducible refine ownsRow_setCell_below ?_ (by dsimp only; omega) _)
        exact HI1.out
      · repeat (with_reducible refine ownsRow_setCell_below ?_ (by dsimp only; omega) _)
        exact HI2.out
      · repeat (with_reducible refine Ext.setCell ?_ (by dsimp only; omega) _)
        exact HEV.out
  · have hd0 : ((q : Int) == 0) = false := by simp [hq0]
    clear hq0
    go_wp2_with (fail)
    go_region_held3 (fun W' => W'.cell? ⟨ga, 0, none⟩ = some (.slice p3 4 c3) ∧ W'.cell? ⟨ga, 1, none⟩ = some (.int .i64 k3))
      (first
        | exact ⟨a0, a1⟩
        | exact ⟨u1.1, u1.2.1⟩
        | exact ⟨u3.1, u3.2.1⟩
        | exact ⟨(cell_setAt _ (by omega)).trans ((cell_setAt _ (by omega)).trans u3.1), (cell_setAt _ (by omega)).trans ((cell_setAt _ (by omega)).trans u3.2.1)⟩
        | exact ⟨(cell_setAt _ (by omega)).trans ((cell_setAt _ (by omega)).trans ((cell_setAt _ (by omega)).trans ((cell_setAt _ (by omega)).trans u3.1))), (cell_setAt _ (by omega)).trans ((cell_setAt _ (by omega)).trans ((cell_setAt _ (by omega)).trans ((cell_setAt _ (by omega)).trans u3.2.1)))⟩
        | fail)
      (first
        | (go_at_call 36; (with_reducible refine (l1MutateN_any W g 7 (.slice p3 4 c3) xa xb xc xd k3 _ (H4.out.ext (Ext.refl w4).drew) (by omega) (HI4.out.ext (Ext.refl w4).drew)).mono ?_); rintro e v1 ⟨⟨q2, n2, d2, k2, ys, rfl, hy, hn2, ho2⟩, h6, h7⟩; have g1 : Dr w4 g v1 := ((Dr.refl w4 g).drew).trans h7; have u1 := blk2 (blk_dr A4.out g1 (by omega)))
        | (go_at_call 36; (with_reducible refine (l1MutateL_any W g 9 _ q2 n2 d2 ys k2 _ h6 (by omega) hy hn2 ho2).mono ?_); rintro e v3 ⟨⟨q3, n3, d3, l3, zs, rfl, hz, ho⟩, h8, h9⟩; have g3 : Dr w4 g v3 := g1.trans h9; have u3 := blk2 (blk_dr A4.out g3 (by omega)); have x3 := blk2 (blk_dr X4.out g3 (by omega)); have y3 := blk2 (blk_dr Y4.out g3 (by omega)); have x30 := x3.1; have x31 := x3.2.1; have x32 := x3.2.2.1; have x33 := x3.2.2.2; have y30 := y3.1; have y31 := y3.2.1; have y32 := y3.2.2.1; have y33 := y3.2.2.2; have hl3 := g3.size)
        | fail)
    all_goals
      have EV : Ext w v3 := E0.out.trans (by obtain ⟨_, _, _, _, _, _, _, _, h, _⟩ := h8; exact h)
      have i1 := row_dr HO4.out g3 (by omega)
      have hv2 : W.heap.size ≤ v1.heap.size := by have := g1.size; have := lt_of_block A4.out; omega
      have HI1 := Lib.hid i1; have HI2 := Lib.hid ho; have HEV := Lib.hid EV; have HZ := Lib.hid hz
      clear i1 ho EV h6 h7 h8 h9 g1 g3 u1 u3 x3 y3 hz a0 a1 hy hn2 ho2
      go_wp2
      refine bodyPost_ret (v := .tuple #[.agg #[.slice p3 4 c3, .int .i64 k3], .agg #[.slice q3 n3 d3, .int .i64 l3]]) (by simp [results, Tryd.results12, go_sem, x30, x31, y30, y31]) rfl ⟨⟨_, _, k3, l3, [xa, xb, xc, xd], zs, rfl, row_at (B := w2.heap.size) ?_ rfl, row_at (B := v1.heap.size) ?_ HZ.out⟩, ?_⟩
      · repeat (with_reducible refine ownsRow_setCell_below ?_ (by dsimp only; omega) _)
        exact HI1.out
      · repeat (with_reducible refine ownsRow_setCell_below ?_ (by dsimp only; omega) _)
        exact HI2.out
      · repeat (with_reducible refine Ext.setCell ?_ (by dsimp only; omega) _)
        exact HEV.out
end Go.Proofs.YtcpbfefgjpimiaaDoor
