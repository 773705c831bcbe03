/- The texts D7, joined. No statement is proved here. -/
import Derived.Test.YtccibfldadflkaaQT15
import Derived.Test.YtccibfldadflkaaQT48
/- Draws: a copy of an expression, sometimes made invalid. -/
namespace Go.Proofs.Ytccibfldadflkaa
open Go.RowKit

set_option maxHeartbeats 4000000 in
theorem l1Mutate_any (W : World) (g K : Nat) (s : Value) (a b c d k : Int) (w : World) (hr : Rd W g K w) (hK : K ≤ 90000) (hs : IntsAt w s [a, b, c, d]) :
    Calls Try.prog 46 #[.pointer (some ⟨g, 0, none⟩), .agg #[s, .int .i64 k]] w fun e w' => (∃ p n c k', ∃ xs : List Int, e = .returned (.agg #[.slice p n c, .int .i64 k']) ∧ xs.length = n ∧ w'.ownsRow w.heap.size 3 1 (.slice p n c) n (xs.map (Value.int .i64))) ∧ Rd W g (K + 2) w' ∧ Dr w g w' := by
  obtain ⟨i0, hi, hz0, hz1, hz2⟩ := info_parts infoInt
  have hlg := hr.lt
  obtain ⟨bl, off, cap, rfl, h0, h1, h2, h3, hbl⟩ := hs.four
  clear hs
  have E0 := Lib.hid (((Ext.refl w).alloc (.cells #[.slice (some ⟨bl, off, none⟩) 4 cap, .int .i64 k] 36)).alloc (.cells #[.slice none 0 0, .int .i64 0] 36))
  have Y0 := Lib.hid (blk_old (o := .cells #[.slice none 0 0, .int .i64 0] 36) (blk_at (w := w) (g := w.heap.size) (o := .cells #[.slice (some ⟨bl, off, none⟩) 4 cap, .int .i64 k] 36) rfl))
  have Y1 := Lib.hid (blk_at (w := w.alloc (.cells #[.slice (some ⟨bl, off, none⟩) 4 cap, .int .i64 k] 36)) (g := w.heap.size + 1) (o := .cells #[.slice none 0 0, .int .i64 0] 36) (by simp))
  have HR0 := Lib.hid (hr.ext E0.out); clear hr
  have HD0 := Lib.hid ((Dr.refl w g).ext E0.out)
  replace h0 := E0.out.keep h0
  replace h1 := E0.out.keep h1
  replace h2 := E0.out.keep h2
  replace h3 := E0.out.keep h3
  go_enter Try.func46, Try.ntmps46
  go_wp2_with (fail)
  generalize (w.alloc (.cells #[.slice (some ⟨bl, off, none⟩) 4 cap, .int .i64 k] 36)).alloc (.cells #[.slice none 0 0, .int .i64 0] 36) = W0 at *
  generalize hg0 : w.heap.size = g0 at *
  have HG0 := Lib.hid hg0; clear hg0
  have hlt : g0 + 1 < W0.heap.size := lt_of_block Y1.out
  have hl0 : g0 < W0.heap.size := by omega
  obtain ⟨x0, x1, -, -⟩ := blk2 Y0.out
  have z0 := ((Ext.refl W0).alloc (.cells #[] 3)).drew.keep x0
  have z1 := ((Ext.refl W0).alloc (.cells #[] 3)).drew.keep x1
  have d0 := (Ext.refl W0).drew.keep x0
  have d1 := (Ext.refl W0).drew.keep x1
  have H0 := Lib.hid h0; have H1 := Lib.hid h1; have H2 := Lib.hid h2; have H3 := Lib.hid h3
  clear h0 h1 h2 h3
  have oa : (W0.alloc (.cells #[] 3)).drew.ownsRow W0.heap.size 3 1 (.slice (some ⟨W0.heap.size, 0, none⟩) 0 0) 0 [] := World.ownsRow_made W0 #[] 0 (Nat.le_refl _) (Nat.zero_le _) rfl
  have ob : ((W0.alloc (.cells #[] 3)).alloc (.cells #[.slice none 0 0, .int .i64 0] 36)).drew.ownsRow W0.heap.size 3 1 (.slice (some ⟨W0.heap.size, 0, none⟩) 0 0) 0 [] := (World.ownsRow.alloc (w := W0.alloc (.cells #[] 3)) (World.ownsRow_made W0 #[] 0 (Nat.le_refl _) (Nat.zero_le _) rfl) (.cells #[.slice none 0 0, .int .i64 0] 36)).drew
  have oc : ((W0.alloc (.cells #[.slice none 0 0, .int .i64 0] 36)).alloc (.cells #[] 3)).drew.ownsRow (W0.heap.size + 1) 3 1 (.slice (some ⟨W0.heap.size + 1, 0, none⟩) 0 0) 0 [] := by
    have := World.ownsRow_made (base := W0.heap.size + 1) (size := 1) (e := 3) (W0.alloc (.cells #[.slice none 0 0, .int .i64 0] 36)) #[] 0 (by simp) (Nat.zero_le _) rfl
    rw [World.size_alloc] at this
    exact this.drew
  have OA := Lib.hid oa; have OB := Lib.hid ob; have OC := Lib.hid oc
  clear oa ob oc
  have HK : ∀ W, Ext W0 W → ∀ j u, [Value.int .i64 a, .int .i64 b, .int .i64 c, .int .i64 d][j]? = some u → W.cell? ((⟨bl, off, none⟩ : Addr).add j) = some u := by
    intro W hE j u hu
    match j, hu with
    | 0, hu => simp at hu; subst hu; exact hE.keep H0.out
    | 1, hu => simp at hu; subst hu; exact hE.keep H1.out
    | 2, hu => simp at hu; subst hu; exact hE.keep H2.out
    | 3, hu => simp at hu; subst hu; exact hE.keep H3.out
  go_cut [5] (fun s7 wc => ∃ gr p c', s7 = .pointer (some ⟨gr, 0, none⟩) ∧ wc.heap[gr]? = some (.cells #[.slice p 4 c', .int .i64 k] 36 (0, 0)) ∧ IntsOwn W0.heap.size wc (.slice p 4 c') [a, b, c, d] ∧ Ext W0 wc ∧ W0.heap.size ≤ gr)
  case first =>
    go_region_law (first
      | (refine step_append_lies _ rfl (.tmp 6) (.tmp 8) 22 rfl W0.heap.size 3 i0 (.int .i64 0) 1 8 underSliceInt hi hz0 hz1 hz2 rfl (by decide) (.slice (some ⟨W0.heap.size, 0, none⟩) 0 0) 0 [] rfl OA.out ⟨bl, off, none⟩ 4 cap [.int .i64 a, .int .i64 b, .int .i64 c, .int .i64 d] rfl rfl (HK _ ((Ext.refl W0).alloc (.cells #[] 3)).drew) (by intro u hu; simp at hu; rcases hu with rfl | rfl | rfl | rfl <;> rfl) (by omega) (by unfold maxLen; omega) (by omega) (by simp <;> omega) _ rfl ?_; intro g cap' w1 hown hgrow hgeq _; have EX := Ext.grown (c := w1) (((Ext.refl W0).alloc (.cells #[] 3)).drew) hgrow (fun b hb => by have hb' : W0.heap.size = b := Option.some.inj hb; omega); have x1' := EX.keep x1; have x1'' := (EX.alloc (.cells #[.slice none 0 0, .int .i64 0] 36)).keep x1; have hl1 : g0 < w1.heap.size := Nat.lt_of_lt_of_le hl0 EX.size_le)
      | (refine step_append_lies _ rfl (.tmp 6) (.tmp 8) 22 rfl (W0.heap.size + 1) 3 i0 (.int .i64 0) 1 8 underSliceInt hi hz0 hz1 hz2 rfl (by decide) (.slice (some ⟨W0.heap.size + 1, 0, none⟩) 0 0) 0 [] rfl OC.out ⟨bl, off, none⟩ 4 cap [.int .i64 a, .int .i64 b, .int .i64 c, .int .i64 d] rfl rfl (HK _ (((Ext.refl W0).alloc (.cells #[.slice none 0 0, .int .i64 0] 36)).alloc (.cells #[] 3)).drew) (by intro u hu; simp at hu; rcases hu with rfl | rfl | rfl | rfl <;> rfl) (by omega) (by unfold maxLen; omega) (by omega) (by simp <;> omega) _ rfl ?_; intro g cap' w1 hown hgrow hgeq _; have EX := Ext.grown (c := w1) ((((Ext.refl W0).alloc (.cells #[.slice none 0 0, .int .i64 0] 36)).alloc (.cells #[] 3)).drew) hgrow (fun b hb => by have hb' : W0.heap.size + 1 = b := Option.some.inj hb; omega); have x1' := EX.keep x1; have x1'' := (EX.alloc (.cells #[.slice none 0 0, .int .i64 0] 36)).keep x1; have hl1 : g0 < w1.heap.size := Nat.lt_of_lt_of_le hl0 EX.size_le; have rb' := (grownBy_blk hgrow (blk_old (o := (.cells #[] 3)) (blk_at (w := W0) (o := (.cells #[.slice none 0 0, .int .i64 0] 36)) (g := W0.heap.size) rfl)) (fun e => by have e' : W0.heap.size = W0.heap.size + 1 := Option.some.inj e; omega)); have rb := blk2 rb'; have r0 := rb.1; have r1 := rb.2.1; have f0 := rb.2.2.1; have f1 := rb.2.2.2; clear rb; have hgne : g ≠ W0.heap.size := (by rcases hgeq with e | e; (have e' : W0.heap.size + 1 = g := Option.some.inj e; omega); (simp at e; omega)))
      | (refine step_append_lies _ rfl (.tmp 6) (.tmp 8) 22 rfl W0.heap.size 3 i0 (.int .i64 0) 1 8 underSliceInt hi hz0 hz1 hz2 rfl (by decide) (.slice (some ⟨W0.heap.size, 0, none⟩) 0 0) 0 [] rfl OB.out ⟨bl, off, none⟩ 4 cap [.int .i64 a, .int .i64 b, .int .i64 c, .int .i64 d] rfl rfl (HK _ (((Ext.refl W0).alloc (.cells #[] 3)).alloc (.cells #[.slice none 0 0, .int .i64 0] 36)).drew) (by intro u hu; simp at hu; rcases hu with rfl | rfl | rfl | rfl <;> rfl) (by omega) (by unfold maxLen; omega) (by omega) (by simp <;> omega) _ rfl ?_; intro g cap' w1 hown hgrow hgeq _; have EX := Ext.grown (c := w1) ((((Ext.refl W0).alloc (.cells #[] 3)).alloc (.cells #[.slice none 0 0, .int .i64 0] 36)).drew) hgrow (fun b hb => by have hb' : W0.heap.size = b := Option.some.inj hb; omega); have x1' := EX.keep x1; have x1'' := (EX.alloc (.cells #[.slice none 0 0, .int .i64 0] 36)).keep x1; have hl1 : g0 < w1.heap.size := Nat.lt_of_lt_of_le hl0 EX.size_le; have rb' := (grownBy_blk hgrow (blk_at (w := W0.alloc (.cells #[] 3)) (o := (.cells #[.slice none 0 0, .int .i64 0] 36)) (g := W0.heap.size + 1) (by simp)) (fun e => by have e' : W0.heap.size + 1 = W0.heap.size := Option.some.inj e; omega)); have rb := blk2 rb'; have r0 := rb.1; have r1 := rb.2.1; have f0 := rb.2.2.1; have f1 := rb.2.2.2; clear rb; have hgne : g ≠ W0.heap.size + 1 := (by rcases hgeq with e | e; (have e' : W0.heap.size = g := Option.some.inj e; omega); (simp at e; omega))))
    all_goals go_wp2_with (fail)
    all_goals go_meet
    all_goals first
      | exact ⟨_, _, _, rfl, blk_at rfl, (IntsOwn.mk hown rfl).ext ((Ext.refl _).alloc _), EX.alloc _, EX.size_le⟩
      | exact ⟨_, _, _, rfl, blk2_set rb', IntsOwn.mk (ownsRow_off (ownsRow_off hown hgne _) hgne _) rfl, (EX.setAt (by omega) _).setAt (by omega) _, by omega⟩
      | exact ⟨_, _, _, rfl, blk2_set rb', IntsOwn.weak (B := W0.heap.size + 1) (IntsOwn.mk (ownsRow_off (ownsRow_off hown hgne _) hgne _) rfl) (by omega), (EX.setAt (by omega) _).setAt (by omega) _, by omega⟩
  case rest =>
    obtain ⟨gr, p, c', rfl, BR, hv', EX, hgr⟩ := hcut
    obtain ⟨gc, rfl, hgc1, hgc2⟩ := own4 hv'
    have hne : gc ≠ gr := own_ne hv' BR
    have H1 := Lib.hid (HR0.out.ext EX); have HD1 := Lib.hid (HD0.out.ext EX)
    have Y11 := Lib.hid (EX.blk Y1.out)
    have HV := Lib.hid (show wc.ownsRow W0.heap.size 3 1 (.slice (some ⟨gc, 0, none⟩) 4 c') 4 (([a, b, c, d] : List Int).map (Value.int .i64)) from hv')
    have HBR := Lib.hid BR
    have hgrl := lt_of_block BR
    have hcs := EX.size_le
    clear BR hv' EX z0 z1 d0 d1 x0 x1 H0 H2 H3 HK E0 Y0 Y1 HR0 HD0
    go_wp2_with (fail)
    refine (pick_any W g K 40 _ H1.out (by omega) (by omega)).mono ?_
    rintro e w4 ⟨⟨r, rfl, -⟩, h4, h5⟩
    have H4 := Lib.hid h4; have HD4 := Lib.hid (HD1.out.trans h5); have HV4 := Lib.hid (row_dr HV.out h5 (by omega)); have HB4 := Lib.hid (blk_dr HBR.out h5 (by omega)); have Y14 := Lib.hid (blk_dr Y11.out h5 (by omega))
    have hs4 := h5.size
    clear h4 h5 H1 HD1 HV HBR Y11
    obtain ⟨q0, q1, e0, e1⟩ := blk2 HB4.out
    obtain ⟨y0, y1, f0, f1⟩ := blk2 Y14.out
    have hg01 : g0 + 1 < W0.heap.size := hlt
    have hgg0 : g < g0 := hlg
    by_cases hr0 : r = 0
    · subst hr0
      go_wp2_with (fail)
      refine (num_any W g (K + 1) w4.heap.size 3 [100, -100, 9223372036854775807] _ (H4.out.ext ((Ext.refl w4).alloc _)) (by omega) rfl (by omega) (by omega) (blk_at rfl) (by omega)).mono ?_
      rintro e w5 ⟨⟨y, rfl, -⟩, h4, h5⟩
      have H5 := Lib.hid h4; have HD5 := Lib.hid ((HD4.out.alloc _).trans h5); have HV5 := Lib.hid (row_dr (HV4.out.alloc _) h5 (by omega)); have B5 := blk_dr (blk_old HB4.out) h5 (by omega); have Y5 := blk_dr (blk_old Y14.out) h5 (by omega)
      have hs5 := h5.size
      clear h4 h5 q0 q1 e0 e1 y0 y1 f0 f1
      obtain ⟨q0, q1, e0, e1⟩ := blk2 B5
      obtain ⟨y0, y1, f0, f1⟩ := blk2 Y5
      clear B5 Y5 H4 HD4 HV4 HB4 Y14
      go_wp2
      refine bodyPost_ret (v := .agg #[.slice (some ⟨gc, 0, none⟩) 4 c', .int .i64 y]) (by simp [results, Try.results46, go_sem, y0, y1]) rfl ⟨⟨_, 4, c', y, [a, b, c, d], rfl, rfl, ?_⟩, ?_, ?_⟩
      · refine ownsRow_weak (B := W0.heap.size) ?_ (by rw [HG0.out]; omega)
        exact ownsRow_off (ownsRow_off (ownsRow_off HV5.out hne _) (by omega) _) (by omega) _
      · exact (((H5.out.set (by omega) _).set (by omega) _).set (by omega) _).mono (by omega)
      · exact ((HD5.out.set (by rw [HG0.out]; omega) _).set (by rw [HG0.out]; omega) _).set (by rw [HG0.out]; omega) _
    · have hd0 : ((r : Int) == 0) = false := by simp [hr0]
      clear hr0
      by_cases hr1 : r = 1
      · subst hr1
        go_wp2_with (at_builtin; refine wpList_append_own _ rfl (.tmp 24) (.tmp 25) 22 rfl W0.heap.size 3 i0 (.int .i64 0) 1 8 underSliceInt hi hz0 hz1 hz2 rfl (by decide) (.slice (some ⟨gc, 0, none⟩) 4 c') 4 (([a, b, c, d] : List Int).map (Value.int .i64)) rfl (HV4.out.alloc _) ⟨w4.heap.size, 0, none⟩ 1 1 [.int .i64 0] rfl rfl ?c1 ?c2 ?c3 ?c4 ?c5 ?_)
        case c1 =>
          intro q u hq
          match q, hq with
          | 0, hq => simp at hq; subst hq; simp [Addr.add]
        case c2 => intro u hu; simp at hu; subst hu; rfl
        case c3 => unfold maxLen; omega
        case c4 => omega
        case c5 => simp; omega
        intro v' w6 hown' hgrow hnil
        have hgb : ∀ b, (Value.slice (some ⟨gc, 0, none⟩) 4 c').ownBlock = some b → gc = b := fun b hb => Option.some.inj hb
        have HGB := Lib.hid hgb; clear hgb
        have hne6 : v' ≠ .slice none 0 0 := by intro e; have := hnil; simp [e] at this
        obtain ⟨g6, c6, rfl, hc6⟩ := own_form' hown' hne6
        have hO6 : w6.ownsRow W0.heap.size 3 1 (.slice (some ⟨g6, 0, none⟩) (4 + 1) c6) (4 + 1) (([a, b, c, d, 0] : List Int).map (Value.int .i64)) := hown'
        have B6 := grownBy_blk hgrow (blk_old (o := .cells #[.int .i64 0] 3) HB4.out) (fun e => hne (HGB.out _ e.symm))
        have Y6 := grownBy_blk hgrow (blk_old (o := .cells #[.int .i64 0] 3) Y14.out) (fun e => by have := HGB.out _ e.symm; omega)
        have hn6 : g6 ≠ gr := own_ne (IntsOwn.mk hO6 rfl) B6
        have hR6 : Rd W g (K + 1) w6 := (H4.out.ext ((Ext.refl w4).alloc _)).beside hgrow (fun b hb => by have := HGB.out b hb; omega)
        have hD6 : Dr w g w6 := (HD4.out.alloc _).fresh hgrow (fun b hb => by have := HGB.out b hb; rw [HG0.out]; omega)
        have hg6 := (hO6.lt g6 rfl).1
        have H6 := Lib.hid hR6; have HD6 := Lib.hid hD6; have HO6 := Lib.hid hO6
        clear hnil hne6 hown' hO6 hgrow hR6 hD6 q0 q1 e0 e1 y0 y1 f0 f1
        obtain ⟨q0, q1, e0, e1⟩ := blk2 B6
        obtain ⟨y0, y1, f0, f1⟩ := blk2 Y6
        clear B6 Y6 H4 HD4 HV4 HB4 Y14 HGB
        go_wp2
        refine bodyPost_ret (v := .agg #[.slice (some ⟨g6, 0, none⟩) 5 c6, .int .i64 k]) (by simp [results, Try.results46, go_sem, y0, y1]) rfl ⟨⟨_, 5, c6, k, [a, b, c, d, 0], rfl, rfl, ?_⟩, ?_, ?_⟩
        · refine ownsRow_weak (B := W0.heap.size) ?_ (by rw [HG0.out]; omega)
          exact ownsRow_off (ownsRow_off (ownsRow_off HO6.out hn6 _) (by omega) _) (by omega) _
        · exact (((H6.out.set (by omega) _).set (by omega) _).set (by omega) _).mono (by omega)
        · exact ((HD6.out.set (by rw [HG0.out]; omega) _).set (by rw [HG0.out]; omega) _).set (by rw [HG0.out]; omega) _
      · have hd1 : ((r : Int) == 1) = false := by simp; omega
        clear hr1
        by_cases hr2 : r = 2
        · subst hr2
          have hwgc : gc < w4.heap.size := by omega
          go_wp2_with (fail)
          have HLit : Hid (((w4.alloc (.cells #[.int .i64 10, .int .i64 (-10), .int .i64 (-9223372036854775808)] 3)).drew).heap[w4.heap.size]? = some (.cells (([10, -10, -9223372036854775808] : List Int).map (Value.int .i64)).toArray 3 (0, 0))) := Lib.hid (blk_at rfl)
          go_region_held3 (fun W' => W'.cell? ⟨gr, 0, none⟩ = some (.slice (some ⟨gc, 0, none⟩) 4 c'))
            (first
              | exact q0
              | exact (((Ext.refl w4).alloc _).drew).keep q0
              | exact (((Ext.refl w4).drew).alloc _).keep q0
              | exact c3
              | exact (cell_setAt _ (by omega)).trans c3
              | fail)
            (first
              | (go_at_call 57; (with_reducible refine (num_any W g (K + 1) w4.heap.size 3 [10, -10, -9223372036854775808] _ (H4.out.ext (((Ext.refl w4).alloc _).drew)) (by omega) rfl (by omega) (by omega) HLit.out (by omega)).mono ?_); rintro e w5 ⟨⟨y, rfl, -⟩, h4, h5⟩; have hrow := row_dr (w := (w4.alloc (.cells #[.int .i64 10, .int .i64 (-10), .int .i64 (-9223372036854775808)] 3)).drew) (World.ownsRow.drew (World.ownsRow.alloc HV4.out _)) h5 (by omega); have hf := hrow.frozenAt 0; have hu : w5.cell? ⟨gc, 0, none⟩ = some (.int .i64 a) := (by rw [hrow.cellAt 0 (by omega)]; rfl); have A3 := blk_dr (w := (w4.alloc (.cells #[.int .i64 10, .int .i64 (-10), .int .i64 (-9223372036854775808)] 3)).drew) (blk_old HB4.out) h5 (by omega); have c3 := (blk2 A3).1; have B3 := blk_dr (w := (w4.alloc (.cells #[.int .i64 10, .int .i64 (-10), .int .i64 (-9223372036854775808)] 3)).drew) (blk_old Y14.out) h5 (by omega); have D3 := ((HD4.out.alloc (.cells #[.int .i64 10, .int .i64 (-10), .int .i64 (-9223372036854775808)] 3)).drew).trans h5)
              | fail)
          have hst := hrow.stored 0 (.int .i64 y)
          have H5 := Lib.hid (h4.beside hst.2 (fun b hb => by have hb' : gc = b := Option.some.inj hb; omega))
          have D5 := Lib.hid (D3.set (j := gc) (o := 0) (by rw [HG0.out]; omega) (.int .i64 y))
          have B5 := blk_offD (o' := 0) (g' := gc) B3 (by omega) (.int .i64 y); have A5 := blk_offD (o' := 0) (g' := gc) A3 (fun e => hne e.symm) (.int .i64 y)
          have HS := Lib.hid (show (w5.setCell ⟨gc, 0, none⟩ (.int .i64 y)).ownsRow W0.heap.size 3 1 (.slice (some ⟨gc, 0, none⟩) 4 c') 4 (([y, b, c, d] : List Int).map (Value.int .i64)) from hst.1)
          clear hst hrow h4 h5 D3 B3 A3 c3 hf hu q0 q1 e0 e1 y0 y1 f0 f1
          obtain ⟨q0, q1, e0, e1⟩ := blk2 A5
          obtain ⟨y0, y1, f0, f1⟩ := blk2 B5
          clear B5 A5 H4 HD4 HV4 HB4 Y14 HLit
          generalize w5.setCell ⟨gc, 0, none⟩ (.int .i64 y) = w6 at *
          go_wp2
          refine bodyPost_ret (v := .agg #[.slice (some ⟨gc, 0, none⟩) 4 c', .int .i64 k]) (by simp [results, Try.results46, go_sem, y0, y1]) rfl ⟨⟨_, 4, c', k, [y, b, c, d], rfl, rfl, ?_⟩, ?_, ?_⟩
          · refine ownsRow_weak (B := W0.heap.size) ?_ (by rw [HG0.out]; omega)
            exact ownsRow_off (ownsRow_off HS.out (by omega) _) (by omega) _
          · exact ((H5.out.set (by omega) _).set (by omega) _).mono (by omega)
          · exact (D5.out.set (by rw [HG0.out]; omega) _).set (by rw [HG0.out]; omega) _
        · have hd2 : ((r : Int) == 2) = false := by simp; omega
          clear hr2
          by_cases hr3 : r = 3
          · subst hr3
            go_wp2
            refine bodyPost_ret (v := .agg #[.slice none 0 0, .int .i64 0]) (by simp [results, Try.results46, go_sem, y0, y1]) rfl ⟨⟨none, 0, 0, 0, [], rfl, rfl, World.ownsRow_nil _ _ _ _⟩, ?_, ?_⟩
            · exact ((H4.out.set (by omega) _).set (by omega) _).mono (by omega)
            · exact (HD4.out.set (by rw [HG0.out]; omega) _).set (by rw [HG0.out]; omega) _
          · have hd3 : ((r : Int) == 3) = false := by simp; omega
            clear hr3
            go_wp2
            refine bodyPost_ret (v := .agg #[.slice (some ⟨gc, 0, none⟩) 4 c', .int .i64 k]) (by simp [results, Try.results46, go_sem, y0, y1]) rfl ⟨⟨_, 4, c', k, [a, b, c, d], rfl, rfl, ?_⟩, ?_, ?_⟩
            · refine ownsRow_weak (B := W0.heap.size) ?_ (by rw [HG0.out]; omega)
              exact ownsRow_off (ownsRow_off HV4.out (by omega) _) (by omega) _
            · exact ((H4.out.set (by omega) _).set (by omega) _).mono (by omega)
            · exact (HD4.out.set (by rw [HG0.out]; omega) _).set (by rw [HG0.out]; omega) _
end Go.Proofs.Ytccibfldadflkaa
