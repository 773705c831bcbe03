/- Contracts: the model's substitution. -/
import Derived.Test.YtabkhiakekammaaA16
import Derived.Test.YtabkhiakekammaaA12
import Derived.Deep.AppendLies
import Derived.Deep.RegionLaw
import Derived.Deep.DeepCutAuto
import Derived.Deep.RegionHeld3
namespace Go.Proofs.Ytabkhiakekammaa
open Go.RowKit

/-- A row of the call's own stays where another block is written. -/
theorem ownsRow_off {w : World} {base : Nat} {e : TypeId} {g n cap b o : Nat} {xs : List Value} (h : w.ownsRow base e 1 (.slice (some ⟨g, 0, none⟩) n cap) n xs) (hne : g ≠ b) (u : Value) :
    (w.setCell ⟨b, o, none⟩ u).ownsRow base e 1 (.slice (some ⟨g, 0, none⟩) n cap) n xs := by
  rcases h.2 with ⟨h', _⟩ | ⟨g', cap', cur, h', hb, hg, hr⟩
  · cases h'
  · cases h'
    exact ⟨h.1, .inr ⟨_, _, cur, rfl, hb, (Below.heap_setCell _ _ _ _ hne).trans hg, hr⟩⟩

/-- A row of ints is no block of an Affine. -/
theorem own_ne {B g gr n cap : Nat} {w : World} {xs : List Int} {u0 u1 : Value} (h : IntsOwn B w (.slice (some ⟨g, 0, none⟩) n cap) xs) (hb : w.heap[gr]? = some (.cells #[u0, u1] 25 (0, 0))) : g ≠ gr := by
  rintro rfl
  unfold IntsOwn at h
  rcases h.2 with ⟨h', _⟩ | ⟨g', cap', cur, h', _, hg, _⟩
  · cases h'
  · cases h'
    rw [hb] at hg
    simp at hg

set_option maxHeartbeats 2000000 in
theorem l1Subst_any (s t : Value) (a b c d : Int) (ys : List Int) (k l v z : Int) (w : World) (hs : IntsAt w s [a, b, c, d]) (ht : IntsAt w t ys) (hy : ys.length = 4) (hv : 0 ≤ v ∧ v < 4) (hz : [a, b, c, d][v.toNat]? = some z)
    (hkl : (-100000 ≤ 1 * k ∧ 1 * k ≤ 100000) ∧ (-100000 ≤ z * l ∧ z * l ≤ 100000))
    (hbb : ∀ (i : Nat) (a' b' : Int), ([a, b, c, d].set v.toNat 0)[i]? = some a' → ys[i]? = some b' → (-100000 ≤ 1 * a' ∧ 1 * a' ≤ 100000) ∧ (-100000 ≤ z * b' ∧ z * b' ≤ 100000)) :
    Calls Try.prog 69 #[.agg #[s, .int .i64 k], .int .i64 v, .agg #[t, .int .i64 l]] w fun e w' => ∃ p c', e = .returned (.agg #[.slice p 4 c', .int .i64 (1 * k + z * l)]) ∧ IntsOwn w.heap.size w' (.slice p 4 c') (comb ([a, b, c, d].set v.toNat 0) 1 ys z) ∧ Ext w w' := by
  have HZ := Lib.hid hz; have HKL := Lib.hid hkl; have HBB := Lib.hid hbb; clear hz hkl hbb
  obtain ⟨i0, hi, hz0, hz1, hz2⟩ := info_parts infoInt
  obtain ⟨bl, off, cap, rfl, h0, h1, h2, h3, hbl⟩ := hs.four
  have HT := Lib.hid ht; clear ht hs
  obtain ⟨q, cq, rfl, -, -⟩ := HT.out
  have HY := Lib.hid hy
  have HT2 : Hid (IntsAt w (.slice q 4 cq) ys) := by
    have h := HT.out
    rw [hy] at h
    exact Lib.hid h
  rw [hy]
  clear hy
  have E0 := Lib.hid ((((Ext.refl w).alloc (.cells #[.slice (some ⟨bl, off, none⟩) 4 cap, .int .i64 k] 25)).alloc (.cells #[.slice q 4 cq, .int .i64 l] 25)).alloc (.cells #[.slice none 0 0, .int .i64 0] 25))
  have Y0 := Lib.hid (blk_old (o := .cells #[.slice none 0 0, .int .i64 0] 25) (blk_old (o := .cells #[.slice q 4 cq, .int .i64 l] 25) (blk_at (w := w) (g := w.heap.size) (o := .cells #[.slice (some ⟨bl, off, none⟩) 4 cap, .int .i64 k] 25) rfl)))
  have Y1 := Lib.hid (blk_old (o := .cells #[.slice none 0 0, .int .i64 0] 25) (blk_at (w := w.alloc (.cells #[.slice (some ⟨bl, off, none⟩) 4 cap, .int .i64 k] 25)) (g := w.heap.size + 1) (o := .cells #[.slice q 4 cq, .int .i64 l] 25) (by simp)))
  have Y2 := Lib.hid (blk_at (w := (w.alloc (.cells #[.slice (some ⟨bl, off, none⟩) 4 cap, .int .i64 k] 25)).alloc (.cells #[.slice q 4 cq, .int .i64 l] 25)) (g := w.heap.size + 1 + 1) (o := .cells #[.slice none 0 0, .int .i64 0] 25) (by simp))
  replace h0 := E0.out.keep h0
  replace h1 := E0.out.keep h1
  replace h2 := E0.out.keep h2
  replace h3 := E0.out.keep h3
  go_enter Try.func69, Try.ntmps69
  go_wp2_with (fail)
  generalize ((w.alloc (.cells #[.slice (some ⟨bl, off, none⟩) 4 cap, .int .i64 k] 25)).alloc (.cells #[.slice q 4 cq, .int .i64 l] 25)).alloc (.cells #[.slice none 0 0, .int .i64 0] 25) = W0 at *
  generalize hg0 : w.heap.size = g0 at *
  have HG0 := Lib.hid hg0; clear hg0
  have hlt : g0 + 1 + 1 < W0.heap.size := lt_of_block Y2.out
  have hl0 : g0 < W0.heap.size := by omega
  obtain ⟨x0, x1, -, -⟩ := blk2 Y0.out
  have z0 := ((Ext.refl W0).alloc (.cells #[] 3)).drew.keep x0
  have z1 := ((Ext.refl W0).alloc (.cells #[] 3)).drew.keep x1
  have d0 := (Ext.refl W0).drew.keep x0
  have d1 := (Ext.refl W0).drew.keep x1
  have H0 := Lib.hid h0; have H1 := Lib.hid h1; have H2 := Lib.hid h2; have H3 := Lib.hid h3
  clear h0 h1 h2 h3
  have oa : (W0.alloc (.cells #[] 3)).drew.ownsRow W0.heap.size 3 1 (.slice (some ⟨W0.heap.size, 0, none⟩) 0 0) 0 [] := World.ownsRow_made W0 #[] 0 (Nat.le_refl _) (Nat.zero_le _) rfl
  have ob : ((W0.alloc (.cells #[] 3)).alloc (.cells #[.slice none 0 0, .int .i64 0] 25)).drew.ownsRow W0.heap.size 3 1 (.slice (some ⟨W0.heap.size, 0, none⟩) 0 0) 0 [] := (World.ownsRow.alloc (w := W0.alloc (.cells #[] 3)) (World.ownsRow_made W0 #[] 0 (Nat.le_refl _) (Nat.zero_le _) rfl) (.cells #[.slice none 0 0, .int .i64 0] 25)).drew
  have oc : ((W0.alloc (.cells #[.slice none 0 0, .int .i64 0] 25)).alloc (.cells #[] 3)).drew.ownsRow (W0.heap.size + 1) 3 1 (.slice (some ⟨W0.heap.size + 1, 0, none⟩) 0 0) 0 [] := by
    have := World.ownsRow_made (base := W0.heap.size + 1) (size := 1) (e := 3) (W0.alloc (.cells #[.slice none 0 0, .int .i64 0] 25)) #[] 0 (by simp) (Nat.zero_le _) rfl
    rw [World.size_alloc] at this
    exact this.drew
  have OA := Lib.hid oa; have OB := Lib.hid ob; have OC := Lib.hid oc
  clear oa ob oc
  have HK : ∀ W, Ext W0 W → ∀ j u, [Value.int .i64 a, .int .i64 b, .int .i64 c, .int .i64 d][j]? = some u → W.cell? ((⟨bl, off, none⟩ : Addr).add j) = some u := by
    intro W hE j u hu
    match j, hu with
    | 0, hu => simp at hu; subst hu; exact hE.keep H0.out
    | 1, hu => simp at hu; subst hu; exact hE.keep H1.out
    | 2, hu => simp at hu; subst hu; exact hE.keep H2.out
    | 3, hu => simp at hu; subst hu; exact hE.keep H3.out
  go_cut [7] (fun s7 wc => ∃ gr p c', s7 = .pointer (some ⟨gr, 0, none⟩) ∧ wc.heap[gr]? = some (.cells #[.slice p 4 c', .int .i64 k] 25 (0, 0)) ∧ IntsOwn W0.heap.size wc (.slice p 4 c') [a, b, c, d] ∧ Ext W0 wc ∧ W0.heap.size ≤ gr)
  case first =>
    go_region_law (first
      | (refine step_append_lies _ rfl (.tmp 8) (.tmp 10) 23 rfl W0.heap.size 3 i0 (.int .i64 0) 1 8 underSliceInt hi hz0 hz1 hz2 rfl (by decide) (.slice (some ⟨W0.heap.size, 0, none⟩) 0 0) 0 [] rfl OA.out ⟨bl, off, none⟩ 4 cap [.int .i64 a, .int .i64 b, .int .i64 c, .int .i64 d] rfl rfl (HK _ ((Ext.refl W0).alloc (.cells #[] 3)).drew) (by intro u hu; simp at hu; rcases hu with rfl | rfl | rfl | rfl <;> rfl) (by omega) (by unfold maxLen; omega) (by omega) (by simp <;> omega) _ rfl ?_; intro g cap' w1 hown hgrow hgeq _; have EX := Ext.grown (c := w1) (((Ext.refl W0).alloc (.cells #[] 3)).drew) hgrow (fun b hb => by have hb' : W0.heap.size = b := Option.some.inj hb; omega); have x1' := EX.keep x1; have x1'' := (EX.alloc (.cells #[.slice none 0 0, .int .i64 0] 25)).keep x1; have hl1 : g0 < w1.heap.size := Nat.lt_of_lt_of_le hl0 EX.size_le)
      | (refine step_append_lies _ rfl (.tmp 8) (.tmp 10) 23 rfl (W0.heap.size + 1) 3 i0 (.int .i64 0) 1 8 underSliceInt hi hz0 hz1 hz2 rfl (by decide) (.slice (some ⟨W0.heap.size + 1, 0, none⟩) 0 0) 0 [] rfl OC.out ⟨bl, off, none⟩ 4 cap [.int .i64 a, .int .i64 b, .int .i64 c, .int .i64 d] rfl rfl (HK _ (((Ext.refl W0).alloc (.cells #[.slice none 0 0, .int .i64 0] 25)).alloc (.cells #[] 3)).drew) (by intro u hu; simp at hu; rcases hu with rfl | rfl | rfl | rfl <;> rfl) (by omega) (by unfold maxLen; omega) (by omega) (by simp <;> omega) _ rfl ?_; intro g cap' w1 hown hgrow hgeq _; have EX := Ext.grown (c := w1) ((((Ext.refl W0).alloc (.cells #[.slice none 0 0, .int .i64 0] 25)).alloc (.cells #[] 3)).drew) hgrow (fun b hb => by have hb' : W0.heap.size + 1 = b := Option.some.inj hb; omega); have x1' := EX.keep x1; have x1'' := (EX.alloc (.cells #[.slice none 0 0, .int .i64 0] 25)).keep x1; have hl1 : g0 < w1.heap.size := Nat.lt_of_lt_of_le hl0 EX.size_le; have rb' := (grownBy_blk hgrow (blk_old (o := (.cells #[] 3)) (blk_at (w := W0) (o := (.cells #[.slice none 0 0, .int .i64 0] 25)) (g := W0.heap.size) rfl)) (fun e => by have e' : W0.heap.size = W0.heap.size + 1 := Option.some.inj e; omega)); have rb := blk2 rb'; have r0 := rb.1; have r1 := rb.2.1; have f0 := rb.2.2.1; have f1 := rb.2.2.2; clear rb; have hgne : g ≠ W0.heap.size := (by rcases hgeq with e | e; (have e' : W0.heap.size + 1 = g := Option.some.inj e; omega); (simp at e; omega)))
      | (refine step_append_lies _ rfl (.tmp 8) (.tmp 10) 23 rfl W0.heap.size 3 i0 (.int .i64 0) 1 8 underSliceInt hi hz0 hz1 hz2 rfl (by decide) (.slice (some ⟨W0.heap.size, 0, none⟩) 0 0) 0 [] rfl OB.out ⟨bl, off, none⟩ 4 cap [.int .i64 a, .int .i64 b, .int .i64 c, .int .i64 d] rfl rfl (HK _ (((Ext.refl W0).alloc (.cells #[] 3)).alloc (.cells #[.slice none 0 0, .int .i64 0] 25)).drew) (by intro u hu; simp at hu; rcases hu with rfl | rfl | rfl | rfl <;> rfl) (by omega) (by unfold maxLen; omega) (by omega) (by simp <;> omega) _ rfl ?_; intro g cap' w1 hown hgrow hgeq _; have EX := Ext.grown (c := w1) ((((Ext.refl W0).alloc (.cells #[] 3)).alloc (.cells #[.slice none 0 0, .int .i64 0] 25)).drew) hgrow (fun b hb => by have hb' : W0.heap.size = b := Option.some.inj hb; omega); have x1' := EX.keep x1; have x1'' := (EX.alloc (.cells #[.slice none 0 0, .int .i64 0] 25)).keep x1; have hl1 : g0 < w1.heap.size := Nat.lt_of_lt_of_le hl0 EX.size_le; have rb' := (grownBy_blk hgrow (blk_at (w := W0.alloc (.cells #[] 3)) (o := (.cells #[.slice none 0 0, .int .i64 0] 25)) (g := W0.heap.size + 1) (by simp)) (fun e => by have e' : W0.heap.size + 1 = W0.heap.size := Option.some.inj e; omega)); have rb := blk2 rb'; have r0 := rb.1; have r1 := rb.2.1; have f0 := rb.2.2.1; have f1 := rb.2.2.2; clear rb; have hgne : g ≠ W0.heap.size + 1 := (by rcases hgeq with e | e; (have e' : W0.heap.size = g := Option.some.inj e; omega); (simp at e; omega))))
    all_goals go_wp2_with (fail)
    all_goals go_meet
    all_goals first
      | exact ⟨_, _, _, rfl, blk_at rfl, (IntsOwn.mk hown rfl).ext ((Ext.refl _).alloc _), EX.alloc _, EX.size_le⟩
      | exact ⟨_, _, _, rfl, blk2_set rb', IntsOwn.mk (ownsRow_off (ownsRow_off hown hgne _) hgne _) rfl, (EX.setAt (by omega) _).setAt (by omega) _, by omega⟩
      | exact ⟨_, _, _, rfl, blk2_set rb', IntsOwn.weak (B := W0.heap.size + 1) (IntsOwn.mk (ownsRow_off (ownsRow_off hown hgne _) hgne _) rfl) (by omega), (EX.setAt (by omega) _).setAt (by omega) _, by omega⟩
  case rest =>
    obtain ⟨gr, p, c', rfl, BR, hv', EX, hgr⟩ := hcut
    obtain ⟨g, rfl, hg0, hg1, hcell, hfr, hset⟩ := hv'.opened rfl (by omega)
    have hne := own_ne hv' BR
    have HS := Lib.hid (hset v.toNat 0)
    have hc := hcell _ _ HZ.out
    have hf := hfr v.toNat
    obtain ⟨r0, r1, -, -⟩ := blk2 BR
    have HV := Lib.hid hv
    obtain ⟨n, hn⟩ := Int.eq_ofNat_of_zero_le hv.1
    subst hn
    have hn4 : n < 4 := by omega
    rw [Int.toNat_natCast] at hc hf HS HZ HBB
    have EX5 := EX.setAt (g := g) (o := n) hg0 (.int .i64 0)
    have hz5 := HK _ EX5 n (.int .i64 z) (by
      have := HZ.out
      match n, this with
      | 0, this => simpa using this
      | 1, this => simpa using this
      | 2, this => simpa using this
      | 3, this => simpa using this)
    rw [Addr.add_lit] at hz5
    have q0 := (cell_setAt (o := n) (o' := 0) (.int .i64 0) (Ne.symm hne)).trans r0
    have q1 := (cell_setAt (o := n) (o' := 1) (.int .i64 0) (Ne.symm hne)).trans r1
    have Y15 := EX5.blk Y1.out
    have Y25 := Lib.hid (EX5.blk Y2.out)
    obtain ⟨y0, y1, -, -⟩ := blk2 Y15
    have x0' := EX5.keep x0
    have HEX := Lib.hid EX5
    clear BR hv' EX hcell hfr hset Y15 EX5 z0 z1 d0 d1 x1 hv
    go_wp2_with (fail)
    generalize wc.setCell ⟨g, n, none⟩ (.int .i64 0) = W5 at *
    have hi0 : (0 : Int) ≤ (n : Int) := by omega
    have hi1 : (n : Int) < 4 := by omega
    have hi2 : ¬ ((n : Int) < 0) := by omega
    have hi3 : ¬ (4 ≤ (n : Int)) := by omega
    have hi4 : ((n : Int) < (4 : Nat)) := by omega
    have hD := (Ext.refl W5).drew
    have h02 : g0 + 1 + 1 < W0.heap.size := hlt
    have ngr : gr ≠ g0 + 1 + 1 := by omega
    have ng1 : g0 + 1 ≠ g0 + 1 + 1 := by omega
    have ng0 : g0 ≠ g0 + 1 + 1 := by omega
    have ngb : bl ≠ g0 + 1 + 1 := by omega
    have Y26 := Lib.hid (hD.blk Y25.out)
    go_region_held3 (fun W => W.cell? ⟨gr, 0, none⟩ = some (.slice (some ⟨g, 0, none⟩) 4 c') ∧ W.cell? ⟨gr, 1, none⟩ = some (.int .i64 k) ∧ W.cell? ⟨g0 + 1, 0, none⟩ = some (.slice q 4 cq) ∧ W.cell? ⟨g0 + 1, 1, none⟩ = some (.int .i64 l) ∧ W.cell? ⟨g0, 0, none⟩ = some (.slice (some ⟨bl, off, none⟩) 4 cap) ∧ W.cell? ⟨bl, off + n, none⟩ = some (.int .i64 z))
      (first | with_reducible exact ⟨q0, q1, y0, y1, x0', hz5⟩ | with_reducible exact ⟨hD.keep q0, hD.keep q1, hD.keep y0, hD.keep y1, hD.keep x0', hD.keep hz5⟩ | with_reducible exact ⟨hE6.keep q0, hE6.keep q1, hE6.keep y0, hE6.keep y1, hE6.keep x0', hE6.keep hz5⟩ | exact ⟨(cell_setAt _ ngr).trans ((cell_setAt _ ngr).trans (hE6.keep q0)), (cell_setAt _ ngr).trans ((cell_setAt _ ngr).trans (hE6.keep q1)), (cell_setAt _ ng1).trans ((cell_setAt _ ng1).trans (hE6.keep y0)), (cell_setAt _ ng1).trans ((cell_setAt _ ng1).trans (hE6.keep y1)), (cell_setAt _ ng0).trans ((cell_setAt _ ng0).trans (hE6.keep x0')), (cell_setAt _ ngb).trans ((cell_setAt _ ngb).trans (hE6.keep hz5))⟩)
      (first
        | (go_at_call 112; (with_reducible refine (l1Combine_any (.slice (some ⟨g, 0, none⟩) 4 c') (.slice q 4 cq) ([a, b, c, d].set n 0) ys k l 1 z _ (HS.out.at.ext hD) (HT2.out.ext ((E0.out.trans HEX.out).trans hD)) (by simp) HY.out HKL.out HBB.out).mono ?_); rintro e W6 ⟨p6, c6, rfl, hv6, hE⟩; have hE6 := hD.trans hE; have Z2 := blk2 (hE6.blk Y25.out); have s0 := Z2.1; have s1 := Z2.2.1; have f0 := Z2.2.2.1; have f1 := Z2.2.2.2; clear Z2))
    have HV6 := Lib.hid hv6
    have h26 : g0 + 1 + 1 < W5.heap.size := lt_of_block Y25.out
    have HE6 := Lib.hid ((E0.out.trans HEX.out).trans hE6)
    clear hE6 hE hv6 hD
    go_wp2
    refine bodyPost_ret (v := .agg #[.slice p6 4 c6, .int .i64 (1 * k + z * l)]) (by simp [results, Try.results69, go_sem, s0, s1]) rfl ⟨_, _, rfl, IntsOwn.weak (B := g0 + 1 + 1 + 1) ?_ (by rw [HG0.out]; omega), ?_⟩
    · exact ((HV6.out.weak (B' := g0 + 1 + 1 + 1) h26).setAt (by omega) _).setAt (by omega) _
    · exact (HE6.out.setAt (by rw [HG0.out]; omega) _).setAt (by rw [HG0.out]; omega) _
end Go.Proofs.Ytabkhiakekammaa
