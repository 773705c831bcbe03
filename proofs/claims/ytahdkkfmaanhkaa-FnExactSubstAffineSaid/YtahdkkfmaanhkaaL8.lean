/- FnExactSubstAffine: SubstAffine answers as its model at every argument. -/
import Derived.Test.YtahdkkfmaanhkaaA18
import Derived.Test.YtahdkkfmaanhkaaA11
import Derived.Test.YtahdkkfmaanhkaaOp
import Derived.Deep.RegionHeld3
import Derived.Deep.RegionWith
import Derived.Deep.DeepCutAuto
namespace Go.Proofs.Ytahdkkfmaanhkaa
open Go.RowKit Go.ChangeShapes Go.WideShapes Go.ChangeAt Go.Joins

theorem chk_len (xs : List Int) (c : Int) : (chk xs c).1.length ≤ 4 := by
  unfold chk; split
  · rename_i h; simp [affValidB_len h]
  · simp
theorem substR_len (xs ys : List Int) (k l v : Int) : (substR xs k v ys l).1.length ≤ 4 := by
  unfold substR; split
  · exact chk_len _ _
  · simp
theorem szI_bd' {l : Int} {n : Nat} (h0 : 0 ≤ l) (h1 : l ≤ 1048576) (h : ¬ szI l n < 0) : n ≤ 1048576 ∧ 0 ≤ szI l n ∧ szI l n ≤ 1048576 := by
  unfold szI at *; split at h <;> omega

/-- A row of the call's own stays where an older one is written. -/
theorem IntsOwn.above {B : Nat} {w w' : World} {v u : Value} {xs : List Int} (h : IntsOwn B w v xs) (hu : ∀ b, u.ownBlock = some b → b < B) (hg : w.grownBy w' u.ownBlock) : IntsOwn B w' v xs := by
  refine World.ownsRow.kept h hg ?_
  cases hb : v.ownBlock with
  | none => exact .inl rfl
  | some b => exact .inr (fun e => by have h1 := (h.lt b hb).1; have h2 := hu b e.symm; omega)

set_option maxHeartbeats 8000000 in
set_option maxRecDepth 100000 in
theorem walk0FnExactSubstAffine (s t : Value) (xs ys : List Int) (c d v : Int) (w : World) (hs : IntsAt w s xs) (ht : IntsAt w t ys) (hm : xs.length ≤ 1048576) (hz0 : 0 ≤ szI 1048576 xs.length) (hz1 : szI 1048576 xs.length ≤ 1048576) (hy : ys.length ≤ 1048576) (hzz : 0 ≤ szI (szI 1048576 xs.length) ys.length) :
    Calls Try.prog 7 #[.agg #[s, .int .i64 c], .int .i64 v, .agg #[t, .int .i64 d]] w fun e w' => e = .returned (.bool true) ∧ Ext w w' := by
  have HS := Lib.hid hs; have HT := Lib.hid ht; clear hs ht
  obtain ⟨p, k, rfl, -, -⟩ := HS.out
  obtain ⟨q, l, rfl, -, -⟩ := HT.out
  obtain ⟨r1, r2, r3, hr⟩ : ∃ r1 r2 r3, substR xs c v ys d = (r1, r2, r3) := ⟨_, _, _, rfl⟩
  have hlen : r1.length ≤ 4 := by have := substR_len xs ys c d v; rw [hr] at this; exact this
  have HR := Lib.hid hr; clear hr
  generalize hn : r1.length = n at *
  have HN := Lib.hid hn; clear hn
  generalize hga : w.heap.size = ga at *
  have HGA := Lib.hid hga; clear hga
  go_enter Try.func7, Try.ntmps7
  go_wp2_with (fail)
  refine (szAffine_any _ _ _ _ _ _ (by omega) (by omega) (by omega)).mono ?_
  rintro e W1 ⟨rfl, hE⟩
  have E1 : Hid (Ext w W1) := (((Ext.refl w).alloc _).alloc _).trans hE
  have BA := hE.blk (g := ga) (blk_old (blk_at HGA.out.symm))
  have BB := hE.blk (g := ga + 1) (blk_at (by simp [HGA.out]))
  obtain ⟨a0, a1, -, -⟩ := blk2 BA
  obtain ⟨b0, b1, -, -⟩ := blk2 BB
  clear hE BA BB
  generalize szI 1048576 xs.length = z at *
  rw [HGA.out]
  go_wp2_with (fail)
  refine (szAffine_any _ _ _ _ _ _ (by omega) (by omega) (by omega)).mono ?_
  rintro e W2 ⟨rfl, hE⟩
  have E2 : Hid (Ext w W2) := E1.out.trans hE
  replace a0 := hE.keep a0
  replace a1 := hE.keep a1
  replace b0 := hE.keep b0
  replace b1 := hE.keep b1
  clear hE
  generalize szI z ys.length = z2 at *
  go_upto_region 8 with (fail)
  go_cut [8, 9] (fun s6 s7 wc => ∃ g p5 c5, s6 = .pointer (some ⟨g, 0, none⟩) ∧ s7 = .bool r3 ∧ wc.heap[g]? = some (.cells #[.slice p5 n c5, .int .i64 r2] 25 (0, 0)) ∧ IntsOwn W2.heap.size wc (.slice p5 n c5) r1 ∧ Ext W2 wc ∧ W2.heap.size ≤ g)
  case first =>
    go_region_held3 (fun W => W.cell? ⟨ga, 0, none⟩ = some (.slice p xs.length k) ∧ W.cell? ⟨ga, 1, none⟩ = some (.int .i64 c) ∧ W.cell? ⟨ga + 1, 0, none⟩ = some (.slice q ys.length l) ∧ W.cell? ⟨ga + 1, 1, none⟩ = some (.int .i64 d) ∧ Ext W2 W)
      (first | exact ⟨((Ext.refl W2).drew).keep a0, ((Ext.refl W2).drew).keep a1, ((Ext.refl W2).drew).keep b0, ((Ext.refl W2).drew).keep b1, (Ext.refl W2).drew⟩ | exact ⟨(((Ext.refl W2).alloc _).drew).keep a0, (((Ext.refl W2).alloc _).drew).keep a1, (((Ext.refl W2).alloc _).drew).keep b0, (((Ext.refl W2).alloc _).drew).keep b1, ((Ext.refl W2).alloc _).drew⟩ | exact ⟨(g3).keep a0, (g3).keep a1, (g3).keep b0, (g3).keep b1, g3⟩ | exact ⟨(g3.alloc _).keep a0, (g3.alloc _).keep a1, (g3.alloc _).keep b0, (g3.alloc _).keep b1, g3.alloc _⟩ | exact ⟨(g4).keep a0, (g4).keep a1, (g4).keep b0, (g4).keep b1, g4⟩ | exact ⟨(g4.alloc _).keep a0, (g4.alloc _).keep a1, (g4.alloc _).keep b0, (g4.alloc _).keep b1, g4.alloc _⟩ | exact ⟨(g5).keep a0, (g5).keep a1, (g5).keep b0, (g5).keep b1, g5⟩ | exact ⟨(g5.alloc _).keep a0, (g5.alloc _).keep a1, (g5.alloc _).keep b0, (g5.alloc _).keep b1, g5.alloc _⟩ | exact ⟨((g5.setAt (g := W2.heap.size) (Nat.le_refl _) _).setAt (g := W2.heap.size) (Nat.le_refl _) _).keep a0, ((g5.setAt (g := W2.heap.size) (Nat.le_refl _) _).setAt (g := W2.heap.size) (Nat.le_refl _) _).keep a1, ((g5.setAt (g := W2.heap.size) (Nat.le_refl _) _).setAt (g := W2.heap.size) (Nat.le_refl _) _).keep b0, ((g5.setAt (g := W2.heap.size) (Nat.le_refl _) _).setAt (g := W2.heap.size) (Nat.le_refl _) _).keep b1, (g5.setAt (g := W2.heap.size) (Nat.le_refl _) _).setAt (g := W2.heap.size) (Nat.le_refl _) _⟩ | exact ⟨((g5.setAt (g := w3.heap.size) g3.size_le _).setAt (g := w3.heap.size) g3.size_le _).keep a0, ((g5.setAt (g := w3.heap.size) g3.size_le _).setAt (g := w3.heap.size) g3.size_le _).keep a1, ((g5.setAt (g := w3.heap.size) g3.size_le _).setAt (g := w3.heap.size) g3.size_le _).keep b0, ((g5.setAt (g := w3.heap.size) g3.size_le _).setAt (g := w3.heap.size) g3.size_le _).keep b1, (g5.setAt (g := w3.heap.size) g3.size_le _).setAt (g := w3.heap.size) g3.size_le _⟩ | exact ⟨((g5.setAt (g := w4.heap.size) g4.size_le _).setAt (g := w4.heap.size) g4.size_le _).keep a0, ((g5.setAt (g := w4.heap.size) g4.size_le _).setAt (g := w4.heap.size) g4.size_le _).keep a1, ((g5.setAt (g := w4.heap.size) g4.size_le _).setAt (g := w4.heap.size) g4.size_le _).keep b0, ((g5.setAt (g := w4.heap.size) g4.size_le _).setAt (g := w4.heap.size) g4.size_le _).keep b1, (g5.setAt (g := w4.heap.size) g4.size_le _).setAt (g := w4.heap.size) g4.size_le _⟩ | fail)
      (first
        | (go_at_call 30; (with_reducible refine (toAffine_any (.slice p xs.length k) xs c _ (HS.out.ext (E2.out.trans ‹_ ∧ _ ∧ _ ∧ _ ∧ Ext W2 _›.2.2.2.2)) hm).mono ?_); rintro e w3 ⟨p3, c3, rfl, hv3, hE3⟩; have g3 : Ext W2 w3 := ‹_ ∧ _ ∧ _ ∧ _ ∧ Ext W2 _›.2.2.2.2.trans hE3; try have qb := hE3.blk (g := W2.heap.size) (o := .cells #[.slice none 0 0, .int .i64 0] 25 (0, 0)) (blk_at rfl))
        | (go_at_call 30; (with_reducible refine (toAffine_any (.slice q ys.length l) ys d _ (HT.out.ext (E2.out.trans ‹_ ∧ _ ∧ _ ∧ _ ∧ Ext W2 _›.2.2.2.2)) hy).mono ?_); rintro e w4 ⟨p4, c4, rfl, hv4, hE4⟩; have g4 : Ext W2 w4 := ‹_ ∧ _ ∧ _ ∧ _ ∧ Ext W2 _›.2.2.2.2.trans hE4; first | have qb' := hE4.blk qb | have qb' := hE4.blk (g := w3.heap.size) (o := .cells #[.slice none 0 0, .int .i64 0] 25 (0, 0)) (blk_at rfl) | skip)
        | (go_at_call 23; (with_reducible refine (specSubstAffine_any (.slice p3 xs.length c3) (.slice p4 ys.length c4) xs ys c d v _ (by first | exact hv3.at.ext hE4 | exact (hv3.at.ext hE4).ext ((Ext.refl w4).alloc _) | exact hv3.at.ext (((Ext.refl w3).alloc _).trans hE4)) (by first | exact hv4.at | exact hv4.at.ext ((Ext.refl w4).alloc _))).mono ?_); rw [HR.out]; rintro e w5 ⟨⟨p5, c5, rfl, hv5⟩, hE5⟩; have g5 : Ext W2 w5 := ‹_ ∧ _ ∧ _ ∧ _ ∧ Ext W2 _›.2.2.2.2.trans hE5; dsimp only at hv5 ⊢; rw [HN.out] at hv5 ⊢; first | (have qc := hE5.blk qb'; obtain ⟨q0, q1, f0, f1⟩ := blk2 qc) | (have qc := hE5.blk (g := w4.heap.size) (o := .cells #[.slice none 0 0, .int .i64 0] 25 (0, 0)) (blk_at rfl); obtain ⟨q0, q1, f0, f1⟩ := blk2 qc) | skip))
    all_goals go_wp2_with (fail)
    all_goals go_meet
    all_goals first
      | exact ⟨_, p5, c5, rfl, rfl, blk_at rfl, (hv5.weak g4.size_le).ext ((Ext.refl _).alloc _), g5.alloc _, g5.size_le⟩
      | exact ⟨_, p5, c5, rfl, rfl, blk2_set qc, IntsOwn.weak (B := w4.heap.size + 1) (((hv5.weak (B' := w4.heap.size + 1) (by simp)).setAt (Nat.lt_succ_self _) _).setAt (Nat.lt_succ_self _) _) (Nat.le_succ_of_le g4.size_le), (g5.setAt g4.size_le _).setAt g4.size_le _, g4.size_le⟩
      | exact ⟨_, p5, c5, rfl, rfl, blk2_set qc, IntsOwn.weak (B := w4.heap.size) ((hv5.setAt (lt_of_block qb') _).setAt (lt_of_block qb') _) g4.size_le, (g5.setAt g3.size_le _).setAt g3.size_le _, g3.size_le⟩
      | exact ⟨_, p5, c5, rfl, rfl, blk2_set qc, IntsOwn.weak (B := w4.heap.size) ((hv5.setAt (lt_of_block qb') _).setAt (lt_of_block qb') _) g4.size_le, (g5.setAt (Nat.le_refl _) _).setAt (Nat.le_refl _) _, Nat.le_refl _⟩
  case rest =>
    obtain ⟨gw, p5, c5, rfl, rfl, BW, hv5, g5, hgw⟩ := hcut
    have E5 : Hid (Ext w wc) := E2.out.trans g5
    replace a0 := g5.keep a0
    replace a1 := g5.keep a1
    replace b0 := g5.keep b0
    replace b1 := g5.keep b1
    obtain ⟨w0, w1', -, -⟩ := blk2 BW
    have hgwlt : Hid (gw < wc.heap.size) := lt_of_block BW
    have HW5 := Lib.hid hv5
    have hwb : Hid (∀ b, (Value.slice p5 n c5).ownBlock = some b → b < wc.heap.size) := hv5.block_lt
    have hab0 : Hid (ga + 1 < wc.heap.size) := World.block_lt_of_cell? wc _ b0
    clear BW hv5 g5
    go_wp2_with (fail)
    refine (toAffine_any (.slice p xs.length k) xs c _ (HS.out.ext E5.out) hm).mono ?_
    rintro e w6 ⟨p6, c6, rfl, hv6, hE⟩
    have E6 : Hid (Ext w w6) := E5.out.trans hE
    replace a0 := hE.keep a0
    replace a1 := hE.keep a1
    replace b0 := hE.keep b0
    replace b1 := hE.keep b1
    replace w0 := hE.keep w0
    replace w1' := hE.keep w1'
    have hs6 := hE.size_le
    have hltb : ga + 1 < w6.heap.size := World.block_lt_of_cell? w6 _ b0
    have HX6 := Lib.hid hv6
    have hx6b : Hid (∀ b, (Value.slice p6 xs.length c6).ownBlock = some b → b < w6.heap.size) := hv6.block_lt
    have HW6 := Lib.hid (HW5.out.ext hE)
    clear hE hv6 HW5
    go_wp2_with (fail)
    refine (toAffine_any (.slice q ys.length l) ys d _ (HT.out.ext (E6.out.alloc _)) hy).mono ?_
    rintro e w7 ⟨p7, c7, rfl, hv7, hE⟩
    have g7 : Ext w6 w7 := ((Ext.refl w6).alloc _).trans hE
    have E7 : Hid (Ext w w7) := E6.out.trans g7
    have x0 := hE.keep (new0 w6 _ _ _)
    have x1 := hE.keep (new1 w6 _ _ _ _)
    replace a0 := g7.keep a0
    replace a1 := g7.keep a1
    replace b0 := g7.keep b0
    replace b1 := g7.keep b1
    replace w0 := g7.keep w0
    replace w1' := g7.keep w1'
    have hltx : w6.heap.size < w7.heap.size := World.block_lt_of_cell? w7 _ x0
    have HX7 := Lib.hid (HX6.out.ext g7)
    have HY7 := Lib.hid (hv7.weak (B' := w6.heap.size + 1) (by simp))
    have hy7b : Hid (∀ b, (Value.slice p7 ys.length c7).ownBlock = some b → b < w7.heap.size) := hv7.block_lt
    have HW7 := Lib.hid (HW6.out.ext g7)
    have hs5 : Hid (wc.heap.size ≤ w6.heap.size) := hs6
    clear hE hv7 hltb g7 HX6 HW6 hs6
    generalize w6.heap.size = gx at *
    go_wp2_with (fail)
    refine (SubstAffine_any (.slice p6 xs.length c6) (.slice p7 ys.length c7) xs ys c d v _ (HX7.out.at.ext ((Ext.refl w7).alloc _)) (HY7.out.at.ext ((Ext.refl w7).alloc _))).mono ?_
    rw [HR.out]
    rintro e w8 ⟨⟨p8, c8, rfl, hv8⟩, hE⟩
    dsimp only at hv8 ⊢
    rw [HN.out] at hv8 ⊢
    have g8 : Ext w7 w8 := ((Ext.refl w7).alloc _).trans hE
    have E8 : Hid (Ext w w8) := E7.out.trans g8
    have y0 := hE.keep (new0 w7 _ _ _)
    have y1 := hE.keep (new1 w7 _ _ _ _)
    replace x0 := g8.keep x0
    replace x1 := g8.keep x1
    replace a0 := g8.keep a0
    replace a1 := g8.keep a1
    replace b0 := g8.keep b0
    replace b1 := g8.keep b1
    replace w0 := g8.keep w0
    replace w1' := g8.keep w1'
    have HX8 := Lib.hid (HX7.out.ext g8)
    have HY8 := Lib.hid (HY7.out.ext g8)
    have HW8 := Lib.hid (HW7.out.ext g8)
    have HV8 := Lib.hid (hv8.weak (B' := w7.heap.size + 1) (by simp))
    have hv8b : Hid (∀ b, (Value.slice p8 n c8).ownBlock = some b → b < w8.heap.size) := hv8.block_lt
    have hlty : w7.heap.size < w8.heap.size := World.block_lt_of_cell? w8 _ y0
    have hlw : gw < w8.heap.size := World.block_lt_of_cell? w8 _ w0
    clear hE hv8 g8 HX7 HY7 HW7
    generalize w7.heap.size = gy at *
    go_wp2_with (fail)
    refine (eqAffine_any (.slice p8 n c8) (.slice p5 n c5) r1 r1 r2 r2 _ (HV8.out.at.ext ((Ext.refl w8).alloc _)) (HW8.out.at.ext ((Ext.refl w8).alloc _))).mono ?_
    rw [affEqB_self]
    rintro e w9 ⟨rfl, hE⟩
    have g9 : Ext w8 w9 := ((Ext.refl w8).alloc _).trans hE
    have E9 : Hid (Ext w w9) := E8.out.trans g9
    have z0 := hE.keep (new0 w8 _ _ _)
    have z1 := hE.keep (new1 w8 _ _ _ _)
    replace x0 := g9.keep x0
    replace x1 := g9.keep x1
    replace y0 := g9.keep y0
    replace y1 := g9.keep y1
    replace a0 := g9.keep a0
    replace a1 := g9.keep a1
    replace b0 := g9.keep b0
    replace b1 := g9.keep b1
    replace w0 := g9.keep w0
    replace w1' := g9.keep w1'
    have HX9 := Lib.hid (HX8.out.ext g9)
    have HY9 := Lib.hid (HY8.out.ext g9)
    have HW9 := Lib.hid (HW8.out.ext g9)
    have HV9 := Lib.hid (HV8.out.ext g9)
    clear hE g9 HX8 HY8 HW8 HV8
    generalize w8.heap.size = gz at *
    have heq : affEqB xs c xs c = true := affEqB_self xs c
    have heq2 : affEqB ys d ys d = true := affEqB_self ys d
    go_wp2_with (fail)
    go_region_held3 (fun W => W.cell? ⟨gx, 0, none⟩ = some (.slice p6 xs.length c6) ∧ W.cell? ⟨gx, 1, none⟩ = some (.int .i64 c) ∧ W.cell? ⟨ga, 0, none⟩ = some (.slice p xs.length k) ∧ W.cell? ⟨ga, 1, none⟩ = some (.int .i64 c))
      (first | exact ⟨x0, x1, a0, a1⟩ | exact ⟨g3.keep x0, g3.keep x1, g3.keep a0, g3.keep a1⟩ | exact ⟨g5.keep x0, g5.keep x1, g5.keep a0, g5.keep a1⟩ | fail)
      (first
        | (go_at_call 30; (with_reducible refine (toAffine_any (.slice p xs.length k) xs c _ (HS.out.ext E9.out.drew) hm).mono ?_); rintro e wa ⟨p9, c9, rfl, hv9, hE9⟩; have g3 := (Ext.refl w9).drew.trans hE9)
        | (go_at_call 31; (with_reducible refine (eqAffine_any (.slice p6 xs.length c6) (.slice p9 xs.length c9) xs xs c c _ (HX9.out.at.ext g3) hv9.at).mono ?_); rintro e wb ⟨rfl, hE10⟩; have g5 := g3.trans hE10))
    have E10 : Hid (Ext w wb) := E9.out.trans g5
    replace x0 := g5.keep x0
    replace x1 := g5.keep x1
    replace y0 := g5.keep y0
    replace y1 := g5.keep y1
    replace z0 := g5.keep z0
    replace z1 := g5.keep z1
    replace a0 := g5.keep a0
    replace a1 := g5.keep a1
    replace b0 := g5.keep b0
    replace b1 := g5.keep b1
    replace w0 := g5.keep w0
    replace w1' := g5.keep w1'
    have HX10 := Lib.hid (HX9.out.ext g5)
    have HY10 := Lib.hid (HY9.out.ext g5)
    have HW10 := Lib.hid (HW9.out.ext g5)
    have HV10 := Lib.hid (HV9.out.ext g5)
    clear g3 g5 hE9 hE10 hv9 HX9 HY9 HW9 HV9
    go_wp2_with (fail)
    go_region_held3 (fun W => W.cell? ⟨gy, 0, none⟩ = some (.slice p7 ys.length c7) ∧ W.cell? ⟨gy, 1, none⟩ = some (.int .i64 d) ∧ W.cell? ⟨ga + 1, 0, none⟩ = some (.slice q ys.length l) ∧ W.cell? ⟨ga + 1, 1, none⟩ = some (.int .i64 d))
      (first | exact ⟨y0, y1, b0, b1⟩ | exact ⟨g3.keep y0, g3.keep y1, g3.keep b0, g3.keep b1⟩ | exact ⟨g5.keep y0, g5.keep y1, g5.keep b0, g5.keep b1⟩ | fail)
      (first
        | (go_at_call 30; (with_reducible refine (toAffine_any (.slice q ys.length l) ys d _ (HT.out.ext E10.out.drew) hy).mono ?_); rintro e wd ⟨p11, c11, rfl, hv11, hE11⟩; have g3 := (Ext.refl wb).drew.trans hE11)
        | (go_at_call 31; (with_reducible refine (eqAffine_any (.slice p7 ys.length c7) (.slice p11 ys.length c11) ys ys d d _ (HY10.out.at.ext g3) hv11.at).mono ?_); rintro e we ⟨rfl, hE12⟩; have g5 := g3.trans hE12))
    have E12 : Hid (Ext w we) := E10.out.trans g5
    replace x0 := g5.keep x0
    replace x1 := g5.keep x1
    replace y0 := g5.keep y0
    replace y1 := g5.keep y1
    replace z0 := g5.keep z0
    replace z1 := g5.keep z1
    replace a0 := g5.keep a0
    replace a1 := g5.keep a1
    replace b0 := g5.keep b0
    replace b1 := g5.keep b1
    replace w0 := g5.keep w0
    replace w1' := g5.keep w1'
    have HX12 := Lib.hid (HX10.out.ext g5)
    have HY12 := Lib.hid (HY10.out.ext g5)
    have HW12 := Lib.hid (HW10.out.ext g5)
    have HV12 := Lib.hid (HV10.out.ext g5)
    clear g3 g5 hE11 hE12 hv11 HX10 HY10 HW10 HV10 heq heq2
    go_wp2_with (fail)
    have hsw : Hid (ga ≤ wc.heap.size) := by have := E5.out.size_le; rw [HGA.out] at this; exact this
    have hab : ga + 1 < wc.heap.size := by have := hab0.out; omega
    have hgwlt' := hgwlt.out
    have hsgx := hs5.out
    have hnx : ∀ b, b < wc.heap.size ∨ gx ≤ b → some b ≠ (Value.slice p6 xs.length c6).ownBlock := fun b hb e => by
      have h1 := (HX12.out.lt b e.symm).1
      have h2 := hx6b.out b e.symm
      omega
    have hny : ∀ b, b < gx + 1 ∨ gy ≤ b → some b ≠ (Value.slice p7 ys.length c7).ownBlock := fun b hb e => by
      have h1 := (HY12.out.lt b e.symm).1
      have h2 := hy7b.out b e.symm
      omega
    have hnz : ∀ b, b < gy + 1 ∨ gz ≤ b → some b ≠ (Value.slice p8 n c8).ownBlock := fun b hb e => by
      have h1 := (HV12.out.lt b e.symm).1
      have h2 := hv8b.out b e.symm
      omega
    have HNX := Lib.hid hnx; have HNY := Lib.hid hny; have HNZ := Lib.hid hnz
    clear hnx hny hnz
    have HXm : Hid (we.ownsRow wc.heap.size 3 1 (.slice p6 xs.length c6) xs.length (xs.map (Value.int .i64))) := HX12.out
    refine (markAffine_any wc.heap.size p6 xs.length c6 xs c 1 _ rfl HXm.out (by omega) (by omega)).mono ?_
    rintro e wf ⟨rfl, h1, h2⟩
    replace y0 := h2.cell y0 (HNX.out _ (by dsimp only; omega))
    replace y1 := h2.cell y1 (HNX.out _ (by dsimp only; omega))
    replace z0 := h2.cell z0 (HNX.out _ (by dsimp only; omega))
    replace z1 := h2.cell z1 (HNX.out _ (by dsimp only; omega))
    replace a0 := h2.cell a0 (HNX.out _ (by dsimp only; omega))
    replace a1 := h2.cell a1 (HNX.out _ (by dsimp only; omega))
    replace b0 := h2.cell b0 (HNX.out _ (by dsimp only; omega))
    replace b1 := h2.cell b1 (HNX.out _ (by dsimp only; omega))
    replace w0 := h2.cell w0 (HNX.out _ (by dsimp only; omega))
    replace w1' := h2.cell w1' (HNX.out _ (by dsimp only; omega))
    have E13 : Hid (Ext w wf) := E12.out.grown h2 (fun b hb => by have := (HX12.out.lt b hb).1; have := hsw.out; rw [HGA.out]; omega)
    have HY13 := Lib.hid (HY12.out.above (fun b hb => by have := hx6b.out b hb; omega) h2)
    have HW13 := Lib.hid (HW12.out.beside HX12.out (fun b hb => hwb.out b hb) h2)
    have HV13 := Lib.hid (HV12.out.above (fun b hb => by have := hx6b.out b hb; omega) h2)
    clear h1 h2 HX12 HY12 HW12 HV12 HXm x0 x1
    have hk1 : (0 : Int) ≤ 1 + xs.length := by omega
    have hk2 : (1 : Int) + xs.length ≤ 2000000 := by omega
    generalize (1 : Int) + xs.length = kx at *
    go_wp2_with (fail)
    have HYm : Hid (wf.ownsRow (gx + 1) 3 1 (.slice p7 ys.length c7) ys.length (ys.map (Value.int .i64))) := HY13.out
    refine (markAffine_any (gx + 1) p7 ys.length c7 ys d kx _ rfl HYm.out hk1 (by omega)).mono ?_
    rintro e wg ⟨rfl, h1, h2⟩
    replace z0 := h2.cell z0 (HNY.out _ (by dsimp only; omega))
    replace z1 := h2.cell z1 (HNY.out _ (by dsimp only; omega))
    replace a0 := h2.cell a0 (HNY.out _ (by dsimp only; omega))
    replace a1 := h2.cell a1 (HNY.out _ (by dsimp only; omega))
    replace b0 := h2.cell b0 (HNY.out _ (by dsimp only; omega))
    replace b1 := h2.cell b1 (HNY.out _ (by dsimp only; omega))
    replace w0 := h2.cell w0 (HNY.out _ (by dsimp only; omega))
    replace w1' := h2.cell w1' (HNY.out _ (by dsimp only; omega))
    have E14 : Hid (Ext w wg) := E13.out.grown h2 (fun b hb => by have := (HY13.out.lt b hb).1; have := hsw.out; rw [HGA.out]; omega)
    have HW14 := Lib.hid (HW13.out.beside HY13.out (fun b hb => by have := hwb.out b hb; omega) h2)
    have HV14 := Lib.hid (HV13.out.above (fun b hb => by have := hy7b.out b hb; omega) h2)
    clear h1 h2 HY13 HW13 HV13 HYm y0 y1
    have hk3 : (0 : Int) ≤ kx + ys.length := by omega
    clear hk1 hk2
    generalize kx + (ys.length : Int) = ky at *
    have hkd : decide (ky < 0) = false := by simp; omega
    go_wp2_with (fail)
    refine (eqAffine_any (.slice p8 n c8) (.slice p5 n c5) r1 r1 r2 r2 _ HV14.out.at HW14.out.at).mono ?_
    rw [affEqB_self]
    rintro e wh ⟨rfl, hE⟩
    have E15 : Hid (Ext w wh) := E14.out.trans hE
    replace z0 := hE.keep z0
    replace z1 := hE.keep z1
    replace a0 := hE.keep a0
    replace a1 := hE.keep a1
    replace b0 := hE.keep b0
    replace b1 := hE.keep b1
    replace w0 := hE.keep w0
    replace w1' := hE.keep w1'
    have HW15 := Lib.hid (HW14.out.ext hE)
    have HV15 := Lib.hid (HV14.out.ext hE)
    clear hE HW14 HV14
    go_wp2_with (fail)
    refine (markAffine_any (gy + 1) p8 n c8 r1 r2 1 _ HN.out (HV15.out.row HN.out) (by omega) (by omega)).mono ?_
    rintro e wk ⟨rfl, h1, h2⟩
    replace z0 := h2.cell z0 (HNZ.out _ (by dsimp only; omega))
    replace z1 := h2.cell z1 (HNZ.out _ (by dsimp only; omega))
    replace a0 := h2.cell a0 (HNZ.out _ (by dsimp only; omega))
    replace a1 := h2.cell a1 (HNZ.out _ (by dsimp only; omega))
    replace b0 := h2.cell b0 (HNZ.out _ (by dsimp only; omega))
    replace b1 := h2.cell b1 (HNZ.out _ (by dsimp only; omega))
    replace w0 := h2.cell w0 (HNZ.out _ (by dsimp only; omega))
    replace w1' := h2.cell w1' (HNZ.out _ (by dsimp only; omega))
    have E16 : Hid (Ext w wk) := E15.out.grown h2 (fun b hb => by have := (HV15.out.lt b hb).1; have := hsw.out; rw [HGA.out]; omega)
    have HM16 : Hid (IntsOwn (gy + 1) wk (.slice p8 n c8) (marks 1 n)) := IntsOwn.mk h1 (marks_len 1 n)
    have HW16 := Lib.hid (HW15.out.beside HV15.out (fun b hb => by have := hwb.out b hb; omega) h2)
    clear h1 h2 HV15 HW15
    go_wp2_with (fail)
    refine (heldAffine_any (.slice p8 n c8) n r2 1 _ HM16.out.at (by omega) (by omega)).mono ?_
    rintro e wm ⟨rfl, hE⟩
    replace z0 := hE.keep z0
    replace z1 := hE.keep z1
    replace a0 := hE.keep a0
    replace a1 := hE.keep a1
    replace b0 := hE.keep b0
    replace b1 := hE.keep b1
    replace w0 := hE.keep w0
    replace w1' := hE.keep w1'
    have Em : Hid (Ext w wm) := E16.out.trans hE
    have HM17 := Lib.hid (HM16.out.ext hE)
    have HW17 := Lib.hid (HW16.out.ext hE)
    clear hE HM16 HW16 hkd hk3
    go_upto_region 31 with (fail)
    go_cut [17, 18] (fun s6 s7 wx => ∃ g o5 d5, s6 = .pointer (some ⟨g, 0, none⟩) ∧ s7 = .bool r3 ∧ wx.heap[g]? = some (.cells #[.slice o5 n d5, .int .i64 r2] 25 (0, 0)) ∧ IntsOwn wm.heap.size wx (.slice o5 n d5) r1 ∧ Ext wm wx ∧ wm.heap.size ≤ g)
    case first =>
      go_region_held3 (fun W => W.cell? ⟨ga, 0, none⟩ = some (.slice p xs.length k) ∧ W.cell? ⟨ga, 1, none⟩ = some (.int .i64 c) ∧ W.cell? ⟨ga + 1, 0, none⟩ = some (.slice q ys.length l) ∧ W.cell? ⟨ga + 1, 1, none⟩ = some (.int .i64 d) ∧ Ext wm W)
        (first | exact ⟨((Ext.refl wm).drew).keep a0, ((Ext.refl wm).drew).keep a1, ((Ext.refl wm).drew).keep b0, ((Ext.refl wm).drew).keep b1, (Ext.refl wm).drew⟩ | exact ⟨(((Ext.refl wm).alloc _).drew).keep a0, (((Ext.refl wm).alloc _).drew).keep a1, (((Ext.refl wm).alloc _).drew).keep b0, (((Ext.refl wm).alloc _).drew).keep b1, ((Ext.refl wm).alloc _).drew⟩ | exact ⟨(i3).keep a0, (i3).keep a1, (i3).keep b0, (i3).keep b1, i3⟩ | exact ⟨(i3.alloc _).keep a0, (i3.alloc _).keep a1, (i3.alloc _).keep b0, (i3.alloc _).keep b1, i3.alloc _⟩ | exact ⟨(i4).keep a0, (i4).keep a1, (i4).keep b0, (i4).keep b1, i4⟩ | exact ⟨(i4.alloc _).keep a0, (i4.alloc _).keep a1, (i4.alloc _).keep b0, (i4.alloc _).keep b1, i4.alloc _⟩ | exact ⟨(i5).keep a0, (i5).keep a1, (i5).keep b0, (i5).keep b1, i5⟩ | exact ⟨(i5.alloc _).keep a0, (i5.alloc _).keep a1, (i5.alloc _).keep b0, (i5.alloc _).keep b1, i5.alloc _⟩ | exact ⟨((i5.setAt (g := wm.heap.size) (Nat.le_refl _) _).setAt (g := wm.heap.size) (Nat.le_refl _) _).keep a0, ((i5.setAt (g := wm.heap.size) (Nat.le_refl _) _).setAt (g := wm.heap.size) (Nat.le_refl _) _).keep a1, ((i5.setAt (g := wm.heap.size) (Nat.le_refl _) _).setAt (g := wm.heap.size) (Nat.le_refl _) _).keep b0, ((i5.setAt (g := wm.heap.size) (Nat.le_refl _) _).setAt (g := wm.heap.size) (Nat.le_refl _) _).keep b1, (i5.setAt (g := wm.heap.size) (Nat.le_refl _) _).setAt (g := wm.heap.size) (Nat.le_refl _) _⟩ | exact ⟨((i5.setAt (g := v3.heap.size) i3.size_le _).setAt (g := v3.heap.size) i3.size_le _).keep a0, ((i5.setAt (g := v3.heap.size) i3.size_le _).setAt (g := v3.heap.size) i3.size_le _).keep a1, ((i5.setAt (g := v3.heap.size) i3.size_le _).setAt (g := v3.heap.size) i3.size_le _).keep b0, ((i5.setAt (g := v3.heap.size) i3.size_le _).setAt (g := v3.heap.size) i3.size_le _).keep b1, (i5.setAt (g := v3.heap.size) i3.size_le _).setAt (g := v3.heap.size) i3.size_le _⟩ | exact ⟨((i5.setAt (g := v4.heap.size) i4.size_le _).setAt (g := v4.heap.size) i4.size_le _).keep a0, ((i5.setAt (g := v4.heap.size) i4.size_le _).setAt (g := v4.heap.size) i4.size_le _).keep a1, ((i5.setAt (g := v4.heap.size) i4.size_le _).setAt (g := v4.heap.size) i4.size_le _).keep b0, ((i5.setAt (g := v4.heap.size) i4.size_le _).setAt (g := v4.heap.size) i4.size_le _).keep b1, (i5.setAt (g := v4.heap.size) i4.size_le _).setAt (g := v4.heap.size) i4.size_le _⟩ | fail)
        (first
          | (go_at_call 30; (with_reducible refine (toAffine_any (.slice p xs.length k) xs c _ (HS.out.ext (Em.out.trans ‹_ ∧ _ ∧ _ ∧ _ ∧ Ext wm _›.2.2.2.2)) hm).mono ?_); rintro e v3 ⟨o3, d3, rfl, iv3, iE3⟩; have i3 : Ext wm v3 := ‹_ ∧ _ ∧ _ ∧ _ ∧ Ext wm _›.2.2.2.2.trans iE3; try have jb := iE3.blk (g := wm.heap.size) (o := .cells #[.slice none 0 0, .int .i64 0] 25 (0, 0)) (blk_at rfl))
          | (go_at_call 30; (with_reducible refine (toAffine_any (.slice q ys.length l) ys d _ (HT.out.ext (Em.out.trans ‹_ ∧ _ ∧ _ ∧ _ ∧ Ext wm _›.2.2.2.2)) hy).mono ?_); rintro e v4 ⟨o4, d4, rfl, iv4, iE4⟩; have i4 : Ext wm v4 := ‹_ ∧ _ ∧ _ ∧ _ ∧ Ext wm _›.2.2.2.2.trans iE4; first | have jb' := iE4.blk jb | have jb' := iE4.blk (g := v3.heap.size) (o := .cells #[.slice none 0 0, .int .i64 0] 25 (0, 0)) (blk_at rfl) | skip)
          | (go_at_call 22; (with_reducible refine (SubstAffine_any (.slice o3 xs.length d3) (.slice o4 ys.length d4) xs ys c d v _ (by first | exact iv3.at.ext iE4 | exact (iv3.at.ext iE4).ext ((Ext.refl v4).alloc _) | exact iv3.at.ext (((Ext.refl v3).alloc _).trans iE4)) (by first | exact iv4.at | exact iv4.at.ext ((Ext.refl v4).alloc _))).mono ?_); rw [HR.out]; rintro e v5 ⟨⟨o5, d5, rfl, iv5⟩, iE5⟩; have i5 : Ext wm v5 := ‹_ ∧ _ ∧ _ ∧ _ ∧ Ext wm _›.2.2.2.2.trans iE5; dsimp only at iv5 ⊢; rw [HN.out] at iv5 ⊢; first | (have jc := iE5.blk jb'; obtain ⟨j0, j1, e0, e1⟩ := blk2 jc) | (have jc := iE5.blk (g := v4.heap.size) (o := .cells #[.slice none 0 0, .int .i64 0] 25 (0, 0)) (blk_at rfl); obtain ⟨j0, j1, e0, e1⟩ := blk2 jc) | skip))
      all_goals go_wp2_with (fail)
      all_goals go_meet
      all_goals first
        | exact ⟨_, o5, d5, rfl, rfl, blk_at rfl, (iv5.weak i4.size_le).ext ((Ext.refl _).alloc _), i5.alloc _, i5.size_le⟩
        | exact ⟨_, o5, d5, rfl, rfl, blk2_set jc, IntsOwn.weak (B := v4.heap.size + 1) (((iv5.weak (B' := v4.heap.size + 1) (by simp)).setAt (Nat.lt_succ_self _) _).setAt (Nat.lt_succ_self _) _) (Nat.le_succ_of_le i4.size_le), (i5.setAt i4.size_le _).setAt i4.size_le _, i4.size_le⟩
        | exact ⟨_, o5, d5, rfl, rfl, blk2_set jc, IntsOwn.weak (B := v4.heap.size) ((iv5.setAt (lt_of_block jb') _).setAt (lt_of_block jb') _) i4.size_le, (i5.setAt i3.size_le _).setAt i3.size_le _, i3.size_le⟩
        | exact ⟨_, o5, d5, rfl, rfl, blk2_set jc, IntsOwn.weak (B := v4.heap.size) ((iv5.setAt (lt_of_block jb') _).setAt (lt_of_block jb') _) i4.size_le, (i5.setAt (Nat.le_refl _) _).setAt (Nat.le_refl _) _, Nat.le_refl _⟩
    case rest =>
      obtain ⟨gh, o5, d5, rfl, rfl, BH, hv, gg, hgh⟩ := hcut
      have E18 : Hid (Ext w wc) := Em.out.trans gg
      replace z0 := gg.keep z0
      replace z1 := gg.keep z1
      replace w0 := gg.keep w0
      replace w1' := gg.keep w1'
      obtain ⟨h0, h1, -, -⟩ := blk2 BH
      have HH := Lib.hid hv
      have HM18 := Lib.hid (HM17.out.ext gg)
      have HW18 := Lib.hid (HW17.out.ext gg)
      clear BH hv gg HM17 HW17 a0 a1 b0 b1
      go_wp2_with (fail)
      refine (eqAffine_any (.slice o5 n d5) (.slice p5 n c5) r1 r1 r2 r2 _ HH.out.at HW18.out.at).mono ?_
      rw [affEqB_self]
      rintro e wp ⟨rfl, hE⟩
      have E19 : Hid (Ext w wp) := E18.out.trans hE
      replace z0 := hE.keep z0
      replace z1 := hE.keep z1
      have HM19 := Lib.hid (HM18.out.ext hE)
      clear hE HM18 HW18 HH w0 w1' h0 h1
      go_wp2_with (fail)
      refine (heldAffine_any (.slice p8 n c8) n r2 1 _ HM19.out.at (by omega) (by omega)).mono ?_
      rintro e wq ⟨rfl, hE⟩
      have E20 : Hid (Ext w wq) := E19.out.trans hE
      clear hE
      go_wp2
      go_ret
      exact ⟨rfl, E20.out⟩

set_option maxHeartbeats 2000000 in
set_option maxRecDepth 100000 in
theorem walk1FnExactSubstAffine (s t : Value) (xs ys : List Int) (c d v : Int) (w : World) (hs : IntsAt w s xs) (ht : IntsAt w t ys) :
    Calls Try.prog 7 #[.agg #[s, .int .i64 c], .int .i64 v, .agg #[t, .int .i64 d]] w fun e w' => e = .returned (.bool true) ∧ Ext w w' := by
  by_cases hsmall : szI 1048576 xs.length < 0
  · have HS := Lib.hid hs; have HT := Lib.hid ht; clear hs ht
    obtain ⟨p, k, rfl, hm, -⟩ := HS.out
    obtain ⟨q, l, rfl, hn, -⟩ := HT.out
    go_enter Try.func7, Try.ntmps7
    go_wp2_with (fail)
    refine (szAffine_any _ _ _ _ _ _ hm (by omega) (by omega)).mono ?_
    rintro e W1 ⟨rfl, hE⟩
    have E1 : Hid (Ext w W1) := (((Ext.refl w).alloc _).alloc _).trans hE
    clear hE
    go_wp2_with (fail)
    go_ret
    exact ⟨rfl, E1.out⟩
  · obtain ⟨hx, hz0, hz1⟩ := szI_bd' (by omega) (by omega) hsmall
    by_cases hsmall2 : szI (szI 1048576 xs.length) ys.length < 0
    · have HS := Lib.hid hs; have HT := Lib.hid ht; clear hs ht
      obtain ⟨p, k, rfl, hm, -⟩ := HS.out
      obtain ⟨q, l, rfl, hn, -⟩ := HT.out
      go_enter Try.func7, Try.ntmps7
      go_wp2_with (fail)
      refine (szAffine_any _ _ _ _ _ _ hm (by omega) (by omega)).mono ?_
      rintro e W1 ⟨rfl, hE⟩
      have E1 : Hid (Ext w W1) := (((Ext.refl w).alloc _).alloc _).trans hE
      obtain ⟨c0, c1, -, -⟩ := blk2 (hE.blk (g := w.heap.size + 1) (blk_at (by simp)))
      clear hE
      generalize szI 1048576 xs.length = z at *
      go_wp2_with (fail)
      refine (szAffine_any _ _ _ _ _ _ hn (by omega) (by omega)).mono ?_
      rintro e W2 ⟨rfl, hE⟩
      have E2 : Hid (Ext w W2) := E1.out.trans hE
      clear hE
      go_wp2_with (fail)
      go_ret
      exact ⟨rfl, E2.out⟩
    · obtain ⟨hy, hy0, hy1⟩ := szI_bd' hz0 hz1 hsmall2
      exact walk0FnExactSubstAffine s t xs ys c d v w hs ht hx hz0 hz1 hy hy0

theorem walkFnExactSubstAffine (v0 v1 v2 : Value) (w : World) (h0 : RAff w v0) (h1 : RInt w v1) (h2 : RAff w v2) :
    Calls Try.prog 7 #[v0, v1, v2] w fun e w' => e = .returned (.bool true) ∧ Below w.heap.size w w' := by
  obtain ⟨s, xs, c, rfl, hs, _, _⟩ := h0
  obtain ⟨v, rfl, _⟩ := h1
  obtain ⟨t, ys, d, rfl, ht, _, _⟩ := h2
  exact walk1FnExactSubstAffine s t xs ys c d v w hs ht

end Go.Proofs.Ytahdkkfmaanhkaa
