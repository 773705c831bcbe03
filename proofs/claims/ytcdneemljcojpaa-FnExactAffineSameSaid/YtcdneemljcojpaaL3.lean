/- FnExactAffineSame: AffineSame answers as its model at every argument. -/
import Derived.Test.YtcdneemljcojpaaA5
import Derived.Test.YtcdneemljcojpaaOp
import Derived.Deep.RegionHeld3
import Derived.Deep.RegionWith
namespace Go.Proofs.Ytcdneemljcojpaa
open Go.RowKit Go.ChangeShapes Go.WideShapes Go.ChangeAt Go.Joins

theorem szI_bd {l : Int} {n : Nat} (h0 : 0 ≤ l) (h1 : l ≤ 1048576) (h : ¬ szI l n < 0) : n ≤ 1048576 ∧ 0 ≤ szI l n ∧ szI l n ≤ 1048576 := by
  unfold szI at *; split at h <;> omega

set_option maxHeartbeats 2000000 in
theorem walk0FnExactAffineSame (s t : Value) (xs ys : List Int) (c d : Int) (w : World) (hs : IntsAt w s xs) (ht : IntsAt w t ys) :
    Calls Try.prog 11 #[.agg #[s, .int .i64 c], .agg #[t, .int .i64 d]] w fun e w' => e = .returned (.bool true) ∧ Ext w w' := by
  have HS := Lib.hid hs; have HT := Lib.hid ht; clear hs ht
  obtain ⟨p, k, rfl, hm, -⟩ := HS.out
  obtain ⟨q, l, rfl, hn, -⟩ := HT.out
  by_cases hsmall : szI 1048576 xs.length < 0
  · go_enter Try.func11, Try.ntmps11
    go_wp2_with (fail)
    refine (szAffine_any _ _ _ _ _ _ hm (by omega) (by omega)).mono ?_
    rintro e W1 ⟨rfl, hE⟩
    have E1 : Hid (Ext w W1) := (((Ext.refl w).alloc _).alloc _).trans hE
    clear hE
    go_wp2_with (fail)
    go_ret
    exact ⟨rfl, E1.out⟩
  · obtain ⟨hx, hz0, hz1⟩ := szI_bd (by omega) (by omega) hsmall
    by_cases hsmall2 : szI (szI 1048576 xs.length) ys.length < 0
    · go_enter Try.func11, Try.ntmps11
      go_wp2_with (fail)
      refine (szAffine_any _ _ _ _ _ _ hm (by omega) (by omega)).mono ?_
      rintro e W1 ⟨rfl, hE⟩
      have E1 : Hid (Ext w W1) := (((Ext.refl w).alloc _).alloc _).trans hE
      obtain ⟨c0, c1, -, -⟩ := blk2 (hE.blk (g := w.heap.size + 1) (blk_at (by simp)))
      clear hE
      generalize szI 1048576 xs.length = z at *
      go_wp2_with (fail)
      refine (szAffine_any _ _ _ _ _ _ hn (by omega) (by omega)).mono ?_
      rintro e W2 ⟨rfl, hE⟩
      have E2 : Hid (Ext w W2) := E1.out.trans hE
      clear hE
      go_wp2_with (fail)
      go_ret
      exact ⟨rfl, E2.out⟩
    · obtain ⟨hy, hy0, hy1⟩ := szI_bd hz0 hz1 hsmall2
      go_enter Try.func11, Try.ntmps11
      go_wp2_with (fail)
      refine (szAffine_any _ _ _ _ _ _ hm (by omega) (by omega)).mono ?_
      rintro e W1 ⟨rfl, hE⟩
      have E1 : Hid (Ext w W1) := (((Ext.refl w).alloc _).alloc _).trans hE
      have B2 := hE.blk (g := w.heap.size) (blk_old (blk_at rfl))
      have B3 := hE.blk (g := w.heap.size + 1) (blk_at (by simp))
      obtain ⟨c0, c1, -, -⟩ := blk2 B3
      clear hE
      generalize szI 1048576 xs.length = z at *
      have BB2 := Lib.hid B2; have BB3 := Lib.hid B3; clear B2 B3
      go_wp2_with (fail)
      refine (szAffine_any _ _ _ _ _ _ hn (by omega) (by omega)).mono ?_
      rintro e W2 ⟨rfl, hE⟩
      have E2 : Hid (Ext w W2) := E1.out.trans hE
      obtain ⟨a0, a1, -, -⟩ := blk2 (hE.blk BB2.out)
      obtain ⟨b0, b1, -, -⟩ := blk2 (hE.blk BB3.out)
      clear hE BB2 BB3 c0 c1
      generalize szI z ys.length = z2 at *
      generalize hga : w.heap.size = ga at *
      clear hga
      go_wp2_with (fail)
      go_region_held3 (fun W => W.cell? ⟨ga, 0, none⟩ = some (.slice p xs.length k) ∧ W.cell? ⟨ga, 1, none⟩ = some (.int .i64 c) ∧ W.cell? ⟨ga + 1, 0, none⟩ = some (.slice q ys.length l) ∧ W.cell? ⟨ga + 1, 1, none⟩ = some (.int .i64 d) ∧ Ext W2 W)
        (first | exact ⟨a0, a1, b0, b1, (Ext.refl W2).drew⟩ | exact ⟨g3.keep a0, g3.keep a1, g3.keep b0, g3.keep b1, g3⟩ | exact ⟨g4.keep a0, g4.keep a1, g4.keep b0, g4.keep b1, g4⟩ | exact ⟨g5.keep a0, g5.keep a1, g5.keep b0, g5.keep b1, g5⟩ | fail)
        (first
          | (go_at_call 37; (with_reducible refine (toAffine_any (.slice p xs.length k) xs c _ (HS.out.ext E2.out.drew) hx).mono ?_); rintro e w3 ⟨p3, c3, rfl, hv3, hE3⟩; have g3 := (Ext.refl W2).drew.trans hE3)
          | (go_at_call 37; (with_reducible refine (toAffine_any (.slice q ys.length l) ys d _ (HT.out.ext (E2.out.trans g3)) hy).mono ?_); rintro e w4 ⟨p4, c4, rfl, hv4, hE4⟩; have g4 := g3.trans hE4)
          | (go_at_call 39; (with_reducible refine (specAffineSame_any (.slice p3 xs.length c3) (.slice p4 ys.length c4) xs ys c d _ (hv3.at.ext hE4) hv4.at).mono ?_); rintro e w5 ⟨rfl, hE5⟩; have g5 := g4.trans hE5))
      have E5 : Hid (Ext w w5) := E2.out.trans g5
      replace a0 := g5.keep a0
      replace a1 := g5.keep a1
      replace b0 := g5.keep b0
      replace b1 := g5.keep b1
      clear g3 g4 g5 hE3 hE4 hE5 hv3 hv4
      go_wp2_with (fail)
      refine (toAffine_any (.slice p xs.length k) xs c _ (HS.out.ext E5.out) hx).mono ?_
      rintro e w6 ⟨p6, c6, rfl, hv6, hE⟩
      have E6 : Hid (Ext w w6) := E5.out.trans hE
      replace a0 := hE.keep a0
      replace a1 := hE.keep a1
      replace b0 := hE.keep b0
      replace b1 := hE.keep b1
      have hlt : ga + 1 < w6.heap.size := World.block_lt_of_cell? w6 _ b0
      have hlt' : ga < w6.heap.size := World.block_lt_of_cell? w6 _ a0
      have HV6 := Lib.hid hv6
      clear hE hv6
      go_wp2_with (fail)
      refine (toAffine_any (.slice q ys.length l) ys d _ (HT.out.ext (E6.out.alloc _)) hy).mono ?_
      rintro e w7 ⟨p7, c7, rfl, hv7, hE⟩
      have g7 : Ext w6 w7 := ((Ext.refl w6).alloc _).trans hE
      have E7 : Hid (Ext w w7) := E6.out.trans g7
      have x0 := hE.keep (new0 w6 _ _ _)
      have x1 := hE.keep (new1 w6 _ _ _ _)
      replace a0 := g7.keep a0
      replace a1 := g7.keep a1
      replace b0 := g7.keep b0
      replace b1 := g7.keep b1
      have hltx : w6.heap.size < w7.heap.size := World.block_lt_of_cell? w7 _ x0
      have HX7 := Lib.hid (HV6.out.at.ext g7)
      have HY7 := Lib.hid hv7
      clear hE hv7 hlt hlt'
      generalize w6.heap.size = gx at *
      go_wp2_with (fail)
      refine (AffineSame_any (.slice p6 xs.length c6) (.slice p7 ys.length c7) xs ys c d _ (HX7.out.ext ((Ext.refl w7).alloc _)) (HY7.out.at.ext ((Ext.refl w7).alloc _))).mono ?_
      rintro e w8 ⟨rfl, hE⟩
      have g8 : Ext w7 w8 := ((Ext.refl w7).alloc _).trans hE
      have E8 : Hid (Ext w w8) := E7.out.trans g8
      have y0 := hE.keep (new0 w7 _ _ _)
      have y1 := hE.keep (new1 w7 _ _ _ _)
      replace x0 := g8.keep x0
      replace x1 := g8.keep x1
      replace a0 := g8.keep a0
      replace a1 := g8.keep a1
      replace b0 := g8.keep b0
      replace b1 := g8.keep b1
      have HX8 := Lib.hid (HX7.out.ext g8)
      have HY8 := Lib.hid (HY7.out.at.ext g8)
      clear hE g7 g8 hltx
      generalize w7.heap.size = gy at *
      have heq : affEqB xs c xs c = true := by simp [affEqB, eqB]
      have heq2 : affEqB ys d ys d = true := by simp [affEqB, eqB]
      go_wp2_with (fail)
      go_region_held3 (fun W => W.cell? ⟨gx, 0, none⟩ = some (.slice p6 xs.length c6) ∧ W.cell? ⟨gx, 1, none⟩ = some (.int .i64 c) ∧ W.cell? ⟨ga, 0, none⟩ = some (.slice p xs.length k) ∧ W.cell? ⟨ga, 1, none⟩ = some (.int .i64 c))
        (first | exact ⟨x0, x1, a0, a1⟩ | exact ⟨g3.keep x0, g3.keep x1, g3.keep a0, g3.keep a1⟩ | exact ⟨g5.keep x0, g5.keep x1, g5.keep a0, g5.keep a1⟩ | fail)
        (first
          | (go_at_call 37; (with_reducible refine (toAffine_any (.slice p xs.length k) xs c _ (HS.out.ext E8.out.drew) hx).mono ?_); rintro e w9 ⟨p9, c9, rfl, hv9, hE9⟩; have g3 := (Ext.refl w8).drew.trans hE9)
          | (go_at_call 38; (with_reducible refine (eqAffine_any (.slice p6 xs.length c6) (.slice p9 xs.length c9) xs xs c c _ (HX8.out.ext g3) hv9.at).mono ?_); rintro e w10 ⟨rfl, hE10⟩; have g5 := g3.trans hE10))
      have E10 : Hid (Ext w w10) := E8.out.trans g5
      replace y0 := g5.keep y0
      replace y1 := g5.keep y1
      replace b0 := g5.keep b0
      replace b1 := g5.keep b1
      have HY10 := Lib.hid (HY8.out.ext g5)
      clear g3 g5 hE9 hE10 hv9 x0 x1 a0 a1
      go_wp2_with (fail)
      go_region_held3 (fun W => W.cell? ⟨gy, 0, none⟩ = some (.slice p7 ys.length c7) ∧ W.cell? ⟨gy, 1, none⟩ = some (.int .i64 d) ∧ W.cell? ⟨ga + 1, 0, none⟩ = some (.slice q ys.length l) ∧ W.cell? ⟨ga + 1, 1, none⟩ = some (.int .i64 d))
        (first | exact ⟨y0, y1, b0, b1⟩ | exact ⟨g3.keep y0, g3.keep y1, g3.keep b0, g3.keep b1⟩ | exact ⟨g5.keep y0, g5.keep y1, g5.keep b0, g5.keep b1⟩ | fail)
        (first
          | (go_at_call 37; (with_reducible refine (toAffine_any (.slice q ys.length l) ys d _ (HT.out.ext E10.out.drew) hy).mono ?_); rintro e w11 ⟨p11, c11, rfl, hv11, hE11⟩; have g3 := (Ext.refl w10).drew.trans hE11)
          | (go_at_call 38; (with_reducible refine (eqAffine_any (.slice p7 ys.length c7) (.slice p11 ys.length c11) ys ys d d _ (HY10.out.ext g3) hv11.at).mono ?_); rintro e w12 ⟨rfl, hE12⟩; have g5 := g3.trans hE12))
      have E12 : Hid (Ext w w12) := E10.out.trans g5
      go_wp2
      go_ret
      exact ⟨rfl, E12.out⟩

theorem walkFnExactAffineSame (v0 v1 : Value) (w : World) (h0 : RAff w v0) (h1 : RAff w v1) :
    Calls Try.prog 11 #[v0, v1] w fun e w' => e = .returned (.bool true) ∧ Below w.heap.size w w' := by
  obtain ⟨s, xs, c, rfl, hs, _, _⟩ := h0
  obtain ⟨t, ys, d, rfl, ht, _, _⟩ := h1
  exact walk0FnExactAffineSame s t xs ys c d w hs ht

set_option linter.unusedVariables false in
set_option maxRecDepth 100000 in
theorem liftedFnExactAffineSame (os : Os) (started : os.Started) (H : Type) (enc : TypeId × Value → H) :
    ReturnsInHanded {} Try.checked os 11 .any (Rows.fnExactAffineSameSpec.pre6 enc Try.prog Try.f11 Rows.fnExactAffineSameRow.domain false) (Rows.fnExactAffineSameSpec.post enc Try.prog Try.f11 false true false false) := by
  refine returnsInHanded_of_change (C := Try.checked) own started (by kernel_rfl) Try.func11
    (ChangeSpec.witness6 (enc := enc) (C := Try.checked) false ⟨#[], #[.agg #[.slice none 0 0, .int .i64 0], .agg #[.slice none 0 0, .int .i64 0]], []⟩ 8 (by kernel_rfl) (by kernel_rfl) (by kernel_rfl) (by kernel_rfl)) ?_
  intro W base args ds gs before hval0 hW hcnd _
  have hval : ∀ (j : Nat) t v, Try.f11.params[j]? = some t → args[j]? = some v → Value.okWide Try.prog W .any base t v := hval0
  have hW' := hW
  obtain ⟨p, q, hA0, hV, rfl, hfz, hnd⟩ := hW
  have hA : DataW.TrodAll enc Try.prog W 0 (fun _ => true) true Try.f11.params.toList args.toList ds p := hA0
  rw [Try.params11] at hA hval
  obtain ⟨v0, vs0, d0, ds0, p0, q0, hargs, rfl, rfl, h0, r0⟩ := trodAll_cons hA
  obtain ⟨v1, vs1, d1, ds1, p1, q1, rfl, rfl, rfl, h1, r1⟩ := trodAll_cons r0
  obtain ⟨rfl, rfl, rfl⟩ := trodAll_nil r1
  obtain rfl : args = #[v0, v1] := by cases args; simp_all
  obtain ⟨rfl, rfl⟩ := trodVars_none hV
  have lt0 : ∀ x ∈ p0, x.block < W.heap.size := by obtain ⟨m, hm⟩ := h0; exact DataW.trod_lt m _ _ _ hm
  have lt1 : ∀ x ∈ p1, x.block < W.heap.size := by obtain ⟨m, hm⟩ := h1; exact DataW.trod_lt m _ _ _ hm
  have o0 := open_aff (hval 0 44 v0 rfl rfl) h0
  have o1 := open_aff (hval 1 44 v1 rfl rfl) h1
  clear hA0 hval0
  refine (walkFnExactAffineSame v0 v1 W o0 o1).mono fun e W' ⟨he, bel⟩ => ?_
  subst he
  exact ⟨_, rfl, _, _, _, [], _, [], hW', trodAll_mk1 (shut_bool Try.underlying4 _), (trodAll_cons_mk (Below.trod laidOut (by kernel_rfl) (of_decide_eq_true (by kernel_rfl)) h0 bel lt0) (trodAll_cons_mk (Below.trod laidOut (by kernel_rfl) (of_decide_eq_true (by kernel_rfl)) h1 bel lt1) trodAll_mk0)), rfl, bel.frame _, fun h => by cases h⟩

theorem overFnExactAffineSame : Rows.fnExactAffineSameRow.holds Try.pinned (OpenSpec.ofChange Rows.fnExactAffineSameSpec) :=
  OpenClaim.holds_of_wide 11 Try.f11 rfl rfl rfl rfl rfl rfl rfl ⟨rfl, rfl, rfl, rfl, rfl⟩ rfl rfl rfl rfl rfl (by kernel_rfl) Try.func11 (by kernel_rfl)
    (of_decide_eq_true (by kernel_rfl)) (by unfold Func.isWrapper; first | (rw [if_pos (by decide +kernel)]; kernel_rfl) | (rw [if_neg (by decide +kernel)]; exact ⟨rfl, rfl⟩))
    (fun os started H enc _ => liftedFnExactAffineSame os started H enc)

/-- The given statement. -/
theorem provedFnExactAffineSame : Rows.FnExactAffineSameSaid := overFnExactAffineSame
#print axioms provedFnExactAffineSame
end Go.Proofs.Ytcdneemljcojpaa
