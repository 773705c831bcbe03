/- FnExactEvalAffine: EvalAffine answers as its model at every argument. -/
import Derived.Test.YtcdneemljcojpaaA9
import Derived.Test.YtcdneemljcojpaaOp
import Derived.Deep.RegionHeld3
import Derived.Deep.RegionWith
namespace Go.Proofs.Ytcdneemljcojpaa
open Go.RowKit Go.ChangeShapes Go.WideShapes Go.ChangeAt Go.Joins

set_option maxHeartbeats 2000000 in
theorem walk0FnExactEvalAffine (s t : Value) (xs ys : List Int) (c : Int) (w : World) (hs : IntsAt w s xs) (ht : IntsAt w t ys) :
    Calls Try.prog 12 #[.agg #[s, .int .i64 c], t] w fun e w' => e = .returned (.bool true) ∧ Ext w w' := by
  have HS := Lib.hid hs; have HT := Lib.hid ht; clear hs ht
  obtain ⟨p, k, rfl, hm, -⟩ := HS.out
  obtain ⟨q, l, rfl, hn, -⟩ := HT.out
  by_cases hbig : (1048576 : Int) < ys.length
  · go_enter Try.func12, Try.ntmps12
    go_wp2
    go_ret
    exact ⟨rfl, (Ext.refl w).alloc _⟩
  · have hy : ys.length ≤ 1048576 := by omega
    by_cases hsmall : szI 1048576 xs.length < 0
    · go_enter Try.func12, Try.ntmps12
      go_wp2_with (fail)
      refine (szAffine_any _ _ _ _ _ _ hm (by omega) (by omega)).mono ?_
      rintro e W1 ⟨rfl, hE⟩
      have E1 : Hid (Ext w W1) := ((Ext.refl w).alloc _).trans hE
      clear hE
      go_wp2_with (fail)
      go_ret
      exact ⟨rfl, E1.out⟩
    · have hx : xs.length ≤ 1048576 := by unfold szI at hsmall; split at hsmall <;> omega
      go_enter Try.func12, Try.ntmps12
      go_wp2_with (fail)
      refine (szAffine_any _ _ _ _ _ _ hm (by omega) (by omega)).mono ?_
      rintro e W1 ⟨rfl, hE⟩
      have E1 : Hid (Ext w W1) := ((Ext.refl w).alloc _).trans hE
      have a0 := hE.keep (new0 w _ _ _)
      have a1 := hE.keep (new1 w _ _ _ _)
      clear hE
      generalize szI 1048576 xs.length = z at *
      generalize hga : w.heap.size = ga at *
      clear hga
      go_wp2_with (fail)
      refine (toAffine_any (.slice p xs.length k) xs c _ (HS.out.ext E1.out) hx).mono ?_
      rintro e w2 ⟨p2, c2, rfl, hv2, hE⟩
      have E2 : Hid (Ext w w2) := E1.out.trans hE
      replace a0 := hE.keep a0
      replace a1 := hE.keep a1
      have HV2 := Lib.hid hv2
      clear hE hv2
      go_wp2_with (fail)
      refine (toIntS_any (.slice q ys.length l) ys _ (HT.out.ext E2.out) hy).mono ?_
      rintro e w3 ⟨p3, c3, rfl, hv3, hE⟩
      have E3 : Hid (Ext w w3) := E2.out.trans hE
      replace a0 := hE.keep a0
      replace a1 := hE.keep a1
      have HV23 := Lib.hid (HV2.out.at.ext hE)
      have HV3 := Lib.hid hv3.at
      clear hE hv3
      go_wp2_with (fail)
      refine (specEvalAffine_any (.slice p2 xs.length c2) (.slice p3 ys.length c3) xs ys c _ HV23.out HV3.out).mono ?_
      rintro e w4 ⟨rfl, hE⟩
      have E4 : Hid (Ext w w4) := E3.out.trans hE
      replace a0 := hE.keep a0
      replace a1 := hE.keep a1
      clear hE HV23 HV3 HV2
      go_wp2_with (fail)
      refine (toAffine_any (.slice p xs.length k) xs c _ (HS.out.ext E4.out) hx).mono ?_
      rintro e w5 ⟨p5, c5, rfl, hv5, hE⟩
      have E5 : Hid (Ext w w5) := E4.out.trans hE
      replace a0 := hE.keep a0
      replace a1 := hE.keep a1
      have HV5 := Lib.hid hv5.at
      clear hE hv5
      go_wp2_with (fail)
      refine (toIntS_any (.slice q ys.length l) ys _ (HT.out.ext (E5.out.alloc _)) hy).mono ?_
      rintro e w6 ⟨p6, c6, rfl, hv6, hE⟩
      have g6 : Ext w5 w6 := ((Ext.refl w5).alloc _).trans hE
      have E6 : Hid (Ext w w6) := E5.out.trans g6
      have x0 := hE.keep (new0 w5 _ _ _)
      have x1 := hE.keep (new1 w5 _ _ _ _)
      replace a0 := g6.keep a0
      replace a1 := g6.keep a1
      have HX6 := Lib.hid (HV5.out.ext g6)
      have HY6 := Lib.hid hv6.at
      clear hE g6 hv6
      generalize w5.heap.size = gx at *
      go_wp2_with (fail)
      refine (EvalAffine_any (.slice p5 xs.length c5) (.slice p6 ys.length c6) xs ys c _ HX6.out HY6.out).mono ?_
      rintro e w7 ⟨rfl, hE⟩
      have E7 : Hid (Ext w w7) := E6.out.trans hE
      replace x0 := hE.keep x0
      replace x1 := hE.keep x1
      replace a0 := hE.keep a0
      replace a1 := hE.keep a1
      have HX7 := Lib.hid (HX6.out.ext hE)
      have HY7 := Lib.hid (HY6.out.ext hE)
      clear hE
      have heq : affEqB xs c xs c = true := by simp [affEqB, eqB]
      have heq2 : eqB ys ys = true := by simp [eqB]
      go_wp2_with (fail)
      go_region_held3 (fun W => W.cell? ⟨gx, 0, none⟩ = some (.slice p5 xs.length c5) ∧ W.cell? ⟨gx, 1, none⟩ = some (.int .i64 c) ∧ W.cell? ⟨ga, 0, none⟩ = some (.slice p xs.length k) ∧ W.cell? ⟨ga, 1, none⟩ = some (.int .i64 c))
        (first | exact ⟨x0, x1, a0, a1⟩ | exact ⟨g3.keep x0, g3.keep x1, g3.keep a0, g3.keep a1⟩ | exact ⟨g5.keep x0, g5.keep x1, g5.keep a0, g5.keep a1⟩ | fail)
        (first
          | (go_at_call 37; (with_reducible refine (toAffine_any (.slice p xs.length k) xs c _ (HS.out.ext E7.out.drew) hx).mono ?_); rintro e w9 ⟨p9, c9, rfl, hv9, hE9⟩; have g3 := (Ext.refl w7).drew.trans hE9)
          | (go_at_call 38; (with_reducible refine (eqAffine_any (.slice p5 xs.length c5) (.slice p9 xs.length c9) xs xs c c _ (HX7.out.ext g3) hv9.at).mono ?_); rintro e w10 ⟨rfl, hE10⟩; have g5 := g3.trans hE10))
      have E10 : Hid (Ext w w10) := E7.out.trans g5
      have HY10 := Lib.hid (HY7.out.ext g5)
      clear g3 g5 hE9 hE10 hv9 x0 x1 a0 a1
      go_wp2_with (fail)
      refine (toIntS_any (.slice q ys.length l) ys _ (HT.out.ext E10.out) hy).mono ?_
      rintro e w11 ⟨p11, c11, rfl, hv11, hE⟩
      have E11 : Hid (Ext w w11) := E10.out.trans hE
      have HY11 := Lib.hid (HY10.out.ext hE)
      have HV11 := Lib.hid hv11.at
      clear hE hv11
      go_wp2_with (fail)
      refine (eqIntS_any (.slice p6 ys.length c6) (.slice p11 ys.length c11) ys ys _ HY11.out HV11.out).mono ?_
      rintro e w12 ⟨rfl, hE⟩
      have E12 : Hid (Ext w w12) := E11.out.trans hE
      clear hE
      go_wp2
      go_ret
      exact ⟨rfl, E12.out⟩

theorem walkFnExactEvalAffine (v0 v1 : Value) (w : World) (h0 : RAff w v0) (h1 : RInts w v1) :
    Calls Try.prog 12 #[v0, v1] w fun e w' => e = .returned (.bool true) ∧ Below w.heap.size w w' := by
  obtain ⟨s, xs, c, rfl, hs, _, _⟩ := h0
  obtain ⟨ys, ht, _⟩ := h1
  exact walk0FnExactEvalAffine s v1 xs ys c w hs ht

set_option linter.unusedVariables false in
set_option maxRecDepth 100000 in
theorem liftedFnExactEvalAffine (os : Os) (started : os.Started) (H : Type) (enc : TypeId × Value → H) :
    ReturnsInHanded {} Try.checked os 12 .any (Rows.fnExactEvalAffineSpec.pre6 enc Try.prog Try.f12 Rows.fnExactEvalAffineRow.domain false) (Rows.fnExactEvalAffineSpec.post enc Try.prog Try.f12 false true false false) := by
  refine returnsInHanded_of_change (C := Try.checked) own started (by kernel_rfl) Try.func12
    (ChangeSpec.witness6 (enc := enc) (C := Try.checked) false ⟨#[], #[.agg #[.slice none 0 0, .int .i64 0], .slice none 0 0], []⟩ 8 (by kernel_rfl) (by kernel_rfl) (by kernel_rfl) (by kernel_rfl)) ?_
  intro W base args ds gs before hval0 hW hcnd _
  have hval : ∀ (j : Nat) t v, Try.f12.params[j]? = some t → args[j]? = some v → Value.okWide Try.prog W .any base t v := hval0
  have hW' := hW
  obtain ⟨p, q, hA0, hV, rfl, hfz, hnd⟩ := hW
  have hA : DataW.TrodAll enc Try.prog W 0 (fun _ => true) true Try.f12.params.toList args.toList ds p := hA0
  rw [Try.params12] at hA hval
  obtain ⟨v0, vs0, d0, ds0, p0, q0, hargs, rfl, rfl, h0, r0⟩ := trodAll_cons hA
  obtain ⟨v1, vs1, d1, ds1, p1, q1, rfl, rfl, rfl, h1, r1⟩ := trodAll_cons r0
  obtain ⟨rfl, rfl, rfl⟩ := trodAll_nil r1
  obtain rfl : args = #[v0, v1] := by cases args; simp_all
  obtain ⟨rfl, rfl⟩ := trodVars_none hV
  have lt0 : ∀ x ∈ p0, x.block < W.heap.size := by obtain ⟨m, hm⟩ := h0; exact DataW.trod_lt m _ _ _ hm
  have lt1 : ∀ x ∈ p1, x.block < W.heap.size := by obtain ⟨m, hm⟩ := h1; exact DataW.trod_lt m _ _ _ hm
  have o0 := open_aff (hval 0 44 v0 rfl rfl) h0
  have o1 := open_ints1 (hval 1 23 v1 rfl rfl) h1
  clear hA0 hval0
  refine (walkFnExactEvalAffine v0 v1 W o0 o1).mono fun e W' ⟨he, bel⟩ => ?_
  subst he
  exact ⟨_, rfl, _, _, _, [], _, [], hW', trodAll_mk1 (shut_bool Try.underlying4 _), (trodAll_cons_mk (Below.trod laidOut (by kernel_rfl) (of_decide_eq_true (by kernel_rfl)) h0 bel lt0) (trodAll_cons_mk (Below.trod laidOut (by kernel_rfl) (of_decide_eq_true (by kernel_rfl)) h1 bel lt1) trodAll_mk0)), rfl, bel.frame _, fun h => by cases h⟩

theorem overFnExactEvalAffine : Rows.fnExactEvalAffineRow.holds Try.pinned (OpenSpec.ofChange Rows.fnExactEvalAffineSpec) :=
  OpenClaim.holds_of_wide 12 Try.f12 rfl rfl rfl rfl rfl rfl rfl ⟨rfl, rfl, rfl, rfl, rfl⟩ rfl rfl rfl rfl rfl (by kernel_rfl) Try.func12 (by kernel_rfl)
    (of_decide_eq_true (by kernel_rfl)) (by unfold Func.isWrapper; first | (rw [if_pos (by decide +kernel)]; kernel_rfl) | (rw [if_neg (by decide +kernel)]; exact ⟨rfl, rfl⟩))
    (fun os started H enc _ => liftedFnExactEvalAffine os started H enc)

/-- The given statement. -/
theorem provedFnExactEvalAffine : Rows.FnExactEvalAffineSaid := overFnExactEvalAffine
#print axioms provedFnExactEvalAffine
end Go.Proofs.Ytcdneemljcojpaa
