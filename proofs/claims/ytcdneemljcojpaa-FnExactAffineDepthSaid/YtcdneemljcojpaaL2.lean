/- FnExactAffineDepth: AffineDepth answers as its model at every argument. -/
import Derived.Test.YtcdneemljcojpaaA9
import Derived.Test.YtcdneemljcojpaaOp
import Derived.Deep.RegionHeld3
import Derived.Deep.RegionWith
namespace Go.Proofs.Ytcdneemljcojpaa
open Go.RowKit Go.ChangeShapes Go.WideShapes Go.ChangeAt Go.Joins

set_option maxHeartbeats 2000000 in
theorem walk0FnExactAffineDepth (s : Value) (xs : List Int) (c : Int) (w : World) (hs : IntsAt w s xs) :
    Calls Try.prog 16 #[.agg #[s, .int .i64 c]] w fun e w' => e = .returned (.bool true) ∧ Ext w w' := by
  obtain ⟨p, k, rfl, hm, hc⟩ := id hs
  clear hc
  have HS := Lib.hid hs; clear hs
  by_cases hsmall : szI 1048576 xs.length < 0
  · go_enter Try.func16, Try.ntmps16
    go_wp2_with (fail)
    refine (szAffine_any _ _ _ _ _ _ hm (by omega) (by omega)).mono ?_
    rintro e w1 ⟨rfl, hE⟩
    have HE := Lib.hid hE; clear hE
    go_wp2_with (fail)
    go_ret
    exact ⟨rfl, ((Ext.refl w).alloc _).trans HE.out⟩
  · have hlen : xs.length ≤ 1048576 := by unfold szI at hsmall; split at hsmall <;> omega
    go_enter Try.func16, Try.ntmps16
    go_wp2_with (fail)
    refine (szAffine_any _ _ _ _ _ _ hm (by omega) (by omega)).mono ?_
    rintro e w1 ⟨rfl, hE⟩
    have a0 := hE.keep (new0 w _ _ _)
    have a1 := hE.keep (new1 w _ _ _ _)
    have E1 : Hid (Ext w w1) := ((Ext.refl w).alloc _).trans hE
    clear hE
    go_wp2_with (fail)
    refine (toAffine_any _ xs _ _ (HS.out.ext E1.out) hlen).mono ?_
    rintro e w2 ⟨p1, c1, rfl, hv1, hE⟩
    replace a0 := hE.keep a0
    replace a1 := hE.keep a1
    have E2 : Hid (Ext w w2) := E1.out.trans hE
    clear hE
    go_wp2_with (fail)
    refine (specAffineDepth_any _ xs _ _ hv1.at).mono ?_
    rintro e w3 ⟨rfl, hE⟩
    replace a0 := hE.keep a0
    replace a1 := hE.keep a1
    have E3 : Hid (Ext w w3) := E2.out.trans hE
    clear hE hv1
    go_wp2_with (fail)
    refine (toAffine_any _ xs _ _ (HS.out.ext E3.out) hlen).mono ?_
    rintro e w4 ⟨p2, c2, rfl, hv2, hE⟩
    replace a0 := hE.keep a0
    replace a1 := hE.keep a1
    have E4 : Hid (Ext w w4) := E3.out.trans hE
    clear hE
    have HV2 := Lib.hid hv2; clear hv2
    go_wp2_with (fail)
    refine (AffineDepth_any _ xs _ _ (HV2.out.at.ext ((Ext.refl w4).alloc _))).mono ?_
    rintro e w5 ⟨rfl, hE⟩
    have b0 := hE.keep (new0 w4 _ _ _)
    have b1 := hE.keep (new1 w4 _ _ _ _)
    replace a0 := hE.keep (((Ext.refl w4).alloc _).keep a0)
    replace a1 := hE.keep (((Ext.refl w4).alloc _).keep a1)
    have E5 : Hid (Ext w4 w5) := ((Ext.refl w4).alloc _).trans hE
    have E6 : Hid (Ext w w5) := E4.out.trans E5.out
    have HV3 := Lib.hid (HV2.out.ext E5.out)
    clear hE hsmall
    generalize w4.heap.size = bx at *
    generalize w.heap.size = ba at *
    go_wp2_with (fail)
    have heq : affEqB xs c xs c = true := by simp [affEqB, eqB]
    go_region_held3 (fun W => W.cell? ⟨bx, 0, none⟩ = some (.slice p2 xs.length c2) ∧ W.cell? ⟨bx, 1, none⟩ = some (.int .i64 c) ∧ W.cell? ⟨ba, 0, none⟩ = some (.slice p xs.length k) ∧ W.cell? ⟨ba, 1, none⟩ = some (.int .i64 c) ∧ Ext w5 W)
      (first
        | exact ⟨b0, b1, a0, a1, (Ext.refl w5).drew⟩
        | exact ⟨hE6.keep b0, hE6.keep b1, hE6.keep a0, hE6.keep a1, (Ext.refl w5).drew.trans hE6⟩
        | exact ⟨hE7.keep (hE6.keep b0), hE7.keep (hE6.keep b1), hE7.keep (hE6.keep a0), hE7.keep (hE6.keep a1), ((Ext.refl w5).drew.trans hE6).trans hE7⟩)
      (first
        | (go_at_call 37; refine (toAffine_any _ xs _ _ (HS.out.ext (E6.out.drew)) hlen).mono ?_; rintro e w6 ⟨p6, c6, rfl, hv6, hE6⟩)
        | (go_at_call 38; refine (eqAffine_any _ _ xs xs _ _ _ (HV3.out.at.ext ((Ext.refl w5).drew.trans hE6)) hv6.at).mono ?_; rintro e w7 ⟨rfl, hE7⟩))
    go_wp2
    go_ret
    exact ⟨rfl, E6.out.trans (((Ext.refl w5).drew.trans hE6).trans hE7)⟩

theorem walkFnExactAffineDepth (v : Value) (w : World) (h : RAff w v) :
    Calls Try.prog 16 #[v] w fun e w' => e = .returned (.bool true) ∧ Below w.heap.size w w' := by
  obtain ⟨s, xs, c, rfl, hs, _, _⟩ := h
  exact walk0FnExactAffineDepth s xs c w hs

set_option linter.unusedVariables false in
set_option maxRecDepth 100000 in
theorem liftedFnExactAffineDepth (os : Os) (started : os.Started) (H : Type) (enc : TypeId × Value → H) :
    ReturnsInHanded {} Try.checked os 16 .any (Rows.fnExactAffineDepthSpec.pre6 enc Try.prog Try.f16 Rows.fnExactAffineDepthRow.domain false) (Rows.fnExactAffineDepthSpec.post enc Try.prog Try.f16 false true false false) := by
  refine returnsInHanded_of_change (C := Try.checked) own started (by kernel_rfl) Try.func16
    (ChangeSpec.witness6 (enc := enc) (C := Try.checked) false ⟨#[], #[.agg #[.slice none 0 0, .int .i64 0]], []⟩ 8 (by kernel_rfl) (by kernel_rfl) (by kernel_rfl) (by kernel_rfl)) ?_
  intro W base args ds gs before hval0 hW hcnd _
  have hval : ∀ (j : Nat) t v, Try.f16.params[j]? = some t → args[j]? = some v → Value.okWide Try.prog W .any base t v := hval0
  have hW' := hW
  obtain ⟨p, q, hA0, hV, rfl, hfz, hnd⟩ := hW
  have hA : DataW.TrodAll enc Try.prog W 0 (fun _ => true) true Try.f16.params.toList args.toList ds p := hA0
  rw [Try.params16] at hA hval
  obtain ⟨v0, vs0, d0, ds0, p0, q0, hargs, rfl, rfl, h0, r0⟩ := trodAll_cons hA
  obtain ⟨rfl, rfl, rfl⟩ := trodAll_nil r0
  obtain rfl : args = #[v0] := by cases args; simp_all
  obtain ⟨rfl, rfl⟩ := trodVars_none hV
  have lt0 : ∀ x ∈ p0, x.block < W.heap.size := by obtain ⟨m, hm⟩ := h0; exact DataW.trod_lt m _ _ _ hm
  have o0 := open_aff (hval 0 44 v0 rfl rfl) h0
  clear hA0 hval0
  refine (walkFnExactAffineDepth v0 W o0).mono fun e W' ⟨he, bel⟩ => ?_
  subst he
  exact ⟨_, rfl, _, _, _, [], _, [], hW', trodAll_mk1 (shut_bool Try.underlying4 _), (trodAll_cons_mk (Below.trod laidOut (by kernel_rfl) (of_decide_eq_true (by kernel_rfl)) h0 bel lt0) trodAll_mk0), rfl, bel.frame _, fun h => by cases h⟩

theorem overFnExactAffineDepth : Rows.fnExactAffineDepthRow.holds Try.pinned (OpenSpec.ofChange Rows.fnExactAffineDepthSpec) :=
  OpenClaim.holds_of_wide 16 Try.f16 rfl rfl rfl rfl rfl rfl rfl ⟨rfl, rfl, rfl, rfl, rfl⟩ rfl rfl rfl rfl rfl (by kernel_rfl) Try.func16 (by kernel_rfl)
    (of_decide_eq_true (by kernel_rfl)) (by unfold Func.isWrapper; first | (rw [if_pos (by decide +kernel)]; kernel_rfl) | (rw [if_neg (by decide +kernel)]; exact ⟨rfl, rfl⟩))
    (fun os started H enc _ => liftedFnExactAffineDepth os started H enc)

/-- The given statement. -/
theorem provedFnExactAffineDepth : Rows.FnExactAffineDepthSaid := overFnExactAffineDepth
#print axioms provedFnExactAffineDepth
end Go.Proofs.Ytcdneemljcojpaa
