/- FnExactRectNest: RectNest answers as its model at every argument. -/
import Derived.Test.YtabkhiakekammabN8
import Derived.Test.YtabkhiakekammabOpN
namespace Go.Proofs.Ytabkhiakekammab
open Go.RowKit Go.ChangeShapes Go.WideShapes Go.ChangeAt Go.Joins

set_option maxHeartbeats 2000000 in
theorem walk0FnExactRectNest (s : Value) (ls : List Lp) (w : World) (hs : LoopsAt w s ls) :
    Calls Try.prog 5 #[s] w fun e w' => e = .returned (.bool true) ∧ Ext w w' := by
  obtain ⟨p, c, rfl, hm⟩ := hs.form
  have HS := Lib.hid hs; clear hs
  go_enter Try.func5, Try.ntmps5
  go_wp2_with (fail)
  refine (szLoopS_any p _ c ls _ _ rfl HS.out (by omega) (by omega)).mono ?_
  rintro e w1 ⟨⟨z, rfl, hz⟩, E1⟩
  rcases hz with rfl | ⟨z0, z1, hsm⟩
  · go_wp2_with (fail)
    go_ret
    exact ⟨rfl, E1⟩
  · have HSM := Lib.hid hsm; clear hsm
    go_wp2_with (fail)
    refine (toLoopS_any p _ c ls _ rfl (HS.out.ext E1) HSM.out).mono ?_
    rintro e w2 ⟨q2, d2, rfl, hv2, hE⟩
    have E2 := E1.trans hE
    clear hE
    go_wp2_with (fail)
    refine (specRectNest_any q2 _ d2 ls _ rfl hv2.at).mono ?_
    rintro e w3 ⟨rfl, hE⟩
    have E3 := E2.trans hE
    clear hE
    go_wp2_with (fail)
    refine (toLoopS_any p _ c ls _ rfl (HS.out.ext E3) HSM.out).mono ?_
    rintro e w4 ⟨q4, d4, rfl, hv4, hE⟩
    have E4 := E3.trans hE
    clear hE
    go_wp2_with (fail)
    refine (RectNest_any q4 _ d4 ls _ rfl hv4.at).mono ?_
    rintro e w5 ⟨rfl, hE⟩
    have E5 := E4.trans hE
    have HV := Lib.hid (hv4.at.ext hE)
    clear hE
    go_wp2_with (fail)
    refine (toLoopS_any p _ c ls _ rfl (HS.out.ext E5) HSM.out).mono ?_
    rintro e w6 ⟨q6, d6, rfl, hv6, hE⟩
    have E6 := E5.trans hE
    have HV6 := Lib.hid (HV.out.ext hE)
    clear hE
    go_wp2_with (fail)
    refine (eqLoopS_any q4 _ d4 q6 _ d6 ls ls _ rfl rfl HV6.out hv6.at).mono ?_
    rw [lEqB_self]
    rintro e w7 ⟨rfl, hE⟩
    have E7 := E6.trans hE
    clear hE
    go_wp2
    go_ret
    exact ⟨rfl, E7⟩

theorem walkFnExactRectNest (v : Value) (w : World) (h : RLoops w v) :
    Calls Try.prog 5 #[v] w fun e w' => e = .returned (.bool true) ∧ Below w.heap.size w w' := by
  obtain ⟨ls, hs⟩ := h
  exact walk0FnExactRectNest v ls w hs


set_option linter.unusedVariables false in
set_option maxRecDepth 100000 in
theorem liftedFnExactRectNest (os : Os) (started : os.Started) (H : Type) (enc : TypeId × Value → H) :
    ReturnsInHanded {} Try.checked os 5 .any (Rows.fnExactRectNestSpec.pre6 enc Try.prog Try.f5 Rows.fnExactRectNestRow.domain false) (Rows.fnExactRectNestSpec.post enc Try.prog Try.f5 false true false false) := by
  refine returnsInHanded_of_change (C := Try.checked) own started (by kernel_rfl) Try.func5
    (ChangeSpec.witness6 (enc := enc) (C := Try.checked) false ⟨#[], #[.slice none 0 0], []⟩ 8 (by kernel_rfl) (by kernel_rfl) (by kernel_rfl) (by kernel_rfl)) ?_
  intro W base args ds gs before hval0 hW hcnd _
  have hval : ∀ (j : Nat) t v, Try.f5.params[j]? = some t → args[j]? = some v → Value.okWide Try.prog W .any base t v := hval0
  have hW' := hW
  obtain ⟨p, q, hA0, hV, rfl, hfz, hnd⟩ := hW
  have hA : DataW.TrodAll enc Try.prog W 0 (fun _ => true) true Try.f5.params.toList args.toList ds p := hA0
  rw [Try.params5] at hA hval
  obtain ⟨v0, vs0, d0, ds0, p0, q0, hargs, rfl, rfl, h0, r0⟩ := trodAll_cons hA
  obtain ⟨rfl, rfl, rfl⟩ := trodAll_nil r0
  obtain rfl : args = #[v0] := by cases args; simp_all
  obtain ⟨rfl, rfl⟩ := trodVars_none hV
  have lt0 : ∀ x ∈ p0, x.block < W.heap.size := by obtain ⟨m, hm⟩ := h0; exact DataW.trod_lt m _ _ _ hm
  have o0 := open_loops1 (hval 0 22 v0 rfl rfl) h0
  clear hA0 hval0
  refine (walkFnExactRectNest v0 W o0).mono fun e W' ⟨he, bel⟩ => ?_
  subst he
  exact ⟨_, rfl, _, _, _, [], _, [], hW', trodAll_mk1 (shut_bool Try.underlying4 _), (trodAll_cons_mk (Below.trod laidOut (by kernel_rfl) (of_decide_eq_true (by kernel_rfl)) h0 bel lt0) trodAll_mk0), rfl, bel.frame _, fun h => by cases h⟩

theorem overFnExactRectNest : Rows.fnExactRectNestRow.holds Try.pinned (OpenSpec.ofChange Rows.fnExactRectNestSpec) :=
  OpenClaim.holds_of_wide 5 Try.f5 rfl rfl rfl rfl rfl rfl rfl ⟨rfl, rfl, rfl, rfl, rfl⟩ rfl rfl rfl rfl rfl (by kernel_rfl) Try.func5 (by kernel_rfl)
    (of_decide_eq_true (by kernel_rfl)) (by unfold Func.isWrapper; first | (rw [if_pos (by decide +kernel)]; kernel_rfl) | (rw [if_neg (by decide +kernel)]; exact ⟨rfl, rfl⟩))
    (fun os started H enc _ => liftedFnExactRectNest os started H enc)

/-- The given statement. -/
theorem provedFnExactRectNest : Rows.FnExactRectNestSaid := overFnExactRectNest

end Go.Proofs.Ytabkhiakekammab
