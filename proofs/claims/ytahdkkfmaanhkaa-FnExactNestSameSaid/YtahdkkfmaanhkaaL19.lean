/- FnExactNestSame: NestSame answers as its model at every argument. -/
import Derived.Test.YtahdkkfmaanhkaaN10
import Derived.Test.YtahdkkfmaanhkaaN9
import Derived.Test.YtahdkkfmaanhkaaOpN
namespace Go.Proofs.Ytahdkkfmaanhkaa
open Go.RowKit Go.ChangeShapes Go.WideShapes Go.ChangeAt Go.Joins

set_option maxHeartbeats 4000000 in
theorem walk0FnExactNestSame (s t : Value) (ls ms : List Lp) (w : World) (hs : LoopsAt w s ls) (ht : LoopsAt w t ms) :
    Calls Try.prog 9 #[s, t] w fun e w' => e = .returned (.bool true) ∧ Ext w w' := by
  obtain ⟨p, c, rfl, hm⟩ := hs.form
  obtain ⟨q, d, rfl, hm2⟩ := ht.form
  have HS := Lib.hid hs; have HT := Lib.hid ht; clear hs ht
  go_enter Try.func9, Try.ntmps9
  go_wp2_with (fail)
  refine (szLoopS_any p _ c ls _ _ rfl HS.out (by omega) (by omega)).mono ?_
  rintro e w1 ⟨⟨z, rfl, hz⟩, E1⟩
  rcases hz with rfl | ⟨z0, z1, hsm⟩
  · go_wp2_with (fail)
    go_ret
    exact ⟨rfl, E1⟩
  · have HSM := Lib.hid hsm; clear hsm
    go_wp2_with (fail)
    refine (szLoopS_any q _ d ms _ _ rfl (HT.out.ext E1) z0 z1).mono ?_
    rintro e w2 ⟨⟨y, rfl, hy⟩, hE⟩
    have E2 := E1.trans hE
    clear hE
    rcases hy with rfl | ⟨y0, y1, hsm⟩
    · go_wp2_with (fail)
      go_ret
      exact ⟨rfl, E2⟩
    · have HSN := Lib.hid hsm; clear hsm
      go_wp2_with (fail)
      refine (toLoopS_any p _ c ls _ rfl (HS.out.ext E2) HSM.out).mono ?_
      rintro e w3 ⟨q3, d3, rfl, hv3, hE⟩
      have E3 := E2.trans hE
      have HV3 := Lib.hid hv3.at
      clear hE hv3
      go_wp2_with (fail)
      refine (toLoopS_any q _ d ms _ rfl (HT.out.ext E3) HSN.out).mono ?_
      rintro e w4 ⟨q4, d4, rfl, hv4, hE⟩
      have E4 := E3.trans hE
      have HV4 := Lib.hid hv4.at; have HW4 := Lib.hid (HV3.out.ext hE)
      clear hE hv4 HV3
      go_wp2_with (fail)
      refine (specNestSame_any q3 _ d3 q4 _ d4 ls ms _ rfl rfl HW4.out HV4.out).mono ?_
      rintro e w5 ⟨rfl, hE⟩
      have E5 := E4.trans hE
      clear hE HW4 HV4
      go_wp2_with (fail)
      refine (toLoopS_any p _ c ls _ rfl (HS.out.ext E5) HSM.out).mono ?_
      rintro e w6 ⟨q6, d6, rfl, hv6, hE⟩
      have E6 := E5.trans hE
      have HX6 := Lib.hid hv6.at
      clear hE hv6
      go_wp2_with (fail)
      refine (toLoopS_any q _ d ms _ rfl (HT.out.ext E6) HSN.out).mono ?_
      rintro e w7 ⟨q7, d7, rfl, hv7, hE⟩
      have E7 := E6.trans hE
      have HX7 := Lib.hid (HX6.out.ext hE); have HY7 := Lib.hid hv7.at
      clear hE hv7 HX6
      go_wp2_with (fail)
      refine (NestSame_any q6 _ d6 q7 _ d7 ls ms _ rfl rfl HX7.out HY7.out).mono ?_
      rintro e w8 ⟨rfl, hE⟩
      have E8 := E7.trans hE
      have HX8 := Lib.hid (HX7.out.ext hE); have HY8 := Lib.hid (HY7.out.ext hE)
      clear hE HX7 HY7
      generalize lEqB ls ms = r at *
      go_wp2_with (fail)
      refine (toLoopS_any p _ c ls _ rfl (HS.out.ext E8) HSM.out).mono ?_
      rintro e w9 ⟨q9, d9, rfl, hv9, hE⟩
      have E9 := E8.trans hE
      have HX9 := Lib.hid (HX8.out.ext hE); have HY9 := Lib.hid (HY8.out.ext hE); have HZ9 := Lib.hid hv9.at
      clear hE hv9 HX8 HY8
      go_wp2_with (fail)
      refine (eqLoopS_any q6 _ d6 q9 _ d9 ls ls _ rfl rfl HX9.out HZ9.out).mono ?_
      rw [lEqB_self]
      rintro e w10 ⟨rfl, hE⟩
      have E10 := E9.trans hE
      have HY10 := Lib.hid (HY9.out.ext hE)
      clear hE HX9 HY9 HZ9
      go_wp2_with (fail)
      refine (toLoopS_any q _ d ms _ rfl (HT.out.ext E10) HSN.out).mono ?_
      rintro e w11 ⟨q11, d11, rfl, hv11, hE⟩
      have E11 := E10.trans hE
      have HY11 := Lib.hid (HY10.out.ext hE); have HZ11 := Lib.hid hv11.at
      clear hE hv11 HY10
      go_wp2_with (fail)
      refine (eqLoopS_any q7 _ d7 q11 _ d11 ms ms _ rfl rfl HY11.out HZ11.out).mono ?_
      rw [lEqB_self]
      rintro e w12 ⟨rfl, hE⟩
      have E12 := E11.trans hE
      go_wp2
      go_ret
      exact ⟨rfl, E12⟩

theorem walkFnExactNestSame (v0 v1 : Value) (w : World) (h0 : RLoops w v0) (h1 : RLoops w v1) :
    Calls Try.prog 9 #[v0, v1] w fun e w' => e = .returned (.bool true) ∧ Below w.heap.size w w' := by
  obtain ⟨ls, hs⟩ := h0
  obtain ⟨ms, ht⟩ := h1
  exact walk0FnExactNestSame v0 v1 ls ms w hs ht

set_option linter.unusedVariables false in
set_option maxRecDepth 100000 in
theorem liftedFnExactNestSame (os : Os) (started : os.Started) (H : Type) (enc : TypeId × Value → H) :
    ReturnsInHanded {} Try.checked os 9 .any (Rows.fnExactNestSameSpec.pre6 enc Try.prog Try.f9 Rows.fnExactNestSameRow.domain false) (Rows.fnExactNestSameSpec.post enc Try.prog Try.f9 false true false false) := by
  refine returnsInHanded_of_change (C := Try.checked) own started (by kernel_rfl) Try.func9
    (ChangeSpec.witness6 (enc := enc) (C := Try.checked) false ⟨#[], #[.slice none 0 0, .slice none 0 0], []⟩ 8 (by kernel_rfl) (by kernel_rfl) (by kernel_rfl) (by kernel_rfl)) ?_
  intro W base args ds gs before hval0 hW hcnd _
  have hval : ∀ (j : Nat) t v, Try.f9.params[j]? = some t → args[j]? = some v → Value.okWide Try.prog W .any base t v := hval0
  have hW' := hW
  obtain ⟨p, q, hA0, hV, rfl, hfz, hnd⟩ := hW
  have hA : DataW.TrodAll enc Try.prog W 0 (fun _ => true) true Try.f9.params.toList args.toList ds p := hA0
  rw [Try.params9] at hA hval
  obtain ⟨v0, vs0, d0, ds0, p0, q0, hargs, rfl, rfl, h0, r0⟩ := trodAll_cons hA
  obtain ⟨v1, vs1, d1, ds1, p1, q1, rfl, rfl, rfl, h1, r1⟩ := trodAll_cons r0
  obtain ⟨rfl, rfl, rfl⟩ := trodAll_nil r1
  obtain rfl : args = #[v0, v1] := by cases args; simp_all
  obtain ⟨rfl, rfl⟩ := trodVars_none hV
  have lt0 : ∀ x ∈ p0, x.block < W.heap.size := by obtain ⟨m, hm⟩ := h0; exact DataW.trod_lt m _ _ _ hm
  have lt1 : ∀ x ∈ p1, x.block < W.heap.size := by obtain ⟨m, hm⟩ := h1; exact DataW.trod_lt m _ _ _ hm
  have o0 := open_loops1 (hval 0 47 v0 rfl rfl) h0
  have o1 := open_loops1 (hval 1 47 v1 rfl rfl) h1
  clear hA0 hval0
  refine (walkFnExactNestSame v0 v1 W o0 o1).mono fun e W' ⟨he, bel⟩ => ?_
  subst he
  exact ⟨_, rfl, _, _, _, [], _, [], hW', trodAll_mk1 (shut_bool Try.underlying4 _), (trodAll_cons_mk (Below.trod laidOut (by kernel_rfl) (of_decide_eq_true (by kernel_rfl)) h0 bel lt0) (trodAll_cons_mk (Below.trod laidOut (by kernel_rfl) (of_decide_eq_true (by kernel_rfl)) h1 bel lt1) trodAll_mk0)), rfl, bel.frame _, fun h => by cases h⟩

theorem overFnExactNestSame : Rows.fnExactNestSameRow.holds Try.pinned (OpenSpec.ofChange Rows.fnExactNestSameSpec) :=
  OpenClaim.holds_of_wide 9 Try.f9 rfl rfl rfl rfl rfl rfl rfl ⟨rfl, rfl, rfl, rfl, rfl⟩ rfl rfl rfl rfl rfl (by kernel_rfl) Try.func9 (by kernel_rfl)
    (of_decide_eq_true (by kernel_rfl)) (by unfold Func.isWrapper; first | (rw [if_pos (by decide +kernel)]; kernel_rfl) | (rw [if_neg (by decide +kernel)]; exact ⟨rfl, rfl⟩))
    (fun os started H enc _ => liftedFnExactNestSame os started H enc)

/-- The given statement. -/
theorem provedFnExactNestSame : Rows.FnExactNestSameSaid := overFnExactNestSame

end Go.Proofs.Ytahdkkfmaanhkaa
