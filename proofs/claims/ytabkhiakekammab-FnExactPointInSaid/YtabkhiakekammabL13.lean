/- FnExactPointIn: PointIn answers as its model at every argument. -/
import Derived.Test.YtabkhiakekammabN15
import Derived.Test.YtabkhiakekammabN7
import Derived.Test.YtabkhiakekammabOpN
namespace Go.Proofs.Ytabkhiakekammab
open Go.RowKit Go.ChangeShapes Go.WideShapes Go.ChangeAt Go.Joins

set_option maxHeartbeats 4000000 in
theorem walk0FnExactPointIn (s t : Value) (ls : List Lp) (ps : List Int) (w : World) (hs : LoopsAt w s ls) (ht : IntsAt w t ps) :
    Calls Try.prog 4 #[s, t] w fun e w' => e = .returned (.bool true) ∧ Ext w w' := by
  obtain ⟨p, c, rfl, hm⟩ := hs.form
  have HS := Lib.hid hs; have HT := Lib.hid ht; clear hs ht
  obtain ⟨q, d, rfl, hm2, -⟩ := HT.out
  by_cases hbig : ps.length ≤ 1048576
  · have hb : decide ((1048576 : Int) < ps.length) = false := by simp; omega
    
    go_enter Try.func4, Try.ntmps4
    go_wp2_with (fail)
    refine (szLoopS_any p _ c ls _ _ rfl HS.out (by omega) (by omega)).mono ?_
    rintro e w1 ⟨⟨z, rfl, hz⟩, E1⟩
    rcases hz with rfl | ⟨z0, z1, hsm⟩
    · go_wp2_with (fail)
      go_ret
      exact ⟨rfl, E1⟩
    · have HSM := Lib.hid hsm; clear hsm
      go_wp2_with (fail)
      refine (toLoopS_any p _ c ls _ rfl (HS.out.ext E1) HSM.out).mono ?_
      rintro e w2 ⟨q2, d2, rfl, hv2, hE⟩
      have E2 := E1.trans hE
      have HV2 := Lib.hid hv2.at
      clear hE hv2
      go_wp2_with (fail)
      refine (toIntS_any _ ps _ (HT.out.ext E2) hbig).mono ?_
      rintro e w3 ⟨q3, d3, rfl, hv3, hE⟩
      have E3 := E2.trans hE
      have HC3 : Hid (∀ q n' d, Value.slice q3 ps.length d3 = .slice q n' d → n' ≤ d) := Lib.hid (fun q n' d e => by cases e; exact hv3.cap)
      have HV3 := Lib.hid hv3.at; have HW2 := Lib.hid (HV2.out.ext hE)
      clear hE hv3 HV2
      go_wp2_with (fail)
      refine (specPointIn_any q2 _ d2 ls _ ps _ rfl HW2.out HV3.out HC3.out).mono ?_
      
      rintro e w4 ⟨rfl, hE⟩
      have E4 := E3.trans hE
      clear hE HV3 HW2
      go_wp2_with (fail)
      refine (toLoopS_any p _ c ls _ rfl (HS.out.ext E4) HSM.out).mono ?_
      rintro e w5 ⟨q5, d5, rfl, hv5, hE⟩
      have E5 := E4.trans hE
      have HV5 := Lib.hid hv5.at
      clear hE hv5
      go_wp2_with (fail)
      refine (toIntS_any _ ps _ (HT.out.ext E5) hbig).mono ?_
      rintro e w6 ⟨q6, d6, rfl, hv6, hE⟩
      have E6 := E5.trans hE
      have HC6 : Hid (∀ q n' d, Value.slice q6 ps.length d6 = .slice q n' d → n' ≤ d) := Lib.hid (fun q n' d e => by cases e; exact hv6.cap)
      have HX := Lib.hid (HV5.out.ext hE); have HY := Lib.hid hv6.at
      clear hE hv6 HV5
      go_wp2_with (fail)
      refine (PointIn_any q5 _ d5 ls _ ps _ rfl HX.out HY.out HC6.out).mono ?_
      
      rintro e w7 ⟨rfl, hE⟩
      have E7 := E6.trans hE
      have HX7 := Lib.hid (HX.out.ext hE); have HY7 := Lib.hid (HY.out.ext hE)
      clear hE HX HY
      go_wp2_with (fail)
      refine (toLoopS_any p _ c ls _ rfl (HS.out.ext E7) HSM.out).mono ?_
      rintro e w8 ⟨q8, d8, rfl, hv8, hE⟩
      have E8 := E7.trans hE
      have HX8 := Lib.hid (HX7.out.ext hE); have HY8 := Lib.hid (HY7.out.ext hE)
      clear hE HX7 HY7
      go_wp2_with (fail)
      refine (eqLoopS_any q5 _ d5 q8 _ d8 ls ls _ rfl rfl HX8.out hv8.at).mono ?_
      rw [lEqB_self]
      rintro e w9 ⟨rfl, hE⟩
      have E9 := E8.trans hE
      have HY9 := Lib.hid (HY8.out.ext hE)
      clear hE hv8 HX8 HY8
      go_wp2_with (fail)
      refine (toIntS_any _ ps _ (HT.out.ext E9) hbig).mono ?_
      rintro e w10 ⟨q10, d10, rfl, hv10, hE⟩
      have E10 := E9.trans hE
      have HY10 := Lib.hid (HY9.out.ext hE)
      clear hE HY9
      go_wp2_with (fail)
      refine (eqIntS_any _ _ ps ps _ HY10.out hv10.at).mono ?_
      rw [show eqB ps ps = true by simp [eqB]]
      rintro e w11 ⟨rfl, hE⟩
      have E11 := E10.trans hE
      go_wp2
      go_ret
      exact ⟨rfl, E11⟩
  · have hb : decide ((1048576 : Int) < ps.length) = true := by simp; omega
    go_enter Try.func4, Try.ntmps4
    go_wp2
    go_ret
    exact ⟨rfl, Ext.refl w⟩

theorem walkFnExactPointIn (v0 v1 : Value) (w : World) (h0 : RLoops w v0) (h1 : RInts w v1) :
    Calls Try.prog 4 #[v0, v1] w fun e w' => e = .returned (.bool true) ∧ Below w.heap.size w w' := by
  obtain ⟨ls, hs⟩ := h0
  obtain ⟨ps, ht, _⟩ := h1
  exact walk0FnExactPointIn v0 v1 ls ps w hs ht


set_option linter.unusedVariables false in
set_option maxRecDepth 100000 in
theorem liftedFnExactPointIn (os : Os) (started : os.Started) (H : Type) (enc : TypeId × Value → H) :
    ReturnsInHanded {} Try.checked os 4 .any (Rows.fnExactPointInSpec.pre6 enc Try.prog Try.f4 Rows.fnExactPointInRow.domain false) (Rows.fnExactPointInSpec.post enc Try.prog Try.f4 false true false false) := by
  refine returnsInHanded_of_change (C := Try.checked) own started (by kernel_rfl) Try.func4
    (ChangeSpec.witness6 (enc := enc) (C := Try.checked) false ⟨#[], #[.slice none 0 0, .slice none 0 0], []⟩ 8 (by kernel_rfl) (by kernel_rfl) (by kernel_rfl) (by kernel_rfl)) ?_
  intro W base args ds gs before hval0 hW hcnd _
  have hval : ∀ (j : Nat) t v, Try.f4.params[j]? = some t → args[j]? = some v → Value.okWide Try.prog W .any base t v := hval0
  have hW' := hW
  obtain ⟨p, q, hA0, hV, rfl, hfz, hnd⟩ := hW
  have hA : DataW.TrodAll enc Try.prog W 0 (fun _ => true) true Try.f4.params.toList args.toList ds p := hA0
  rw [Try.params4] at hA hval
  obtain ⟨v0, vs0, d0, ds0, p0, q0, hargs, rfl, rfl, h0, r0⟩ := trodAll_cons hA
  obtain ⟨v1, vs1, d1, ds1, p1, q1, rfl, rfl, rfl, h1, r1⟩ := trodAll_cons r0
  obtain ⟨rfl, rfl, rfl⟩ := trodAll_nil r1
  obtain rfl : args = #[v0, v1] := by cases args; simp_all
  obtain ⟨rfl, rfl⟩ := trodVars_none hV
  have lt0 : ∀ x ∈ p0, x.block < W.heap.size := by obtain ⟨m, hm⟩ := h0; exact DataW.trod_lt m _ _ _ hm
  have lt1 : ∀ x ∈ p1, x.block < W.heap.size := by obtain ⟨m, hm⟩ := h1; exact DataW.trod_lt m _ _ _ hm
  have o0 := open_loops1 (hval 0 22 v0 rfl rfl) h0
  have o1 := open_ints1 (hval 1 29 v1 rfl rfl) h1
  clear hA0 hval0
  refine (walkFnExactPointIn v0 v1 W o0 o1).mono fun e W' ⟨he, bel⟩ => ?_
  subst he
  exact ⟨_, rfl, _, _, _, [], _, [], hW', trodAll_mk1 (shut_bool Try.underlying4 _), (trodAll_cons_mk (Below.trod laidOut (by kernel_rfl) (of_decide_eq_true (by kernel_rfl)) h0 bel lt0) (trodAll_cons_mk (Below.trod laidOut (by kernel_rfl) (of_decide_eq_true (by kernel_rfl)) h1 bel lt1) trodAll_mk0)), rfl, bel.frame _, fun h => by cases h⟩

theorem overFnExactPointIn : Rows.fnExactPointInRow.holds Try.pinned (OpenSpec.ofChange Rows.fnExactPointInSpec) :=
  OpenClaim.holds_of_wide 4 Try.f4 rfl rfl rfl rfl rfl rfl rfl ⟨rfl, rfl, rfl, rfl, rfl⟩ rfl rfl rfl rfl rfl (by kernel_rfl) Try.func4 (by kernel_rfl)
    (of_decide_eq_true (by kernel_rfl)) (by unfold Func.isWrapper; first | (rw [if_pos (by decide +kernel)]; kernel_rfl) | (rw [if_neg (by decide +kernel)]; exact ⟨rfl, rfl⟩))
    (fun os started H enc _ => liftedFnExactPointIn os started H enc)

/-- The given statement. -/
theorem provedFnExactPointIn : Rows.FnExactPointInSaid := overFnExactPointIn

end Go.Proofs.Ytabkhiakekammab
