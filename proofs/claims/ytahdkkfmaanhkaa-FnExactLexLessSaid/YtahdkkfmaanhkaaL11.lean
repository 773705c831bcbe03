/- FnExactLexLess: LexLess answers as its model at every argument. -/
import Derived.Test.YtahdkkfmaanhkaaM1
import Derived.Test.YtahdkkfmaanhkaaOp
namespace Go.Proofs.Ytahdkkfmaanhkaa
open Go.RowKit Go.ChangeShapes Go.WideShapes Go.ChangeAt Go.Joins

set_option maxHeartbeats 2000000 in
theorem walk0FnExactLexLess (s t : Value) (xs ys : List Int) (w : World) (hs : IntsAt w s xs) (ht : IntsAt w t ys) :
    Calls Try.prog 11 #[s, t] w fun e w' => e = .returned (.bool true) ∧ Ext w w' := by
  have HS := Lib.hid hs; have HT := Lib.hid ht; clear hs ht
  obtain ⟨p, c, rfl, hm, -⟩ := HS.out
  obtain ⟨q, d, rfl, hm2, -⟩ := HT.out
  by_cases h1 : xs.length ≤ 1048576
  · by_cases h2 : ys.length ≤ 1048576
    · have hb1 : decide ((1048576 : Int) < xs.length) = false := by simp; omega
      have hb2 : decide ((1048576 : Int) < ys.length) = false := by simp; omega
      go_enter Try.func11, Try.ntmps11
      go_wp2_with (fail)
      refine (toIntS_any _ xs _ HS.out h1).mono ?_
      rintro e w1 ⟨p1, c1, rfl, hv1, E1⟩
      go_wp2_with (fail)
      refine (toIntS_any _ ys _ (HT.out.ext E1) h2).mono ?_
      rintro e w2 ⟨p2, c2, rfl, hv2, hE⟩
      have E2 := E1.trans hE
      go_wp2_with (fail)
      refine (specLexLess_any _ _ xs ys _ (hv1.at.ext hE) hv2.at).mono ?_
      clear hE
      rintro e w3 ⟨rfl, hE⟩
      have E3 := E2.trans hE
      clear hE hv1 hv2
      go_wp2_with (fail)
      refine (toIntS_any _ xs _ (HS.out.ext E3) h1).mono ?_
      rintro e w4 ⟨p4, c4, rfl, hv4, hE⟩
      have E4 := E3.trans hE
      clear hE
      go_wp2_with (fail)
      refine (toIntS_any _ ys _ (HT.out.ext E4) h2).mono ?_
      rintro e w5 ⟨p5, c5, rfl, hv5, hE⟩
      have E5 := E4.trans hE
      have HX := Lib.hid (hv4.at.ext hE); have HY := Lib.hid hv5.at
      clear hE hv4 hv5
      go_wp2_with (fail)
      refine (LexLess_any _ _ xs ys _ HX.out HY.out).mono ?_
      rintro e w6 ⟨rfl, rfl⟩
      generalize lexB xs ys = r at *
      go_wp2_with (fail)
      refine (toIntS_any _ xs _ (HS.out.ext E5) h1).mono ?_
      rintro e w7 ⟨p7, c7, rfl, hv7, hE⟩
      have E7 := E5.trans hE
      have HX7 := Lib.hid (HX.out.ext hE); have HY7 := Lib.hid (HY.out.ext hE)
      clear hE HX HY
      go_wp2_with (fail)
      refine (eqIntS_any _ _ xs xs _ HX7.out hv7.at).mono ?_
      rw [show eqB xs xs = true by simp [eqB]]
      rintro e w8 ⟨rfl, hE⟩
      have E8 := E7.trans hE
      have HY8 := Lib.hid (HY7.out.ext hE)
      clear hE hv7 HX7 HY7
      go_wp2_with (fail)
      refine (toIntS_any _ ys _ (HT.out.ext E8) h2).mono ?_
      rintro e w9 ⟨p9, c9, rfl, hv9, hE⟩
      have E9 := E8.trans hE
      have HY9 := Lib.hid (HY8.out.ext hE)
      clear hE HY8
      go_wp2_with (fail)
      refine (eqIntS_any _ _ ys ys _ HY9.out hv9.at).mono ?_
      rw [show eqB ys ys = true by simp [eqB]]
      rintro e w10 ⟨rfl, hE⟩
      have E10 := E9.trans hE
      go_wp2
      go_ret
      exact ⟨rfl, E10⟩
    · have hb1 : decide ((1048576 : Int) < xs.length) = false := by simp; omega
      have hb2 : decide ((1048576 : Int) < ys.length) = true := by simp; omega
      go_enter Try.func11, Try.ntmps11
      go_wp2
      go_ret
      exact ⟨rfl, Ext.refl w⟩
  · have hb1 : decide ((1048576 : Int) < xs.length) = true := by simp; omega
    go_enter Try.func11, Try.ntmps11
    go_wp2
    go_ret
    exact ⟨rfl, Ext.refl w⟩

theorem walkFnExactLexLess (v0 v1 : Value) (w : World) (h0 : RInts w v0) (h1 : RInts w v1) :
    Calls Try.prog 11 #[v0, v1] w fun e w' => e = .returned (.bool true) ∧ Below w.heap.size w w' := by
  obtain ⟨xs, hs, _⟩ := h0
  obtain ⟨ys, ht, _⟩ := h1
  exact walk0FnExactLexLess v0 v1 xs ys w hs ht

set_option linter.unusedVariables false in
set_option maxRecDepth 100000 in
theorem liftedFnExactLexLess (os : Os) (started : os.Started) (H : Type) (enc : TypeId × Value → H) :
    ReturnsInHanded {} Try.checked os 11 .any (Rows.fnExactLexLessSpec.pre6 enc Try.prog Try.f11 Rows.fnExactLexLessRow.domain false) (Rows.fnExactLexLessSpec.post enc Try.prog Try.f11 false true false false) := by
  refine returnsInHanded_of_change (C := Try.checked) own started (by kernel_rfl) Try.func11
    (ChangeSpec.witness6 (enc := enc) (C := Try.checked) false ⟨#[], #[.slice none 0 0, .slice none 0 0], []⟩ 8 (by kernel_rfl) (by kernel_rfl) (by kernel_rfl) (by kernel_rfl)) ?_
  intro W base args ds gs before hval0 hW hcnd _
  have hval : ∀ (j : Nat) t v, Try.f11.params[j]? = some t → args[j]? = some v → Value.okWide Try.prog W .any base t v := hval0
  have hW' := hW
  obtain ⟨p, q, hA0, hV, rfl, hfz, hnd⟩ := hW
  have hA : DataW.TrodAll enc Try.prog W 0 (fun _ => true) true Try.f11.params.toList args.toList ds p := hA0
  rw [Try.params11] at hA hval
  obtain ⟨v0, vs0, d0, ds0, p0, q0, hargs, rfl, rfl, h0, r0⟩ := trodAll_cons hA
  obtain ⟨v1, vs1, d1, ds1, p1, q1, rfl, rfl, rfl, h1, r1⟩ := trodAll_cons r0
  obtain ⟨rfl, rfl, rfl⟩ := trodAll_nil r1
  obtain rfl : args = #[v0, v1] := by cases args; simp_all
  obtain ⟨rfl, rfl⟩ := trodVars_none hV
  have lt0 : ∀ x ∈ p0, x.block < W.heap.size := by obtain ⟨m, hm⟩ := h0; exact DataW.trod_lt m _ _ _ hm
  have lt1 : ∀ x ∈ p1, x.block < W.heap.size := by obtain ⟨m, hm⟩ := h1; exact DataW.trod_lt m _ _ _ hm
  have o0 := open_ints1 (hval 0 23 v0 rfl rfl) h0
  have o1 := open_ints1 (hval 1 23 v1 rfl rfl) h1
  clear hA0 hval0
  refine (walkFnExactLexLess v0 v1 W o0 o1).mono fun e W' ⟨he, bel⟩ => ?_
  subst he
  exact ⟨_, rfl, _, _, _, [], _, [], hW', trodAll_mk1 (shut_bool Try.underlying4 _), (trodAll_cons_mk (Below.trod laidOut (by kernel_rfl) (of_decide_eq_true (by kernel_rfl)) h0 bel lt0) (trodAll_cons_mk (Below.trod laidOut (by kernel_rfl) (of_decide_eq_true (by kernel_rfl)) h1 bel lt1) trodAll_mk0)), rfl, bel.frame _, fun h => by cases h⟩

theorem overFnExactLexLess : Rows.fnExactLexLessRow.holds Try.pinned (OpenSpec.ofChange Rows.fnExactLexLessSpec) :=
  OpenClaim.holds_of_wide 11 Try.f11 rfl rfl rfl rfl rfl rfl rfl ⟨rfl, rfl, rfl, rfl, rfl⟩ rfl rfl rfl rfl rfl (by kernel_rfl) Try.func11 (by kernel_rfl)
    (of_decide_eq_true (by kernel_rfl)) (by unfold Func.isWrapper; first | (rw [if_pos (by decide +kernel)]; kernel_rfl) | (rw [if_neg (by decide +kernel)]; exact ⟨rfl, rfl⟩))
    (fun os started H enc _ => liftedFnExactLexLess os started H enc)

/-- The given statement. -/
theorem provedFnExactLexLess : Rows.FnExactLexLessSaid := overFnExactLexLess

end Go.Proofs.Ytahdkkfmaanhkaa
