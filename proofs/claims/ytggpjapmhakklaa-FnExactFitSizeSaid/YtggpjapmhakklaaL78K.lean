/- FnExactFitSize: at every list of numbers, FitSize of the program returns the number that its model returns, and changes nothing of its argument. No condition. -/
import Derived.Test.YtggpjapmhakklaaK24
import Derived.Test.YtggpjapmhakklaaK21
namespace Go.Proofs.Ytggpjapmhakklaa
open Go.RowKit Go.ChangeShapes Go.WideShapes Go.ChangeAt Go.Joins

set_option maxHeartbeats 1000000 in
theorem walk0FnExactFitSize (s : Value) (xs : List Int) (w : World) (hs : IntsAt w s xs) (hx : ∀ x ∈ xs, i64 x) :
    Calls Try.prog 7 #[s] w fun e w' => e = .returned (.bool true) ∧ Ext w w' := by
  obtain ⟨p, c, rfl, hm, -⟩ := id hs
  have HS := Lib.hid hs; have HX := Lib.hid hx
  clear hx
  obtain ⟨n, hn⟩ : ∃ n, xs.length = n := ⟨_, rfl⟩
  rw [hn] at HS hm ⊢
  have HN := Lib.hid hn
  clear hs hn
  by_cases hbig : (1048576 : Int) < n
  · go_enter Try.func7, Try.ntmps7
    go_wp2
    go_ret
    exact ⟨rfl, Ext.refl w⟩
  · have hy : n ≤ 1048576 := by omega
    go_enter Try.func7, Try.ntmps7
    go_wp2_with (fail)
    refine (toIntS_any _ xs _ HS.out (by rw [HN.out]; exact hy)).mono ?_
    rintro e w2 ⟨p2, c2, rfl, hv2, E2⟩
    rw [HN.out] at hv2 ⊢
    have HV2 := Lib.hid hv2.at; have HE2 := Lib.hid E2
    clear hv2 E2
    go_wp2_with (fail)
    refine (specFitSize_any p2 n c2 xs _ HN.out HV2.out).mono ?_
    rintro e w3 ⟨rfl, E3⟩
    have HE3 := Lib.hid (HE2.out.trans E3)
    clear E3
    obtain ⟨ans, hans⟩ : ∃ a, fitB xs = a := ⟨_, rfl⟩
    rw [hans]
    have HANS := Lib.hid hans; clear hans
    go_wp2_with (fail)
    refine (toIntS_any _ xs _ (HS.out.ext HE3.out) (by rw [HN.out]; exact hy)).mono ?_
    rintro e w4 ⟨p4, c4, rfl, hv4, E4⟩
    rw [HN.out] at hv4 ⊢
    have HV4 := Lib.hid hv4.at; have HE4 := Lib.hid (HE3.out.trans E4)
    clear hv4 E4
    go_wp2_with (fail)
    refine (FitSize_any p4 n c4 xs _ HN.out HX.out HV4.out).mono ?_
    rw [HANS.out]
    rintro e w5 ⟨rfl, E5⟩
    have HV5 := Lib.hid (HV4.out.ext E5); have HE5 := Lib.hid (HE4.out.trans E5)
    clear E5
    have hne : (ans != ans) = false := by first | simp | exact bne_self_eq_false _ | rfl
    go_wp2_with (fail)
    refine (toIntS_any _ xs _ (HS.out.ext HE5.out) (by rw [HN.out]; exact hy)).mono ?_
    rintro e w6 ⟨p6, c6, rfl, hv6, E6⟩
    rw [HN.out] at hv6 ⊢
    have HV6 := Lib.hid hv6.at; have HE6 := Lib.hid (HE5.out.trans E6); have HV56 := Lib.hid (HV5.out.ext E6)
    clear hv6 E6
    go_wp2_with (fail)
    refine (eqIntS_any _ _ xs xs _ HV56.out HV6.out).mono ?_
    rintro e w7 ⟨rfl, E7⟩
    have HE7 := Lib.hid (HE6.out.trans E7)
    have heq : eqB xs xs = true := eqB_all (Nat.le_refl _) (Nat.le_refl _) rfl
    clear E7
    go_wp2
    go_ret
    exact ⟨rfl, HE7.out⟩

theorem walkFnExactFitSize (v : Value) (w : World) (h : RInts w v) :
    Calls Try.prog 7 #[v] w fun e w' => e = .returned (.bool true) ∧ Below w.heap.size w w' := by
  obtain ⟨xs, hs, hx⟩ := h
  exact walk0FnExactFitSize v xs w hs hx

set_option linter.unusedVariables false in
set_option maxRecDepth 100000 in
theorem liftedFnExactFitSize (os : Os) (started : os.Started) (H : Type) (enc : TypeId × Value → H) :
    ReturnsInHanded {} Try.checked os 7 .any (Rows.fnExactFitSizeSpec.pre6 enc Try.prog Try.f7 Rows.fnExactFitSizeRow.domain false) (Rows.fnExactFitSizeSpec.post enc Try.prog Try.f7 false true false false) := by
  refine returnsInHanded_of_change (C := Try.checked) own started (by kernel_rfl) Try.func7
    (ChangeSpec.witness6 (enc := enc) (C := Try.checked) false ⟨#[], #[.slice none 0 0], []⟩ 8 (by kernel_rfl) (by kernel_rfl) (by kernel_rfl) (by kernel_rfl)) ?_
  intro W base args ds gs before hval0 hW hcnd _
  have hval : ∀ (j : Nat) t v, Try.f7.params[j]? = some t → args[j]? = some v → Value.okWide Try.prog W .any base t v := hval0
  have hW' := hW
  obtain ⟨p, q, hA0, hV, rfl, hfz, hnd⟩ := hW
  have hA : DataW.TrodAll enc Try.prog W 0 (fun _ => true) true Try.f7.params.toList args.toList ds p := hA0
  rw [Try.params7] at hA hval
  obtain ⟨v0, vs0, d0, ds0, p0, q0, hargs, rfl, rfl, h0, r0⟩ := trodAll_cons hA
  obtain ⟨rfl, rfl, rfl⟩ := trodAll_nil r0
  obtain rfl : args = #[v0] := by cases args; simp_all
  obtain ⟨rfl, rfl⟩ := trodVars_none hV
  have lt0 : ∀ x ∈ p0, x.block < W.heap.size := by obtain ⟨m, hm⟩ := h0; exact DataW.trod_lt m _ _ _ hm
  have o0 := open_ints1 (hval 0 22 v0 rfl rfl) h0
  clear hA0 hval0
  refine (walkFnExactFitSize v0 W o0).mono fun e W' ⟨he, bel⟩ => ?_
  subst he
  exact ⟨_, rfl, _, _, _, [], _, [], hW', trodAll_mk1 (shut_bool Try.underlying4 _), (trodAll_cons_mk (Below.trod laidOut (by kernel_rfl) (of_decide_eq_true (by kernel_rfl)) h0 bel lt0) trodAll_mk0), rfl, bel.frame _, fun h => by cases h⟩

theorem overFnExactFitSize : Rows.fnExactFitSizeRow.holds Try.pinned (OpenSpec.ofChange Rows.fnExactFitSizeSpec) :=
  OpenClaim.holds_of_wide 7 Try.f7 rfl rfl rfl rfl rfl rfl rfl ⟨rfl, rfl, rfl, rfl, rfl⟩ rfl rfl rfl rfl rfl (by as_aux_lemma => kernel_rfl) Try.func7 (by kernel_rfl)
    (of_decide_eq_true (by kernel_rfl)) (by unfold Func.isWrapper; first | (rw [if_pos (by decide +kernel)]; kernel_rfl) | (rw [if_neg (by decide +kernel)]; exact ⟨rfl, rfl⟩))
    (fun os started H enc _ => liftedFnExactFitSize os started H enc)

/-- The given statement. -/
theorem provedFnExactFitSize : Rows.FnExactFitSizeSaid := overFnExactFitSize

end Go.Proofs.Ytggpjapmhakklaa
