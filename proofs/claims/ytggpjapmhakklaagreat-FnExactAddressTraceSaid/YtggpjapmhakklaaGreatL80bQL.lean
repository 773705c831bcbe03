/- FnExactAddressTrace: AddressTrace answers as its model at every argument: the statement from its walk. -/
import Derived.Test.YtggpjapmhakklaaGreatL80QL
namespace Go.Proofs.YtggpjapmhakklaaGreat
open Go.RowKit Go.ChangeShapes Go.WideShapes Go.ChangeAt Go.Joins

set_option linter.unusedVariables false in
set_option maxRecDepth 100000 in
theorem liftedFnExactAddressTrace (os : Os) (started : os.Started) (H : Type) (enc : TypeId × Value → H) :
    ReturnsInHanded {} Tryz.checked os 3 .any (Rows.fnExactAddressTraceSpec.pre6 enc Tryz.prog Tryz.f3 Rows.fnExactAddressTraceRow.domain false) (Rows.fnExactAddressTraceSpec.post enc Tryz.prog Tryz.f3 false true false false) := by
  refine returnsInHanded_of_change (C := Tryz.checked) own started (by kernel_rfl) Tryz.func3
    (ChangeSpec.witness6 (enc := enc) (C := Tryz.checked) false ⟨#[], #[.agg #[.slice none 0 0, .slice none 0 0]], []⟩ 8 (by kernel_rfl) (by kernel_rfl) (by kernel_rfl) (by kernel_rfl)) ?_
  intro W base args ds gs before hval0 hW hcnd _
  have hval : ∀ (j : Nat) t v, Tryz.f3.params[j]? = some t → args[j]? = some v → Value.okWide Tryz.prog W .any base t v := hval0
  have hW' := hW
  obtain ⟨p, q, hA0, hV, rfl, hfz, hnd⟩ := hW
  have hA : DataW.TrodAll enc Tryz.prog W 0 (fun _ => true) true Tryz.f3.params.toList args.toList ds p := hA0
  rw [Tryz.params3] at hA hval
  obtain ⟨v0, vs0, d0, ds0, p0, q0, hargs, rfl, rfl, h0, r0⟩ := trodAll_cons hA
  obtain ⟨rfl, rfl, rfl⟩ := trodAll_nil r0
  obtain rfl : args = #[v0] := by cases args; simp_all
  obtain ⟨rfl, rfl⟩ := trodVars_none hV
  have lt0 : ∀ x ∈ p0, x.block < W.heap.size := by obtain ⟨m, hm⟩ := h0; exact DataW.trod_lt m _ _ _ hm
  have o0 := open_prog (hval 0 25 v0 rfl rfl) h0
  clear hA0 hval0
  refine (walkFnExactAddressTrace v0 W o0).mono fun e W' ⟨he, bel⟩ => ?_
  subst he
  exact ⟨_, rfl, _, _, _, [], _, [], hW', trodAll_mk1 (shut_bool Tryz.underlying4 _), (trodAll_cons_mk (Below.trod laidOut (by kernel_rfl) (of_decide_eq_true (by kernel_rfl)) h0 bel lt0) trodAll_mk0), rfl, bel.frame _, fun h => by cases h⟩

theorem bothFnExactAddressTrace {a b : Bool} (ha : a = true) (hb : b = true) : (a && b) = true := by rw [ha, hb]; rfl
set_option maxRecDepth 100000 in
set_option maxHeartbeats 40000000 in
theorem closedFnExactAddressTrace : joinedFacts Tryz.pinned.checked.prog 3 Tryz.f3 Rows.fnExactAddressTraceSpec Rows.fnExactAddressTraceRow = true := by
  unfold joinedFacts
  repeat' (with_reducible refine bothFnExactAddressTrace ?_ ?_)
  all_goals (as_aux_lemma => kernel_rfl)
theorem overFnExactAddressTrace : Rows.fnExactAddressTraceRow.holds Tryz.pinned (OpenSpec.ofChange Rows.fnExactAddressTraceSpec) :=
  OpenClaim.holds_of_wide 3 Tryz.f3 rfl rfl rfl rfl rfl rfl rfl ⟨rfl, rfl, rfl, rfl, rfl⟩ rfl rfl rfl rfl rfl (by as_aux_lemma => kernel_rfl) Tryz.func3 closedFnExactAddressTrace
    (of_decide_eq_true (by kernel_rfl)) (by unfold Func.isWrapper; first | (rw [if_pos (by decide +kernel)]; kernel_rfl) | (rw [if_neg (by decide +kernel)]; exact ⟨rfl, rfl⟩))
    (fun os started H enc _ => liftedFnExactAddressTrace os started H enc)

/-- The given statement. -/
theorem provedFnExactAddressTrace : Rows.FnExactAddressTraceSaid := overFnExactAddressTrace

end Go.Proofs.YtggpjapmhakklaaGreat
