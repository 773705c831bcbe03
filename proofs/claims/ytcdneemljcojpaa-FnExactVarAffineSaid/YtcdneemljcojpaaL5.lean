/- FnExactVarAffine: VarAffine answers as its model at every argument. -/
import Derived.Test.YtcdneemljcojpaaA11
import Derived.Test.YtcdneemljcojpaaOp
import Derived.Deep.RegionHeld3
import Derived.Deep.RegionWith
namespace Go.Proofs.Ytcdneemljcojpaa
open Go.RowKit Go.ChangeShapes Go.WideShapes Go.ChangeAt Go.Joins

theorem varR_len (v : Int) : (varR v).1.length ≤ 4 := by
  unfold varR; split
  · simp [unitL_len]
  · simp

set_option maxHeartbeats 2000000 in
theorem walk0FnExactVarAffine (v : Int) (w : World) :
    Calls Try.prog 17 #[.int .i64 v] w fun e w' => e = .returned (.bool true) ∧ Ext w w' := by
  obtain ⟨r1, r2, r3, hr⟩ : ∃ r1 r2 r3, varR v = (r1, r2, r3) := ⟨_, _, _, rfl⟩
  have hlen : r1.length ≤ 4 := by have := varR_len v; rw [hr] at this; exact this
  have HR := Lib.hid hr; clear hr
  generalize hn : r1.length = n at *
  have HN := Lib.hid hn; clear hn
  go_enter Try.func17, Try.ntmps17
  go_wp2_with (fail)
  refine (specVarAffine_any v _).mono ?_
  rw [HR.out]
  rintro e W1 ⟨⟨p1, c1, rfl, hv1⟩, hE1⟩
  dsimp only at hv1 ⊢
  rw [HN.out] at hv1 ⊢
  have hw0 := hE1.size_le
  have E1 := Lib.hid hE1; have HV1 := Lib.hid hv1; clear hE1 hv1
  go_wp2_with (fail)
  refine (VarAffine_any v _).mono ?_
  rw [HR.out]
  rintro e W2 ⟨⟨p2, c2, rfl, hv2⟩, hE⟩
  dsimp only at hv2 ⊢
  rw [HN.out] at hv2 ⊢
  have x0 := hE.keep (new0 W1 _ _ _)
  have x1 := hE.keep (new1 W1 _ _ _ _)
  have g2 : Ext W1 W2 := ((Ext.refl W1).alloc _).trans hE
  have E2 : Hid (Ext w W2) := E1.out.trans g2
  have HV2 := Lib.hid (hv2.weak (B' := W1.heap.size + 1) (by simp))
  have HW2 := Lib.hid (HV1.out.ext g2)
  have hblk : Hid (∀ b, (Value.slice p1 n c1).ownBlock = some b → b < W1.heap.size) := HV1.out.block_lt
  have hlt1 := World.block_lt_of_cell? W2 _ x0
  clear g2 hE hv2 HV1
  generalize W1.heap.size = gx at *
  go_wp2_with (fail)
  refine (eqAffine_any (.slice p2 n c2) (.slice p1 n c1) r1 r1 r2 r2 _ (HV2.out.at.ext ((Ext.refl W2).alloc _)) (HW2.out.at.ext ((Ext.refl W2).alloc _))).mono ?_
  rw [affEqB_self]
  rintro e W3 ⟨rfl, hE⟩
  have g3 : Ext W2 W3 := ((Ext.refl W2).alloc _).trans hE
  have E3 : Hid (Ext w W3) := E2.out.trans g3
  have y0 := hE.keep (new0 W2 _ _ _)
  have y1 := hE.keep (new1 W2 _ _ _ _)
  replace x0 := g3.keep x0
  replace x1 := g3.keep x1
  have HV3 := Lib.hid (HV2.out.ext g3)
  have HW3 := Lib.hid (HW2.out.ext g3)
  have hlt2 : Hid (∀ b, (Value.slice p2 n c2).ownBlock = some b → b < W2.heap.size) := HV2.out.block_lt
  clear g3 hE HV2 HW2
  generalize W2.heap.size = gy at *
  have hnx : some gx ≠ (Value.slice p2 n c2).ownBlock := own_block_ge HV3.out (by omega)
  have hny : some gy ≠ (Value.slice p2 n c2).ownBlock := fun e => by have := hlt2.out gy e.symm; omega
  have HNX := Lib.hid hnx; have HNY := Lib.hid hny; clear hnx hny
  go_wp2_with (fail)
  refine (markAffine_any (gx + 1) p2 n c2 r1 r2 1 _ HN.out (HV3.out.row HN.out) (by omega) (by omega)).mono ?_
  rintro e W4 ⟨rfl, h1, h2⟩
  replace x0 := h2.cell x0 HNX.out
  replace x1 := h2.cell x1 HNX.out
  replace y0 := h2.cell y0 HNY.out
  replace y1 := h2.cell y1 HNY.out
  have E4 : Hid (Ext w W4) := E3.out.grown h2 (fun k hk => by have := (HV3.out.lt k hk).1; omega)
  have HM4 : Hid (IntsOwn (gx + 1) W4 (.slice p2 n c2) (marks 1 n)) := IntsOwn.mk h1 (marks_len 1 n)
  have HW4 := Lib.hid (HW3.out.beside HV3.out (fun b hb => by have := hblk.out b hb; omega) h2)
  clear h1 h2 HV3 HW3
  go_wp2_with (fail)
  refine (heldAffine_any (.slice p2 n c2) n r2 1 _ HM4.out.at (by omega) (by omega)).mono ?_
  rintro e W5 ⟨rfl, hE⟩
  replace x0 := hE.keep x0
  replace x1 := hE.keep x1
  replace y0 := hE.keep y0
  replace y1 := hE.keep y1
  have E5 : Hid (Ext w W5) := E4.out.trans hE
  have HM5 := Lib.hid (HM4.out.ext hE)
  have HW5 := Lib.hid (HW4.out.ext hE)
  clear hE HM4 HW4
  go_wp2_with (fail)
  refine (VarAffine_any v _).mono ?_
  rw [HR.out]
  rintro e W6 ⟨⟨p6, c6, rfl, hv6⟩, hE⟩
  dsimp only at hv6 ⊢
  rw [HN.out] at hv6 ⊢
  replace x0 := hE.keep x0
  replace x1 := hE.keep x1
  replace y0 := hE.keep y0
  replace y1 := hE.keep y1
  have E6 : Hid (Ext w W6) := E5.out.trans hE
  have HM6 := Lib.hid (HM5.out.ext hE)
  have HW6 := Lib.hid (HW5.out.ext hE)
  have HV6 := Lib.hid hv6.at
  have hltx := World.block_lt_of_cell? W6 _ x0
  have hlty := World.block_lt_of_cell? W6 _ y0
  clear hE HM5 HW5 hv6
  go_wp2_with (fail)
  refine (eqAffine_any (.slice p6 n c6) (.slice p1 n c1) r1 r1 r2 r2 _ (HV6.out.ext ((Ext.refl W6).alloc _)) (HW6.out.at.ext ((Ext.refl W6).alloc _))).mono ?_
  rw [affEqB_self]
  rintro e W7 ⟨rfl, hE⟩
  have g7 : Ext W6 W7 := ((Ext.refl W6).alloc _).trans hE
  have E7 : Hid (Ext w W7) := E6.out.trans g7
  replace y0 := g7.keep y0
  replace y1 := g7.keep y1
  have HM7 := Lib.hid (HM6.out.ext g7)
  clear hE g7 HM6 HW6 HV6 x0 x1 hltx hlty
  go_wp2_with (fail)
  refine (heldAffine_any (.slice p2 n c2) n r2 1 _ HM7.out.at (by omega) (by omega)).mono ?_
  rintro e W8 ⟨rfl, hE⟩
  have E8 : Hid (Ext w W8) := E7.out.trans hE
  clear hE
  go_wp2
  go_ret
  exact ⟨rfl, E8.out⟩

theorem walkFnExactVarAffine (v0 : Value) (w : World) (h0 : RInt w v0) :
    Calls Try.prog 17 #[v0] w fun e w' => e = .returned (.bool true) ∧ Below w.heap.size w w' := by
  obtain ⟨v, rfl, _⟩ := h0
  exact walk0FnExactVarAffine v w

set_option linter.unusedVariables false in
set_option maxRecDepth 100000 in
theorem liftedFnExactVarAffine (os : Os) (started : os.Started) (H : Type) (enc : TypeId × Value → H) :
    ReturnsInHanded {} Try.checked os 17 .any (Rows.fnExactVarAffineSpec.pre6 enc Try.prog Try.f17 Rows.fnExactVarAffineRow.domain false) (Rows.fnExactVarAffineSpec.post enc Try.prog Try.f17 false true false false) := by
  refine returnsInHanded_of_change (C := Try.checked) own started (by kernel_rfl) Try.func17
    (ChangeSpec.witness6 (enc := enc) (C := Try.checked) false ⟨#[], #[.int .i64 0], []⟩ 8 (by kernel_rfl) (by kernel_rfl) (by kernel_rfl) (by kernel_rfl)) ?_
  intro W base args ds gs before hval0 hW hcnd _
  have hval : ∀ (j : Nat) t v, Try.f17.params[j]? = some t → args[j]? = some v → Value.okWide Try.prog W .any base t v := hval0
  have hW' := hW
  obtain ⟨p, q, hA0, hV, rfl, hfz, hnd⟩ := hW
  have hA : DataW.TrodAll enc Try.prog W 0 (fun _ => true) true Try.f17.params.toList args.toList ds p := hA0
  rw [Try.params17] at hA hval
  obtain ⟨v0, vs0, d0, ds0, p0, q0, hargs, rfl, rfl, h0, r0⟩ := trodAll_cons hA
  obtain ⟨rfl, rfl, rfl⟩ := trodAll_nil r0
  obtain rfl : args = #[v0] := by cases args; simp_all
  obtain ⟨rfl, rfl⟩ := trodVars_none hV
  have lt0 : ∀ x ∈ p0, x.block < W.heap.size := by obtain ⟨m, hm⟩ := h0; exact DataW.trod_lt m _ _ _ hm
  have o0 := open_int1 (hval 0 3 v0 rfl rfl) h0
  clear hA0 hval0
  refine (walkFnExactVarAffine v0 W o0).mono fun e W' ⟨he, bel⟩ => ?_
  subst he
  exact ⟨_, rfl, _, _, _, [], _, [], hW', trodAll_mk1 (shut_bool Try.underlying4 _), (trodAll_cons_mk (Below.trod laidOut (by kernel_rfl) (of_decide_eq_true (by kernel_rfl)) h0 bel lt0) trodAll_mk0), rfl, bel.frame _, fun h => by cases h⟩

theorem overFnExactVarAffine : Rows.fnExactVarAffineRow.holds Try.pinned (OpenSpec.ofChange Rows.fnExactVarAffineSpec) :=
  OpenClaim.holds_of_wide 17 Try.f17 rfl rfl rfl rfl rfl rfl rfl ⟨rfl, rfl, rfl, rfl, rfl⟩ rfl rfl rfl rfl rfl (by kernel_rfl) Try.func17 (by kernel_rfl)
    (of_decide_eq_true (by kernel_rfl)) (by unfold Func.isWrapper; first | (rw [if_pos (by decide +kernel)]; kernel_rfl) | (rw [if_neg (by decide +kernel)]; exact ⟨rfl, rfl⟩))
    (fun os started H enc _ => liftedFnExactVarAffine os started H enc)

/-- The given statement. -/
theorem provedFnExactVarAffine : Rows.FnExactVarAffineSaid := overFnExactVarAffine
#print axioms provedFnExactVarAffine
end Go.Proofs.Ytcdneemljcojpaa
