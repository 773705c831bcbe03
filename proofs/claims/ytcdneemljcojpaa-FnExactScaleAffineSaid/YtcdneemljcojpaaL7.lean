/- FnExactScaleAffine: ScaleAffine answers as its model at every argument. -/
import Derived.Test.YtcdneemljcojpaaA14
import Derived.Test.YtcdneemljcojpaaA11
import Derived.Test.YtcdneemljcojpaaOp
import Derived.Deep.RegionHeld3
namespace Go.Proofs.Ytcdneemljcojpaa
open Go.RowKit Go.ChangeShapes Go.WideShapes Go.ChangeAt Go.Joins

theorem chk_len' (xs : List Int) (c : Int) : (chk xs c).1.length ≤ 4 := by
  unfold chk; split
  · rename_i h; simp [affValidB_len h]
  · simp
theorem scaleR_len (xs : List Int) (c k : Int) : (scaleR xs c k).1.length ≤ 4 := by
  unfold scaleR; split
  · exact chk_len' _ _
  · simp
/-- A row of the call's own stays where an older one is written. -/
theorem IntsOwn.above' {B : Nat} {w w' : World} {v u : Value} {xs : List Int} (h : IntsOwn B w v xs) (hu : ∀ b, u.ownBlock = some b → b < B) (hg : w.grownBy w' u.ownBlock) : IntsOwn B w' v xs := by
  refine World.ownsRow.kept h hg ?_
  cases hb : v.ownBlock with
  | none => exact .inl rfl
  | some b => exact .inr (fun e => by have h1 := (h.lt b hb).1; have h2 := hu b e.symm; omega)

set_option maxHeartbeats 8000000 in
set_option maxRecDepth 100000 in
theorem walk0FnExactScaleAffine (s : Value) (xs : List Int) (c m : Int) (w : World) (hs : IntsAt w s xs) (hm : xs.length ≤ 1048576) (hz0 : 0 ≤ szI 1048576 xs.length) :
    Calls Try.prog 14 #[.agg #[s, .int .i64 c], .int .i64 m] w fun e w' => e = .returned (.bool true) ∧ Ext w w' := by
    have HS := Lib.hid hs; clear hs
    obtain ⟨p, k, rfl, -, -⟩ := HS.out
    obtain ⟨r1, r2, r3, hr⟩ : ∃ r1 r2 r3, scaleR xs c m = (r1, r2, r3) := ⟨_, _, _, rfl⟩
    have hlen : r1.length ≤ 4 := by have := scaleR_len xs c m; rw [hr] at this; exact this
    have HR := Lib.hid hr; clear hr
    generalize hn : r1.length = n at *
    have HN := Lib.hid hn; clear hn
    generalize hga : w.heap.size = ga at *
    have HGA := Lib.hid hga; clear hga
    go_enter Try.func14, Try.ntmps14
    go_wp2_with (fail)
    refine (szAffine_any _ _ _ _ _ _ (by omega) (by omega) (by omega)).mono ?_
    rintro e W1 ⟨rfl, hE⟩
    have E1 : Hid (Ext w W1) := ((Ext.refl w).alloc _).trans hE
    obtain ⟨a0, a1, -, -⟩ := blk2 (hE.blk (g := ga) (blk_at HGA.out.symm))
    clear hE
    generalize szI 1048576 xs.length = z at *
    rw [HGA.out]
    go_wp2_with (fail)
    refine (toAffine_any (.slice p xs.length k) xs c _ (HS.out.ext E1.out) hm).mono ?_
    rintro e w3 ⟨p3, c3, rfl, hv3, hE⟩
    have E3 : Hid (Ext w w3) := E1.out.trans hE
    replace a0 := hE.keep a0
    replace a1 := hE.keep a1
    have HV3 := Lib.hid hv3.at
    clear hE hv3
    go_wp2_with (fail)
    refine (specScaleAffine_any (.slice p3 xs.length c3) xs c m _ HV3.out).mono ?_
    rw [HR.out]
    rintro e w5 ⟨⟨p5, c5, rfl, hv5⟩, hE⟩
    dsimp only at hv5 ⊢
    rw [HN.out] at hv5 ⊢
    have E5 : Hid (Ext w w5) := E3.out.trans hE
    replace a0 := hE.keep a0
    replace a1 := hE.keep a1
    have HW5 := Lib.hid hv5
    have hwb : Hid (∀ b, (Value.slice p5 n c5).ownBlock = some b → b < w5.heap.size) := hv5.block_lt
    have hla : ga < w5.heap.size := World.block_lt_of_cell? w5 _ a0
    clear hE hv5 HV3
    go_wp2_with (fail)
    refine (toAffine_any (.slice p xs.length k) xs c _ (HS.out.ext (E5.out.alloc _)) hm).mono ?_
    rintro e w6 ⟨p6, c6, rfl, hv6, hE⟩
    have g6 : Ext w5 w6 := ((Ext.refl w5).alloc _).trans hE
    have E6 : Hid (Ext w w6) := E5.out.trans g6
    have w0 := hE.keep (new0 w5 _ _ _)
    have w1' := hE.keep (new1 w5 _ _ _ _)
    replace a0 := g6.keep a0
    replace a1 := g6.keep a1
    have HX6 := Lib.hid (hv6.weak (B' := w5.heap.size + 1) (by simp))
    have hx6b : Hid (∀ b, (Value.slice p6 xs.length c6).ownBlock = some b → b < w6.heap.size) := hv6.block_lt
    have HW6 := Lib.hid (HW5.out.ext g6)
    have hlw : w5.heap.size < w6.heap.size := World.block_lt_of_cell? w6 _ w0
    clear hE hv6 g6 HW5
    generalize w5.heap.size = gw at *
    go_wp2_with (fail)
    refine (ScaleAffine_any (.slice p6 xs.length c6) xs c m _ (HX6.out.at.ext ((Ext.refl w6).alloc _))).mono ?_
    rw [HR.out]
    rintro e w8 ⟨⟨p8, c8, rfl, hv8⟩, hE⟩
    dsimp only at hv8 ⊢
    rw [HN.out] at hv8 ⊢
    have g8 : Ext w6 w8 := ((Ext.refl w6).alloc _).trans hE
    have E8 : Hid (Ext w w8) := E6.out.trans g8
    have x0 := hE.keep (new0 w6 _ _ _)
    have x1 := hE.keep (new1 w6 _ _ _ _)
    replace a0 := g8.keep a0
    replace a1 := g8.keep a1
    replace w0 := g8.keep w0
    replace w1' := g8.keep w1'
    have HX8 := Lib.hid (HX6.out.ext g8)
    have HW8 := Lib.hid (HW6.out.ext g8)
    have HV8 := Lib.hid (hv8.weak (B' := w6.heap.size + 1) (by simp))
    have hv8b : Hid (∀ b, (Value.slice p8 n c8).ownBlock = some b → b < w8.heap.size) := hv8.block_lt
    have hlx : w6.heap.size < w8.heap.size := World.block_lt_of_cell? w8 _ x0
    have hlw8 : gw < w8.heap.size := World.block_lt_of_cell? w8 _ w0
    clear hE hv8 g8 HX6 HW6
    generalize w6.heap.size = gx at *
    go_wp2_with (fail)
    refine (eqAffine_any (.slice p8 n c8) (.slice p5 n c5) r1 r1 r2 r2 _ (HV8.out.at.ext ((Ext.refl w8).alloc _)) (HW8.out.at.ext ((Ext.refl w8).alloc _))).mono ?_
    rw [affEqB_self]
    rintro e w9 ⟨rfl, hE⟩
    have g9 : Ext w8 w9 := ((Ext.refl w8).alloc _).trans hE
    have E9 : Hid (Ext w w9) := E8.out.trans g9
    have z0 := hE.keep (new0 w8 _ _ _)
    have z1 := hE.keep (new1 w8 _ _ _ _)
    replace a0 := g9.keep a0
    replace a1 := g9.keep a1
    replace w0 := g9.keep w0
    replace w1' := g9.keep w1'
    replace x0 := g9.keep x0
    replace x1 := g9.keep x1
    have HX9 := Lib.hid (HX8.out.ext g9)
    have HW9 := Lib.hid (HW8.out.ext g9)
    have HV9 := Lib.hid (HV8.out.ext g9)
    clear hE g9 HX8 HW8 HV8
    generalize w8.heap.size = gz at *
    have heq : affEqB xs c xs c = true := affEqB_self xs c
    go_wp2_with (fail)
    go_region_held3 (fun W => W.cell? ⟨gx, 0, none⟩ = some (.slice p6 xs.length c6) ∧ W.cell? ⟨gx, 1, none⟩ = some (.int .i64 c) ∧ W.cell? ⟨ga, 0, none⟩ = some (.slice p xs.length k) ∧ W.cell? ⟨ga, 1, none⟩ = some (.int .i64 c))
      (first | exact ⟨x0, x1, a0, a1⟩ | exact ⟨g3.keep x0, g3.keep x1, g3.keep a0, g3.keep a1⟩ | exact ⟨g5.keep x0, g5.keep x1, g5.keep a0, g5.keep a1⟩ | fail)
      (first
        | (go_at_call 37; (with_reducible refine (toAffine_any (.slice p xs.length k) xs c _ (HS.out.ext E9.out.drew) hm).mono ?_); rintro e wa ⟨p9, c9, rfl, hv9, hE9⟩; have g3 := (Ext.refl w9).drew.trans hE9)
        | (go_at_call 38; (with_reducible refine (eqAffine_any (.slice p6 xs.length c6) (.slice p9 xs.length c9) xs xs c c _ (HX9.out.at.ext g3) hv9.at).mono ?_); rintro e we ⟨rfl, hE10⟩; have g5 := g3.trans hE10))
    have E12 : Hid (Ext w we) := E9.out.trans g5
    replace a0 := g5.keep a0
    replace a1 := g5.keep a1
    replace w0 := g5.keep w0
    replace w1' := g5.keep w1'
    replace x0 := g5.keep x0
    replace x1 := g5.keep x1
    replace z0 := g5.keep z0
    replace z1 := g5.keep z1
    have HX12 := Lib.hid (HX9.out.ext g5)
    have HW12 := Lib.hid (HW9.out.ext g5)
    have HV12 := Lib.hid (HV9.out.ext g5)
    clear g3 g5 hE9 hE10 hv9 HX9 HW9 HV9 heq
    go_wp2_with (fail)
    have hnx : ∀ b, b < gw + 1 ∨ gx ≤ b → some b ≠ (Value.slice p6 xs.length c6).ownBlock := fun b hb e => by
      have h1 := (HX12.out.lt b e.symm).1
      have h2 := hx6b.out b e.symm
      omega
    have hnz : ∀ b, b < gx + 1 ∨ gz ≤ b → some b ≠ (Value.slice p8 n c8).ownBlock := fun b hb e => by
      have h1 := (HV12.out.lt b e.symm).1
      have h2 := hv8b.out b e.symm
      omega
    have HNX := Lib.hid hnx; have HNZ := Lib.hid hnz
    clear hnx hnz
    have HXm : Hid (we.ownsRow (gw + 1) 3 1 (.slice p6 xs.length c6) xs.length (xs.map (Value.int .i64))) := HX12.out
    refine (markAffine_any (gw + 1) p6 xs.length c6 xs c 1 _ rfl HXm.out (by omega) (by omega)).mono ?_
    rintro e wf ⟨rfl, h1, h2⟩
    replace a0 := h2.cell a0 (HNX.out _ (by dsimp only; omega))
    replace a1 := h2.cell a1 (HNX.out _ (by dsimp only; omega))
    replace w0 := h2.cell w0 (HNX.out _ (by dsimp only; omega))
    replace w1' := h2.cell w1' (HNX.out _ (by dsimp only; omega))
    replace z0 := h2.cell z0 (HNX.out _ (by dsimp only; omega))
    replace z1 := h2.cell z1 (HNX.out _ (by dsimp only; omega))
    have E13 : Hid (Ext w wf) := E12.out.grown h2 (fun b hb => by have := (HX12.out.lt b hb).1; rw [HGA.out]; omega)
    have HW13 := Lib.hid (HW12.out.beside HX12.out (fun b hb => by have := hwb.out b hb; omega) h2)
    have HV13 := Lib.hid (HV12.out.above' (fun b hb => by have := hx6b.out b hb; omega) h2)
    clear h1 h2 HX12 HW12 HV12 HXm x0 x1
    have hk1 : (0 : Int) ≤ 1 + xs.length := by omega
    generalize (1 : Int) + xs.length = ky at *
    have hkd : decide (ky < 0) = false := by simp; omega
    go_wp2_with (fail)
    refine (eqAffine_any (.slice p8 n c8) (.slice p5 n c5) r1 r1 r2 r2 _ HV13.out.at HW13.out.at).mono ?_
    rw [affEqB_self]
    rintro e wh ⟨rfl, hE⟩
    have E15 : Hid (Ext w wh) := E13.out.trans hE
    replace a0 := hE.keep a0
    replace a1 := hE.keep a1
    replace w0 := hE.keep w0
    replace w1' := hE.keep w1'
    replace z0 := hE.keep z0
    replace z1 := hE.keep z1
    have HW15 := Lib.hid (HW13.out.ext hE)
    have HV15 := Lib.hid (HV13.out.ext hE)
    clear hE HW13 HV13
    go_wp2_with (fail)
    refine (markAffine_any (gx + 1) p8 n c8 r1 r2 1 _ HN.out (HV15.out.row HN.out) (by omega) (by omega)).mono ?_
    rintro e wk ⟨rfl, h1, h2⟩
    replace a0 := h2.cell a0 (HNZ.out _ (by dsimp only; omega))
    replace a1 := h2.cell a1 (HNZ.out _ (by dsimp only; omega))
    replace w0 := h2.cell w0 (HNZ.out _ (by dsimp only; omega))
    replace w1' := h2.cell w1' (HNZ.out _ (by dsimp only; omega))
    replace z0 := h2.cell z0 (HNZ.out _ (by dsimp only; omega))
    replace z1 := h2.cell z1 (HNZ.out _ (by dsimp only; omega))
    have E16 : Hid (Ext w wk) := E15.out.grown h2 (fun b hb => by have := (HV15.out.lt b hb).1; rw [HGA.out]; omega)
    have HM16 : Hid (IntsOwn (gx + 1) wk (.slice p8 n c8) (marks 1 n)) := IntsOwn.mk h1 (marks_len 1 n)
    have HW16 := Lib.hid (HW15.out.beside HV15.out (fun b hb => by have := hwb.out b hb; omega) h2)
    clear h1 h2 HV15 HW15
    go_wp2_with (fail)
    refine (heldAffine_any (.slice p8 n c8) n r2 1 _ HM16.out.at (by omega) (by omega)).mono ?_
    rintro e wm ⟨rfl, hE⟩
    have Em : Hid (Ext w wm) := E16.out.trans hE
    replace a0 := hE.keep a0
    replace a1 := hE.keep a1
    replace w0 := hE.keep w0
    replace w1' := hE.keep w1'
    replace z0 := hE.keep z0
    replace z1 := hE.keep z1
    have HM17 := Lib.hid (HM16.out.ext hE)
    have HW17 := Lib.hid (HW16.out.ext hE)
    clear hE HM16 HW16 hkd hk1
    go_wp2_with (fail)
    refine (toAffine_any (.slice p xs.length k) xs c _ (HS.out.ext Em.out) hm).mono ?_
    rintro e wn ⟨pn, cn, rfl, hvn, hE⟩
    have En : Hid (Ext w wn) := Em.out.trans hE
    replace w0 := hE.keep w0
    replace w1' := hE.keep w1'
    replace z0 := hE.keep z0
    replace z1 := hE.keep z1
    have HVn := Lib.hid hvn.at
    have HM18 := Lib.hid (HM17.out.ext hE)
    have HW18 := Lib.hid (HW17.out.ext hE)
    clear hE hvn HM17 HW17 a0 a1
    go_wp2_with (fail)
    refine (ScaleAffine_any (.slice pn xs.length cn) xs c m _ HVn.out).mono ?_
    rw [HR.out]
    rintro e wo ⟨⟨po, co, rfl, hvo⟩, hE⟩
    dsimp only at hvo ⊢
    rw [HN.out] at hvo ⊢
    have Eo : Hid (Ext w wo) := En.out.trans hE
    replace w0 := hE.keep w0
    replace w1' := hE.keep w1'
    replace z0 := hE.keep z0
    replace z1 := hE.keep z1
    have HVo := Lib.hid hvo.at
    have HM19 := Lib.hid (HM18.out.ext hE)
    have HW19 := Lib.hid (HW18.out.ext hE)
    have hlw9 : gw < wo.heap.size := World.block_lt_of_cell? wo _ w0
    have hlz9 : gz < wo.heap.size := World.block_lt_of_cell? wo _ z0
    clear hE hvo HVn HM18 HW18
    go_wp2_with (fail)
    refine (eqAffine_any (.slice po n co) (.slice p5 n c5) r1 r1 r2 r2 _ (HVo.out.ext ((Ext.refl wo).alloc _)) (HW19.out.at.ext ((Ext.refl wo).alloc _))).mono ?_
    rw [affEqB_self]
    rintro e wp ⟨rfl, hE⟩
    have gp : Ext wo wp := ((Ext.refl wo).alloc _).trans hE
    have Ep : Hid (Ext w wp) := Eo.out.trans gp
    replace z0 := gp.keep z0
    replace z1 := gp.keep z1
    have HM20 := Lib.hid (HM19.out.ext gp)
    clear hE gp HM19 HW19 HVo w0 w1'
    go_wp2_with (fail)
    refine (heldAffine_any (.slice p8 n c8) n r2 1 _ HM20.out.at (by omega) (by omega)).mono ?_
    rintro e wq ⟨rfl, hE⟩
    have Eq : Hid (Ext w wq) := Ep.out.trans hE
    clear hE
    go_wp2
    go_ret
    exact ⟨rfl, Eq.out⟩

set_option maxHeartbeats 2000000 in
set_option maxRecDepth 100000 in
theorem walkFnExactScaleAffine (v0 v1 : Value) (w : World) (h0 : RAff w v0) (h1 : RInt w v1) :
    Calls Try.prog 14 #[v0, v1] w fun e w' => e = .returned (.bool true) ∧ Below w.heap.size w w' := by
  obtain ⟨s, xs, c, rfl, hs, _, _⟩ := h0
  obtain ⟨m, rfl, _⟩ := h1
  by_cases hsmall : szI 1048576 xs.length < 0
  · have HS := Lib.hid hs; clear hs
    obtain ⟨p, k, rfl, hm, -⟩ := HS.out
    go_enter Try.func14, Try.ntmps14
    go_wp2_with (fail)
    refine (szAffine_any _ _ _ _ _ _ hm (by omega) (by omega)).mono ?_
    rintro e W1 ⟨rfl, hE⟩
    have E1 : Hid (Ext w W1) := ((Ext.refl w).alloc _).trans hE
    clear hE
    go_wp2_with (fail)
    go_ret
    exact ⟨rfl, E1.out⟩
  · have hx : xs.length ≤ 1048576 := by unfold szI at hsmall; split at hsmall <;> omega
    exact walk0FnExactScaleAffine s xs c m w hs hx (by omega)

set_option linter.unusedVariables false in
set_option maxRecDepth 100000 in
theorem liftedFnExactScaleAffine (os : Os) (started : os.Started) (H : Type) (enc : TypeId × Value → H) :
    ReturnsInHanded {} Try.checked os 14 .any (Rows.fnExactScaleAffineSpec.pre6 enc Try.prog Try.f14 Rows.fnExactScaleAffineRow.domain false) (Rows.fnExactScaleAffineSpec.post enc Try.prog Try.f14 false true false false) := by
  refine returnsInHanded_of_change (C := Try.checked) own started (by kernel_rfl) Try.func14
    (ChangeSpec.witness6 (enc := enc) (C := Try.checked) false ⟨#[], #[.agg #[.slice none 0 0, .int .i64 0], .int .i64 0], []⟩ 8 (by kernel_rfl) (by kernel_rfl) (by kernel_rfl) (by kernel_rfl)) ?_
  intro W base args ds gs before hval0 hW hcnd _
  have hval : ∀ (j : Nat) t v, Try.f14.params[j]? = some t → args[j]? = some v → Value.okWide Try.prog W .any base t v := hval0
  have hW' := hW
  obtain ⟨p, q, hA0, hV, rfl, hfz, hnd⟩ := hW
  have hA : DataW.TrodAll enc Try.prog W 0 (fun _ => true) true Try.f14.params.toList args.toList ds p := hA0
  rw [Try.params14] at hA hval
  obtain ⟨v0, vs0, d0, ds0, p0, q0, hargs, rfl, rfl, h0, r0⟩ := trodAll_cons hA
  obtain ⟨v1, vs1, d1, ds1, p1, q1, rfl, rfl, rfl, h1, r1⟩ := trodAll_cons r0
  obtain ⟨rfl, rfl, rfl⟩ := trodAll_nil r1
  obtain rfl : args = #[v0, v1] := by cases args; simp_all
  obtain ⟨rfl, rfl⟩ := trodVars_none hV
  have lt0 : ∀ x ∈ p0, x.block < W.heap.size := by obtain ⟨m, hm⟩ := h0; exact DataW.trod_lt m _ _ _ hm
  have lt1 : ∀ x ∈ p1, x.block < W.heap.size := by obtain ⟨m, hm⟩ := h1; exact DataW.trod_lt m _ _ _ hm
  have o0 := open_aff (hval 0 44 v0 rfl rfl) h0
  have o1 := open_int1 (hval 1 3 v1 rfl rfl) h1
  clear hA0 hval0
  refine (walkFnExactScaleAffine v0 v1 W o0 o1).mono fun e W' ⟨he, bel⟩ => ?_
  subst he
  exact ⟨_, rfl, _, _, _, [], _, [], hW', trodAll_mk1 (shut_bool Try.underlying4 _), (trodAll_cons_mk (Below.trod laidOut (by kernel_rfl) (of_decide_eq_true (by kernel_rfl)) h0 bel lt0) (trodAll_cons_mk (Below.trod laidOut (by kernel_rfl) (of_decide_eq_true (by kernel_rfl)) h1 bel lt1) trodAll_mk0)), rfl, bel.frame _, fun h => by cases h⟩

theorem overFnExactScaleAffine : Rows.fnExactScaleAffineRow.holds Try.pinned (OpenSpec.ofChange Rows.fnExactScaleAffineSpec) :=
  OpenClaim.holds_of_wide 14 Try.f14 rfl rfl rfl rfl rfl rfl rfl ⟨rfl, rfl, rfl, rfl, rfl⟩ rfl rfl rfl rfl rfl (by kernel_rfl) Try.func14 (by kernel_rfl)
    (of_decide_eq_true (by kernel_rfl)) (by unfold Func.isWrapper; first | (rw [if_pos (by decide +kernel)]; kernel_rfl) | (rw [if_neg (by decide +kernel)]; exact ⟨rfl, rfl⟩))
    (fun os started H enc _ => liftedFnExactScaleAffine os started H enc)

/-- The given statement. -/
theorem provedFnExactScaleAffine : Rows.FnExactScaleAffineSaid := overFnExactScaleAffine
#print axioms provedFnExactScaleAffine
end Go.Proofs.Ytcdneemljcojpaa
