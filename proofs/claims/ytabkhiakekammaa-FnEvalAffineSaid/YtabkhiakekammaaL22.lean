/- FnEvalAffine: values are linear, the walk. -/
import Derived.Test.YtabkhiakekammaaD9
import Derived.Test.YtabkhiakekammaaA19
import Derived.Test.YtabkhiakekammaaA18
import Derived.Test.YtabkhiakekammaaOpB
namespace Go.Proofs.Ytabkhiakekammaa
open Go.RowKit Go.ChangeShapes Go.WideShapes Go.ChangeAt Go.Joins

theorem ints_nil (w : World) (p : Option Addr) (c : Nat) : IntsAt w (.slice p 0 c) [] := ⟨p, c, rfl, by simp, fun i x h => by simp at h⟩
theorem pt_len {ps : List Int} (h : ptB ps = true) : ps.length ≤ 4 := by simp [ptB] at h; exact h.1
theorem pt_set {ps : List Int} (h : ptB ps = true) (M : Nat) : ptB (ps.set M 0) = true := by
  simp only [ptB, Bool.and_eq_true, decide_eq_true_eq, List.all_eq_true, List.length_set] at h ⊢
  exact ⟨h.1, fun x hx => by rcases List.mem_or_eq_of_mem_set hx with hx | rfl; exact h.2 x hx; decide⟩
theorem pt_at {ps : List Int} {i : Nat} {x : Int} (h : ptB ps = true) (hx : ps[i]? = some x) : -9999 ≤ x ∧ x ≤ 9999 := by
  simp only [ptB, Bool.and_eq_true, decide_eq_true_eq, List.all_eq_true] at h
  exact withinB_iff.1 (h.2 x (List.mem_of_getElem? hx))
theorem eval_last {xs ps : List Int} {k y z : Int} {M : Nat} (hv : affValidB xs k = true) (hp : ptB ps = true) (hl : ps.length = M + 1) (hy : xs[M]? = some y) (hz : ps[M]? = some z) : evalR xs k ps = evalR xs k (ps.set M 0) + y * z := by
  rw [evalR_yes hv hp, evalR_yes hv (pt_set hp M)]
  obtain ⟨a, b, c, d, rfl, -⟩ := valid_four hv
  rcases pt_cases hp with rfl | ⟨x0, rfl, -⟩ | ⟨x0, x1, rfl, -⟩ | ⟨x0, x1, x2, rfl, -⟩ | ⟨x0, x1, x2, x3, rfl, -⟩
  · simp at hl
  · obtain rfl : M = 0 := by simp at hl; omega
    simp at hy hz; subst hy hz; simp [evalK]
  · obtain rfl : M = 1 := by simp at hl; omega
    simp at hy hz; subst hy hz; simp [evalK]
  · obtain rfl : M = 2 := by simp at hl; omega
    simp at hy hz; subst hy hz; simp [evalK]
  · obtain rfl : M = 3 := by simp at hl; omega
    simp at hy hz; subst hy hz; simp [evalK]
theorem eval_nil {xs : List Int} {k : Int} (hv : affValidB xs k = true) : evalR xs k [] = k := by rw [evalR_yes hv (by decide)]; simp [evalK]
theorem pt_all {ps : List Int} (h : ps.length ≤ 4) (ha : ps.all (withinB · 9999) = true) : ptB ps = true := by simp only [ptB, Bool.and_eq_true, decide_eq_true_eq]; exact ⟨h, ha⟩
theorem pt_no {ps : List Int} {i : Nat} {x : Int} (hx : ps[i]? = some x) (hn : withinB x 9999 = false) : ptB ps = false := by
  cases hp : ptB ps with
  | false => rfl
  | true => have := withinB_iff.2 (pt_at hp hx); rw [hn] at this; cases this

set_option maxHeartbeats 1600000 in
set_option maxRecDepth 100000 in
theorem walkFnEvalAffine (v0 : Value) (w : World) (h0 : RBytes w v0) :
    Calls Try.prog 5 #[v0] w fun e w' => e = .returned (.bool true) ∧ Below w.heap.size w w' := by
  obtain ⟨p0, n0, c0, rfl, hb0, hl0⟩ := h0
  have hm0 := hb0.2.1
  have HB0 := Lib.hid hb0; have HL0 := Lib.hid hl0; clear hb0 hl0
  by_cases h0 : n0 ≤ 1048576
  · have hd0 : decide ((1048576 : Int) < n0) = false := by simp; omega
    go_enter Try.func5, Try.ntmps5
    go_wp2_with (fail)
    refine (DrawEvalAffine_any p0 n0 c0 _ HB0.out HL0.out).mono ?_
    rintro e w1 ⟨⟨u, v, k, xs, ps, rfl, hx, hp⟩, E1⟩
    obtain ⟨pu, cu, rfl, -, -⟩ := id hx
    obtain ⟨pv, cv, rfl, -, -⟩ := id hp
    have E2 : Ext w1 (w1.alloc (.cells #[.slice pu xs.length cu, .int .i64 k] 25)) := (Ext.refl w1).alloc _
    have HX_0 := Lib.hid (hx.ext E2); have HP_0 := Lib.hid (hp.ext E2)
    have A_0 : Hid ((w1.alloc (.cells #[.slice pu xs.length cu, .int .i64 k] 25)).heap[w1.heap.size]? = some (.cells #[.slice pu xs.length cu, .int .i64 k] 25 (0, 0))) := Lib.hid (blk_at rfl)
    have HE1 := Lib.hid (E1.trans E2)
    clear E2 hx hp E1
    obtain ⟨E, hE0⟩ : ∃ E, evalR xs k ps = E := ⟨_, rfl⟩
    have HEV := Lib.hid hE0; clear hE0
    obtain ⟨A0, A1, -, -⟩ := blk2 A_0.out
    go_wp2_with (fail)
    generalize (w1.alloc (.cells #[.slice pu xs.length cu, .int .i64 k] 25)) = W2 at *
    generalize w1.heap.size = ga at *
    refine (EvalAffine_any (.slice pu xs.length cu) (.slice pv ps.length cv) xs ps k _ HX_0.out HP_0.out).mono ?_
    rw [HEV.out]
    rintro e w3 ⟨rfl, hE⟩
    clear A0 A1
    have A_1 := Lib.hid ((hE).blk A_0.out)
    have HX_1 := Lib.hid (HX_0.out.ext (hE))
    have HP_1 := Lib.hid (HP_0.out.ext (hE))
    have HE_1 := Lib.hid (HE1.out.trans (hE))
    clear A_0 HX_0 HP_0 HE1
    clear hE
    obtain ⟨A0, A1, -, -⟩ := blk2 A_1.out
    go_wp2_with (fail)
    refine (specEvalAffine_any (.slice pu xs.length cu) (.slice pv ps.length cv) xs ps k _ HX_1.out HP_1.out).mono ?_
    rw [HEV.out]
    rintro e w4 ⟨rfl, hE⟩
    clear A0 A1
    have A_2 := Lib.hid ((hE).blk A_1.out)
    have HX_2 := Lib.hid (HX_1.out.ext (hE))
    have HP_2 := Lib.hid (HP_1.out.ext (hE))
    have HE_2 := Lib.hid (HE_1.out.trans (hE))
    clear A_1 HX_1 HP_1 HE_1
    clear hE
    cases hva : affValidB xs k with
    | false =>
      have HVA := Lib.hid hva; clear hva
      obtain ⟨A0, A1, -, -⟩ := blk2 A_2.out
      go_wp2_with (fail)
      refine (AffineValid_any (.slice pu xs.length cu) xs k _ HX_2.out).mono ?_
      rw [HVA.out]
      rintro e w5 ⟨rfl, hE⟩
      clear A0 A1
      have A_3 := Lib.hid ((hE).blk A_2.out)
      have HX_3 := Lib.hid (HX_2.out.ext (hE))
      have HP_3 := Lib.hid (HP_2.out.ext (hE))
      have HE_3 := Lib.hid (HE_2.out.trans (hE))
      clear A_2 HX_2 HP_2 HE_2
      clear hE
      obtain ⟨A0, A1, -, -⟩ := blk2 A_3.out
      go_wp2_with (fail)
      refine (specEvalAffine_any (.slice pu xs.length cu) (.slice pv ps.length cv) xs ps k _ HX_3.out HP_3.out).mono ?_
      rw [HEV.out]
      rintro e w6 ⟨rfl, hE⟩
      clear A0 A1
      have A_4 := Lib.hid ((hE).blk A_3.out)
      have HX_4 := Lib.hid (HX_3.out.ext (hE))
      have HP_4 := Lib.hid (HP_3.out.ext (hE))
      have HE_4 := Lib.hid (HE_3.out.trans (hE))
      clear A_3 HX_3 HP_3 HE_3
      clear hE
      go_wp2
      go_ret
      exact ⟨rfl, HE_4.out⟩
    | true =>
      have HVA := Lib.hid hva; clear hva
      obtain ⟨A0, A1, -, -⟩ := blk2 A_2.out
      go_wp2_with (fail)
      refine (AffineValid_any (.slice pu xs.length cu) xs k _ HX_2.out).mono ?_
      rw [HVA.out]
      rintro e w5 ⟨rfl, hE⟩
      clear A0 A1
      have A_3 := Lib.hid ((hE).blk A_2.out)
      have HX_3 := Lib.hid (HX_2.out.ext (hE))
      have HP_3 := Lib.hid (HP_2.out.ext (hE))
      have HE_3 := Lib.hid (HE_2.out.trans (hE))
      clear A_2 HX_2 HP_2 HE_2
      clear hE
      obtain ⟨L, hL⟩ : ∃ L, ps.length = L := ⟨_, rfl⟩
      by_cases hL0 : L = 0
      · have hl0 : ((ps.length : Int) == 0) = true := by rw [hL]; simp; omega
        clear hL hL0
        obtain ⟨A0, A1, -, -⟩ := blk2 A_3.out
        go_wp2_with (fail)
        refine (specEvalAffine_any (.slice pu xs.length cu) (.slice pv ps.length cv) xs ps k _ HX_3.out HP_3.out).mono ?_
        rw [HEV.out]
        rintro e w6 ⟨rfl, hE⟩
        clear A0 A1
        have A_4 := Lib.hid ((hE).blk A_3.out)
        have HX_4 := Lib.hid (HX_3.out.ext (hE))
        have HP_4 := Lib.hid (HP_3.out.ext (hE))
        have HE_4 := Lib.hid (HE_3.out.trans (hE))
        clear A_3 HX_3 HP_3 HE_3
        clear hE
        go_wp2
        go_ret
        exact ⟨rfl, HE_4.out⟩
      by_cases hL5 : 4 < L
      · have hl0 : ((ps.length : Int) == 0) = false := by rw [hL]; simp; omega
        have hl5 : decide ((4 : Int) < ps.length) = true := by rw [hL]; simp; omega
        clear hL hL0 hL5
        obtain ⟨A0, A1, -, -⟩ := blk2 A_3.out
        go_wp2_with (fail)
        refine (specEvalAffine_any (.slice pu xs.length cu) (.slice pv ps.length cv) xs ps k _ HX_3.out HP_3.out).mono ?_
        rw [HEV.out]
        rintro e w6 ⟨rfl, hE⟩
        clear A0 A1
        have A_4 := Lib.hid ((hE).blk A_3.out)
        have HX_4 := Lib.hid (HX_3.out.ext (hE))
        have HP_4 := Lib.hid (HP_3.out.ext (hE))
        have HE_4 := Lib.hid (HE_3.out.trans (hE))
        clear A_3 HX_3 HP_3 HE_3
        clear hE
        go_wp2
        go_ret
        exact ⟨rfl, HE_4.out⟩
      obtain ⟨M, rfl⟩ : ∃ M, L = M + 1 := ⟨L - 1, by omega⟩
      have hM4 : M < 4 := by omega
      have hl0 : ((ps.length : Int) == 0) = false := by rw [hL]; simp; omega
      have hl5 : decide ((4 : Int) < ps.length) = false := by rw [hL]; simp; omega
      clear hL0 hL5
      obtain ⟨y, hy⟩ := get_some (xs := xs) (k := M) (by rw [affValidB_len HVA.out]; exact hM4)
      obtain ⟨z, hz⟩ := get_some (xs := ps) (k := M) (by rw [hL]; omega)
      have HY := Lib.hid hy; have HZ := Lib.hid hz; clear hy hz
      obtain ⟨x0, ps0, hps⟩ : ∃ x0 ps0, ps = x0 :: ps0 := by cases ps with | nil => simp at hL | cons a b => exact ⟨a, b, rfl⟩
      obtain ⟨bp, op, cv2, hpv, hpc, -⟩ := (show IntsAt w5 (.slice pv ps.length cv) (x0 :: ps0) by rw [← hps]; exact HP_3.out).cellsAt
      simp only [Value.slice.injEq] at hpv
      obtain ⟨rfl, -, -⟩ := hpv
      rw [← hps] at hpc
      clear hps
      obtain ⟨pe, ce, hpe, -, hce⟩ := id HX_3.out
      simp only [Value.slice.injEq, true_and] at hpe
      obtain ⟨rfl, rfl⟩ := hpe
      obtain ⟨bx, ox, rfl, hck⟩ := hce M y HY.out
      clear hce
      have HCK := Lib.hid hck; have HPC := Lib.hid hpc; clear hck hpc
      clear hl0 hl5
      have hl0 : (((M : Int) + 1) == 0) = false := by simp; omega
      have hl5 : decide ((4 : Int) < (M : Int) + 1) = false := by simp; omega
      obtain ⟨i0, hi, hz0, hz1, hz2⟩ := info_parts infoInt
      have HQ0 : Hid ((w5.alloc (.cells #[] 3)).ownsRow w5.heap.size 3 1 (.slice (some ⟨w5.heap.size, 0, none⟩) 0 0) 0 []) := Lib.hid (World.ownsRow_made w5 #[] 0 (Nat.le_refl _) (Nat.zero_le _) rfl)
      obtain ⟨A0, A1, -, -⟩ := blk2 A_3.out
      have HL := Lib.hid hL
      rw [hL]
      clear hL
      go_wp2_with (at_builtin; refine wpList_append_own _ rfl (.tmp 45) (.tmp 46) 23 rfl w5.heap.size 3 i0 (.int .i64 0) 1 8 Try.underlying23 hi hz0 hz1 hz2 rfl (by decide) (.slice (some ⟨w5.heap.size, 0, none⟩) 0 0) 0 [] rfl HQ0.out ⟨bp, op, none⟩ (M + 1) cv (ps.map (Value.int .i64)) rfl (by simp [HL.out]) ?c1 ?c2 ?c3 ?c4 ?c5 ?_)
      case c1 => intro j u hu; simp only [List.getElem?_map, Option.map_eq_some_iff] at hu; obtain ⟨x, hx, rfl⟩ := hu; rw [show (⟨bp, op, none⟩ : Addr).add j = ⟨bp, op + j, none⟩ from by simp [Addr.add]]; exact ((Ext.refl w5).alloc _).keep (HPC.out j x hx)
      case c2 => intro u hu; simp only [List.mem_map] at hu; obtain ⟨x, -, rfl⟩ := hu; rfl
      case c3 => unfold maxLen; omega
      case c4 => omega
      case c5 => simp
      intro v' w6 hown' hgrow hnil
      have hne : v' ≠ .slice none 0 0 := by intro e; have := hnil; simp [e] at this
      have hgb : ∀ b, (Value.slice (some ⟨w5.heap.size, 0, none⟩) 0 0).ownBlock = some b → w5.heap.size = b := fun b hb => Option.some.inj hb
      have g6 : Ext w5 w6 := ((Ext.refl w5).alloc (.cells #[] 3)).grown hgrow (fun b hb => by have := hgb b hb; omega)
      have hQ : w6.ownsRow w5.heap.size 3 1 v' (M + 1) (ps.map (Value.int .i64)) := by simpa using hown'
      obtain ⟨gq, cq, rfl, hcq⟩ := own_form' hQ hne
      have hgq := hQ.lt gq rfl
      have HG6 := Lib.hid g6; have HQ6 := Lib.hid hQ
      clear hnil hne hown' hgrow hgb hQ HQ0
      clear A0 A1
      have hqz : w6.cell? ⟨gq, M, none⟩ = some (.int .i64 z) := by rw [HQ6.out.cellAt M (by omega)]; simp [HZ.out]
      have hqf := HQ6.out.frozenAt M
      have hst := (HQ6.out.stored M (.int .i64 0)).1
      rw [← List.map_set] at hst
      have HS := Lib.hid hst; clear hst
      have hM1 : M < M + 1 := by omega
      have hMp : (0 : Int) ≤ (M : Int) := by omega
      have hMi : (M : Int) < (M : Int) + 1 := by omega
      have hsub3 : IntKind.i64.wrap (M : Int) = (M : Int) := by simp [IntKind.wrap, IntKind.bits, IntKind.signed]; omega
      have G7 := Lib.hid (g6.setAt (g := gq) (o := M) (by omega) (.int .i64 0))
      clear g6
      go_wp2_with (fail)
      generalize w6.setCell ⟨gq, M, none⟩ (.int .i64 0) = W7 at *
      clear hqz hqf HQ6 HG6
      go_loop [8] (fun i => ∃ r : Nat, r ≤ M + 1 ∧ i = .int .i64 r ∧ (ps.take r).all (withinB · 9999) = true) (fun i => M + 1 - (intOf i).toNat)
      case atStart => exact ⟨0, by omega, rfl, by simp⟩
      case round =>
        obtain ⟨r, hr, rfl, hall⟩ := hrel
        have HAL := Lib.hid hall; clear hall
        by_cases hlt : r < M + 1
        · obtain ⟨x, hx⟩ := get_some (xs := ps) (k := r) (by rw [HL.out]; exact hlt)
          have hcr := G7.out.keep (HPC.out r x hx)
          have HXR := Lib.hid hx; clear hx
          have hri : (r : Int) < (M : Int) + 1 := by omega
          cases hw : withinB x 9999 with
          | true =>
            have hw1 : decide (x < -9999) = false := by have := withinB_iff.1 hw; simp; omega
            have hw2 : decide ((9999 : Int) < x) = false := by have := withinB_iff.1 hw; simp; omega
            have HW := Lib.hid hw; clear hw
            go_wp2
            go_round
            case rel => exact ⟨r + 1, by omega, by go_num, all_take_next HXR.out HAL.out HW.out⟩
            case measure => simp [intOf]; omega
          | false =>
            have hE0 : E = 0 := by rw [← HEV.out]; exact evalR_nop (pt_no HXR.out hw)
            subst hE0
            by_cases hx1 : x < -9999
            · have hw1 : decide (x < -9999) = true := by simp [hx1]
              clear hx1 hw
              go_wp2
              go_ret
              exact ⟨rfl, HE_3.out.trans G7.out⟩
            · have hw1 : decide (x < -9999) = false := by simp; omega
              have hw2 : decide ((9999 : Int) < x) = true := by have := mt withinB_iff.2 (by rw [hw]; decide); simp; omega
              clear hx1 hw
              go_wp2
              go_ret
              exact ⟨rfl, HE_3.out.trans G7.out⟩
        · obtain rfl : r = M + 1 := by omega
          have hpt : ptB ps = true := pt_all (by rw [HL.out]; omega) (all_take_end (by rw [HL.out]; omega) HAL.out)
          have hq := row_at HS.out (by simp [HL.out])
          have HQI := Lib.hid hq; clear hq HS HAL hlt hr
          have HX7 := Lib.hid (HX_3.out.ext G7.out)
          have hck := G7.out.keep HCK.out
          obtain ⟨a0, a1, -, -⟩ := blk2 (G7.out.blk A_3.out)
          have hel := eval_last HVA.out hpt HL.out HY.out HZ.out
          rw [HEV.out] at hel
          obtain ⟨e1, e2⟩ := evalR_bd xs k (ps.set M 0)
          have HEN := Lib.hid (eval_nil (xs := xs) (k := k) HVA.out)
          obtain ⟨E2, hE2⟩ : ∃ E2, evalR xs k (ps.set M 0) = E2 := ⟨_, rfl⟩
          rw [hE2] at hel e1 e2
          have HE2 := Lib.hid hE2; clear hE2
          have hyb : -9 ≤ y ∧ y ≤ 9 := by
            obtain ⟨a, b, c, d, hxe, ha, hb, hc, hd, -⟩ := valid_four HVA.out
            have h := HY.out; rw [hxe] at h
            match M, hM4, h with
            | 0, _, h => simp at h; omega
            | 1, _, h => simp at h; omega
            | 2, _, h => simp at h; omega
            | 3, _, h => simp at h; omega
          have hzb := pt_at hpt HZ.out
          obtain ⟨m1, m2⟩ := mul_bd hyb.1 hyb.2 hzb.1 hzb.2
          have hEE : E = IntKind.i64.wrap (E2 + IntKind.i64.wrap (y * z)) := by
            have h1 : IntKind.i64.wrap (y * z) = y * z := by simp [IntKind.wrap, IntKind.bits, IntKind.signed]; omega
            rw [h1, hel]; simp [IntKind.wrap, IntKind.bits, IntKind.signed]; omega
          have hxi : (M : Int) < (xs.length : Int) := by rw [affValidB_len HVA.out]; omega
          clear hel e1 e2 m1 m2 hyb hzb hpt HEV
          subst hEE
          go_wp2_with (fail)
          go_region_held3 (fun W' => W'.cell? ⟨ga, 0, none⟩ = some (.slice (some ⟨bx, ox, none⟩) xs.length cu) ∧ W'.cell? ⟨ga, 1, none⟩ = some (.int .i64 k) ∧ W'.cell? ⟨bx, ox + M, none⟩ = some (.int .i64 y))
            (first | exact ⟨a0, a1, hck⟩ | exact ⟨g1.keep a0, g1.keep a1, g1.keep hck⟩ | exact ⟨(g1.alloc _).keep a0, (g1.alloc _).keep a1, (g1.alloc _).keep hck⟩ | exact ⟨g2.keep a0, g2.keep a1, g2.keep hck⟩ | fail)
            (first
              | (go_at_call 26; (with_reducible refine (EvalAffine_any (.slice (some ⟨bx, ox, none⟩) xs.length cu) (.slice (some ⟨gq, 0, none⟩) (M + 1) cq) xs (ps.set M 0) k _ (HX7.out.ext (Ext.refl W7).drew) (HQI.out.ext (Ext.refl W7).drew)).mono ?_); rw [HE2.out]; rintro e x1 ⟨rfl, hx1⟩; have g1 : Ext W7 x1 := (Ext.refl W7).drew.trans hx1)
              | (go_at_call 26; (with_reducible refine (EvalAffine_any (.slice (some ⟨bx, ox, none⟩) xs.length cu) (.slice (some ⟨x1.heap.size, 0, none⟩) 0 0) xs [] k _ (HX7.out.ext (g1.alloc _)) (ints_nil _ _ _)).mono ?_); rw [HEN.out]; rintro e x2 ⟨rfl, hx2⟩; have g2 : Ext W7 x2 := (g1.alloc _).trans hx2)
              | fail)
          have HEF := Lib.hid ((HE_3.out.trans G7.out).trans g2)
          go_wp2
          go_ret
          exact ⟨rfl, HEF.out⟩
  · have hd0 : decide ((1048576 : Int) < n0) = true := by simp; omega
    go_enter Try.func5, Try.ntmps5
    go_wp2
    go_ret
    exact ⟨rfl, Ext.refl w⟩
end Go.Proofs.Ytabkhiakekammaa
