/- FnScaleAdd: multiples of sums of drawn expressions, the walk. -/
import Derived.Test.YtahdkkfmaanhkaaD8
import Derived.Test.YtahdkkfmaanhkaaA19
import Derived.Test.YtahdkkfmaanhkaaOpB
namespace Go.Proofs.Ytahdkkfmaanhkaa
open Go.RowKit Go.ChangeShapes Go.WideShapes Go.ChangeAt Go.Joins

theorem affSame_self (xs : List Int) (c : Int) : affEqB xs c xs c = true := by simp [affEqB, eqB]

theorem scaleR_true {xs r1 : List Int} {c k r2 : Int} (h : scaleR xs c k = (r1, r2, true)) : r1 = xs.map (· * k) ∧ r2 = c * k ∧ affValidB r1 r2 = true := by
  unfold scaleR at h
  split at h
  · unfold chk at h
    split at h
    · rename_i hc
      simp only [Prod.mk.injEq, and_true] at h
      obtain ⟨rfl, rfl⟩ := h
      exact ⟨rfl, rfl, hc⟩
    · cases h
  · cases h
theorem scale_add {xs ys r1 x1 y1 z1 q1 : List Int} {k l m r2 x2 y2 z2 q2 : Int} {r3 x3 y3 z3 q3 : Bool} (hr : addR xs k ys l = (r1, r2, r3)) (hx : scaleR r1 r2 m = (x1, x2, x3)) (hy : scaleR xs k m = (y1, y2, y3)) (hz : scaleR ys l m = (z1, z2, z3)) (hq : addR y1 y2 z1 z2 = (q1, q2, q3)) (hr3 : r3 = true) :
    x3 = true → y3 = true → z3 = true → x1 = q1 ∧ x2 = q2 ∧ q3 = true := by
  rintro rfl rfl rfl
  subst hr3
  obtain ⟨-, -, rfl, rfl, -⟩ := addR_true hr
  obtain ⟨rfl, rfl, hxv⟩ := scaleR_true hx
  obtain ⟨rfl, rfl, hyv⟩ := scaleR_true hy
  obtain ⟨rfl, rfl, hzv⟩ := scaleR_true hz
  have e1 : List.zipWith (· + ·) (xs.map (· * m)) (ys.map (· * m)) = (List.zipWith (· + ·) xs ys).map (· * m) := by
    rw [List.zipWith_map, List.map_zipWith]
    congr 1; funext a b; rw [Int.add_mul]
  unfold addR at hq
  rw [if_pos ⟨hyv, hzv⟩, e1, ← Int.add_mul] at hq
  unfold chk at hq
  rw [if_pos hxv] at hq
  simp only [Prod.mk.injEq] at hq
  exact ⟨hq.1, hq.2.1, hq.2.2.symm⟩

set_option maxHeartbeats 1600000 in
set_option maxRecDepth 100000 in
theorem walkFnScaleAdd (v0 v1 : Value) (w : World) (h0 : RBytes w v0) (h1 : RBytes w v1) :
    Calls Try.prog 5 #[v0, v1] w fun e w' => e = .returned (.bool true) ∧ Below w.heap.size w w' := by
  obtain ⟨p0, n0, c0, rfl, hb0, hl0⟩ := h0
  obtain ⟨p1, n1, c1, rfl, hb1, hl1⟩ := h1
  have hm0 := hb0.2.1
  have hm1 := hb1.2.1
  have HB0 := Lib.hid hb0; have HL0 := Lib.hid hl0; have HB1 := Lib.hid hb1; have HL1 := Lib.hid hl1; clear hb0 hl0 hb1 hl1
  by_cases h0 : n0 ≤ 1048576
  · by_cases h1 : n1 ≤ 1048576
    · have hd0 : decide ((1048576 : Int) < n0) = false := by simp; omega
      have hd1 : decide ((1048576 : Int) < n1) = false := by simp; omega
      go_enter Try.func5, Try.ntmps5
      go_wp2_with (fail)
      refine (DrawAddAffine_any p0 n0 c0 _ HB0.out HL0.out).mono ?_
      rintro e w1 ⟨⟨u, v, k, l, xs, ys, rfl, hx, hy⟩, E1⟩
      obtain ⟨pu, cu, rfl, -, -⟩ := id hx
      obtain ⟨pv, cv, rfl, -, -⟩ := id hy
      obtain ⟨r1, r2, r3, hr⟩ : ∃ r1 r2 r3, addR xs k ys l = (r1, r2, r3) := ⟨_, _, _, rfl⟩
      have HR := Lib.hid hr; clear hr
      have E2 : Ext w1 ((w1.alloc (.cells #[.slice pu xs.length cu, .int .i64 k] 25)).alloc (.cells #[.slice pv ys.length cv, .int .i64 l] 25)) := ((Ext.refl w1).alloc _).alloc _
      have HX_0 := Lib.hid (hx.ext E2); have HY_0 := Lib.hid (hy.ext E2)
      have A_0 : Hid (((w1.alloc (.cells #[.slice pu xs.length cu, .int .i64 k] 25)).alloc (.cells #[.slice pv ys.length cv, .int .i64 l] 25)).heap[w1.heap.size]? = some (.cells #[.slice pu xs.length cu, .int .i64 k] 25 (0, 0))) := Lib.hid (blk_old (blk_at rfl))
      have B_0 : Hid (((w1.alloc (.cells #[.slice pu xs.length cu, .int .i64 k] 25)).alloc (.cells #[.slice pv ys.length cv, .int .i64 l] 25)).heap[w1.heap.size + 1]? = some (.cells #[.slice pv ys.length cv, .int .i64 l] 25 (0, 0))) := Lib.hid (blk_at (by simp))
      have HE1 := Lib.hid (E1.trans E2)
      clear E2 hx hy E1
      go_wp2_with (fail)
      generalize ((w1.alloc (.cells #[.slice pu xs.length cu, .int .i64 k] 25)).alloc (.cells #[.slice pv ys.length cv, .int .i64 l] 25)) = W2 at *
      generalize w1.heap.size = ga at *
      refine (AddAffine_any (.slice pu xs.length cu) (.slice pv ys.length cv) xs ys k l _ HX_0.out HY_0.out).mono ?_
      rw [HR.out]
      rintro e w3 ⟨⟨p3, c3, rfl, hv⟩, hE⟩
      dsimp only at hv ⊢
      have g_ : Ext W2 (w3.alloc (.cells #[.slice p3 r1.length c3, .int .i64 r2] 25)) := hE.alloc _
      have A_1 := Lib.hid ((g_).blk A_0.out)
      have B_1 := Lib.hid ((g_).blk B_0.out)
      have HX_1 := Lib.hid (HX_0.out.ext (g_))
      have HY_1 := Lib.hid (HY_0.out.ext (g_))
      have HE_1 := Lib.hid (HE1.out.trans (g_))
      clear A_0 B_0 HX_0 HY_0 HE1
      have HC_1 := Lib.hid (hv.at.ext ((Ext.refl w3).alloc (.cells #[.slice p3 r1.length c3, .int .i64 r2] 25)))
      have C_1 : Hid ((w3.alloc (.cells #[.slice p3 r1.length c3, .int .i64 r2] 25)).heap[w3.heap.size]? = some (.cells #[.slice p3 r1.length c3, .int .i64 r2] 25 (0, 0))) := Lib.hid (blk_at rfl)
      clear hv hE g_
      obtain ⟨A0, A1, -, -⟩ := blk2 A_1.out
      obtain ⟨B0, B1, -, -⟩ := blk2 B_1.out
      go_wp2_with (fail)
      generalize w3.alloc (.cells #[.slice p3 r1.length c3, .int .i64 r2] 25) = W4 at *
      generalize w3.heap.size = gc at *
      refine (specAddAffine_any (.slice pu xs.length cu) (.slice pv ys.length cv) xs ys k l _ HX_1.out HY_1.out).mono ?_
      rw [HR.out]
      rintro e w5 ⟨⟨p5, c5, rfl, hv⟩, hE⟩
      dsimp only at hv ⊢
      clear A0 A1 B0 B1
      have g_ : Ext W4 (w5.alloc (.cells #[.slice p5 r1.length c5, .int .i64 r2] 25)) := hE.alloc _
      have A_2 := Lib.hid ((g_).blk A_1.out)
      have B_2 := Lib.hid ((g_).blk B_1.out)
      have C_2 := Lib.hid ((g_).blk C_1.out)
      have HX_2 := Lib.hid (HX_1.out.ext (g_))
      have HY_2 := Lib.hid (HY_1.out.ext (g_))
      have HC_2 := Lib.hid (HC_1.out.ext (g_))
      have HE_2 := Lib.hid (HE_1.out.trans (g_))
      clear A_1 B_1 C_1 HX_1 HY_1 HC_1 HE_1
      have HD_2 := Lib.hid (hv.at.ext ((Ext.refl w5).alloc (.cells #[.slice p5 r1.length c5, .int .i64 r2] 25)))
      have D_2 : Hid ((w5.alloc (.cells #[.slice p5 r1.length c5, .int .i64 r2] 25)).heap[w5.heap.size]? = some (.cells #[.slice p5 r1.length c5, .int .i64 r2] 25 (0, 0))) := Lib.hid (blk_at rfl)
      clear hv hE g_
      obtain ⟨C0, C1, -, -⟩ := blk2 C_2.out
      obtain ⟨D0, D1, -, -⟩ := blk2 D_2.out
      go_wp2_with (fail)
      generalize w5.alloc (.cells #[.slice p5 r1.length c5, .int .i64 r2] 25) = W6 at *
      generalize w5.heap.size = gd at *
      refine (AffineSame_any (.slice p3 r1.length c3) (.slice p5 r1.length c5) r1 r1 r2 r2 _ HC_2.out HD_2.out).mono ?_
      rw [affSame_self]
      rintro e w7 ⟨rfl, hE⟩
      clear C0 C1 D0 D1
      have A_3 := Lib.hid ((hE).blk A_2.out)
      have B_3 := Lib.hid ((hE).blk B_2.out)
      have C_3 := Lib.hid ((hE).blk C_2.out)
      have D_3 := Lib.hid ((hE).blk D_2.out)
      have HX_3 := Lib.hid (HX_2.out.ext (hE))
      have HY_3 := Lib.hid (HY_2.out.ext (hE))
      have HC_3 := Lib.hid (HC_2.out.ext (hE))
      have HD_3 := Lib.hid (HD_2.out.ext (hE))
      have HE_3 := Lib.hid (HE_2.out.trans (hE))
      clear A_2 B_2 C_2 D_2 HX_2 HY_2 HC_2 HD_2 HE_2
      clear hE
      cases r3 with
      | false =>
        obtain ⟨C0, C1, -, -⟩ := blk2 C_3.out
        obtain ⟨D0, D1, -, -⟩ := blk2 D_3.out
        go_wp2_with (fail)
        refine (AffineSame_any (.slice p3 r1.length c3) (.slice p5 r1.length c5) r1 r1 r2 r2 _ HC_3.out HD_3.out).mono ?_
        rw [affSame_self]
        rintro e w8 ⟨rfl, hE⟩
        clear C0 C1 D0 D1
        have A_4 := Lib.hid ((hE).blk A_3.out)
        have B_4 := Lib.hid ((hE).blk B_3.out)
        have C_4 := Lib.hid ((hE).blk C_3.out)
        have D_4 := Lib.hid ((hE).blk D_3.out)
        have HX_4 := Lib.hid (HX_3.out.ext (hE))
        have HY_4 := Lib.hid (HY_3.out.ext (hE))
        have HC_4 := Lib.hid (HC_3.out.ext (hE))
        have HD_4 := Lib.hid (HD_3.out.ext (hE))
        have HE_4 := Lib.hid (HE_3.out.trans (hE))
        clear A_3 B_3 C_3 D_3 HX_3 HY_3 HC_3 HD_3 HE_3
        clear hE
        go_wp2
        go_ret
        exact ⟨rfl, HE_4.out⟩
      | true =>
        have hmb : -2 ≤ (n1 : Int) % 5 - 2 ∧ (n1 : Int) % 5 - 2 ≤ 2 := by omega
        obtain ⟨x1, x2, x3, hx⟩ : ∃ x1 x2 x3, scaleR r1 r2 ((n1 : Int) % 5 - 2) = (x1, x2, x3) := ⟨_, _, _, rfl⟩
        obtain ⟨y1, y2, y3, hy⟩ : ∃ y1 y2 y3, scaleR xs k ((n1 : Int) % 5 - 2) = (y1, y2, y3) := ⟨_, _, _, rfl⟩
        obtain ⟨z1, z2, z3, hz⟩ : ∃ z1 z2 z3, scaleR ys l ((n1 : Int) % 5 - 2) = (z1, z2, z3) := ⟨_, _, _, rfl⟩
        obtain ⟨q1, q2, q3, hw⟩ : ∃ q1 q2 q3, addR y1 y2 z1 z2 = (q1, q2, q3) := ⟨_, _, _, rfl⟩
        have HXR := Lib.hid hx; have HYR := Lib.hid hy; have HZR := Lib.hid hz; have HWR := Lib.hid hw; clear hx hy hz hw
        have HLem := Lib.hid (scale_add HR.out HXR.out HYR.out HZR.out HWR.out rfl)
        obtain ⟨C0, C1, -, -⟩ := blk2 C_3.out
        go_wp2_with (fail)
        refine (ScaleAffine_any (.slice p3 r1.length c3) r1 r2 _ _ HC_3.out).mono ?_
        rw [HXR.out]
        rintro e w10 ⟨⟨p10, c10, rfl, hv⟩, hE⟩
        dsimp only at hv ⊢
        clear C0 C1
        have g_ : Ext w7 (w10.alloc (.cells #[.slice p10 x1.length c10, .int .i64 x2] 25)) := hE.alloc _
        have A_4 := Lib.hid ((g_).blk A_3.out)
        have B_4 := Lib.hid ((g_).blk B_3.out)
        have C_4 := Lib.hid ((g_).blk C_3.out)
        have D_4 := Lib.hid ((g_).blk D_3.out)
        have HX_4 := Lib.hid (HX_3.out.ext (g_))
        have HY_4 := Lib.hid (HY_3.out.ext (g_))
        have HC_4 := Lib.hid (HC_3.out.ext (g_))
        have HD_4 := Lib.hid (HD_3.out.ext (g_))
        have HE_4 := Lib.hid (HE_3.out.trans (g_))
        clear A_3 B_3 C_3 D_3 HX_3 HY_3 HC_3 HD_3 HE_3
        have HXX_4 := Lib.hid (hv.at.ext ((Ext.refl w10).alloc (.cells #[.slice p10 x1.length c10, .int .i64 x2] 25)))
        have X_4 : Hid ((w10.alloc (.cells #[.slice p10 x1.length c10, .int .i64 x2] 25)).heap[w10.heap.size]? = some (.cells #[.slice p10 x1.length c10, .int .i64 x2] 25 (0, 0))) := Lib.hid (blk_at rfl)
        clear hv hE g_
        obtain ⟨A0, A1, -, -⟩ := blk2 A_4.out
        go_wp2_with (fail)
        generalize w10.alloc (.cells #[.slice p10 x1.length c10, .int .i64 x2] 25) = W10 at *
        generalize w10.heap.size = gx at *
        refine (ScaleAffine_any (.slice pu xs.length cu) xs k _ _ HX_4.out).mono ?_
        rw [HYR.out]
        rintro e w11 ⟨⟨p11, c11, rfl, hv⟩, hE⟩
        dsimp only at hv ⊢
        clear A0 A1
        have g_ : Ext W10 (w11.alloc (.cells #[.slice p11 y1.length c11, .int .i64 y2] 25)) := hE.alloc _
        have A_5 := Lib.hid ((g_).blk A_4.out)
        have B_5 := Lib.hid ((g_).blk B_4.out)
        have C_5 := Lib.hid ((g_).blk C_4.out)
        have D_5 := Lib.hid ((g_).blk D_4.out)
        have X_5 := Lib.hid ((g_).blk X_4.out)
        have HX_5 := Lib.hid (HX_4.out.ext (g_))
        have HY_5 := Lib.hid (HY_4.out.ext (g_))
        have HC_5 := Lib.hid (HC_4.out.ext (g_))
        have HD_5 := Lib.hid (HD_4.out.ext (g_))
        have HXX_5 := Lib.hid (HXX_4.out.ext (g_))
        have HE_5 := Lib.hid (HE_4.out.trans (g_))
        clear A_4 B_4 C_4 D_4 X_4 HX_4 HY_4 HC_4 HD_4 HXX_4 HE_4
        have HYY_5 := Lib.hid (hv.at.ext ((Ext.refl w11).alloc (.cells #[.slice p11 y1.length c11, .int .i64 y2] 25)))
        have Y_5 : Hid ((w11.alloc (.cells #[.slice p11 y1.length c11, .int .i64 y2] 25)).heap[w11.heap.size]? = some (.cells #[.slice p11 y1.length c11, .int .i64 y2] 25 (0, 0))) := Lib.hid (blk_at rfl)
        clear hv hE g_
        obtain ⟨B0, B1, -, -⟩ := blk2 B_5.out
        go_wp2_with (fail)
        generalize w11.alloc (.cells #[.slice p11 y1.length c11, .int .i64 y2] 25) = W11 at *
        generalize w11.heap.size = gy at *
        refine (ScaleAffine_any (.slice pv ys.length cv) ys l _ _ HY_5.out).mono ?_
        rw [HZR.out]
        rintro e w12 ⟨⟨p12, c12, rfl, hv⟩, hE⟩
        dsimp only at hv ⊢
        clear B0 B1
        have g_ : Ext W11 (w12.alloc (.cells #[.slice p12 z1.length c12, .int .i64 z2] 25)) := hE.alloc _
        have A_6 := Lib.hid ((g_).blk A_5.out)
        have B_6 := Lib.hid ((g_).blk B_5.out)
        have C_6 := Lib.hid ((g_).blk C_5.out)
        have D_6 := Lib.hid ((g_).blk D_5.out)
        have X_6 := Lib.hid ((g_).blk X_5.out)
        have Y_6 := Lib.hid ((g_).blk Y_5.out)
        have HX_6 := Lib.hid (HX_5.out.ext (g_))
        have HY_6 := Lib.hid (HY_5.out.ext (g_))
        have HC_6 := Lib.hid (HC_5.out.ext (g_))
        have HD_6 := Lib.hid (HD_5.out.ext (g_))
        have HXX_6 := Lib.hid (HXX_5.out.ext (g_))
        have HYY_6 := Lib.hid (HYY_5.out.ext (g_))
        have HE_6 := Lib.hid (HE_5.out.trans (g_))
        clear A_5 B_5 C_5 D_5 X_5 Y_5 HX_5 HY_5 HC_5 HD_5 HXX_5 HYY_5 HE_5
        have HZZ_6 := Lib.hid (hv.at.ext ((Ext.refl w12).alloc (.cells #[.slice p12 z1.length c12, .int .i64 z2] 25)))
        have Z_6 : Hid ((w12.alloc (.cells #[.slice p12 z1.length c12, .int .i64 z2] 25)).heap[w12.heap.size]? = some (.cells #[.slice p12 z1.length c12, .int .i64 z2] 25 (0, 0))) := Lib.hid (blk_at rfl)
        clear hv hE g_
        obtain ⟨Y0, Y1, -, -⟩ := blk2 Y_6.out
        obtain ⟨Z0, Z1, -, -⟩ := blk2 Z_6.out
        go_wp2_with (fail)
        generalize w12.alloc (.cells #[.slice p12 z1.length c12, .int .i64 z2] 25) = W12 at *
        generalize w12.heap.size = gz at *
        refine (AddAffine_any (.slice p11 y1.length c11) (.slice p12 z1.length c12) y1 z1 y2 z2 _ HYY_6.out HZZ_6.out).mono ?_
        rw [HWR.out]
        rintro e w13 ⟨⟨p13, c13, rfl, hv⟩, hE⟩
        dsimp only at hv ⊢
        clear Y0 Y1 Z0 Z1
        have g_ : Ext W12 (w13.alloc (.cells #[.slice p13 q1.length c13, .int .i64 q2] 25)) := hE.alloc _
        have A_7 := Lib.hid ((g_).blk A_6.out)
        have B_7 := Lib.hid ((g_).blk B_6.out)
        have C_7 := Lib.hid ((g_).blk C_6.out)
        have D_7 := Lib.hid ((g_).blk D_6.out)
        have X_7 := Lib.hid ((g_).blk X_6.out)
        have Y_7 := Lib.hid ((g_).blk Y_6.out)
        have Z_7 := Lib.hid ((g_).blk Z_6.out)
        have HX_7 := Lib.hid (HX_6.out.ext (g_))
        have HY_7 := Lib.hid (HY_6.out.ext (g_))
        have HC_7 := Lib.hid (HC_6.out.ext (g_))
        have HD_7 := Lib.hid (HD_6.out.ext (g_))
        have HXX_7 := Lib.hid (HXX_6.out.ext (g_))
        have HYY_7 := Lib.hid (HYY_6.out.ext (g_))
        have HZZ_7 := Lib.hid (HZZ_6.out.ext (g_))
        have HE_7 := Lib.hid (HE_6.out.trans (g_))
        clear A_6 B_6 C_6 D_6 X_6 Y_6 Z_6 HX_6 HY_6 HC_6 HD_6 HXX_6 HYY_6 HZZ_6 HE_6
        have HVV_7 := Lib.hid (hv.at.ext ((Ext.refl w13).alloc (.cells #[.slice p13 q1.length c13, .int .i64 q2] 25)))
        have V_7 : Hid ((w13.alloc (.cells #[.slice p13 q1.length c13, .int .i64 q2] 25)).heap[w13.heap.size]? = some (.cells #[.slice p13 q1.length c13, .int .i64 q2] 25 (0, 0))) := Lib.hid (blk_at rfl)
        clear hv hE g_
        obtain ⟨X0, X1, -, -⟩ := blk2 X_7.out
        obtain ⟨V0, V1, -, -⟩ := blk2 V_7.out
        cases x3 with
        | false =>
          go_wp2
          go_ret
          exact ⟨rfl, HE_7.out⟩
        | true =>
          cases y3 with
          | false =>
            go_wp2
            go_ret
            exact ⟨rfl, HE_7.out⟩
          | true =>
            cases z3 with
            | false =>
              go_wp2
              go_ret
              exact ⟨rfl, HE_7.out⟩
            | true =>
              obtain ⟨e1, e2, e3⟩ := HLem.out rfl rfl rfl
              subst e1 e2 e3
              clear HLem HXR HYR HZR HWR
              go_wp2_with (fail)
              generalize w13.alloc (.cells #[.slice p13 x1.length c13, .int .i64 x2] 25) = W13 at *
              refine (AffineSame_any (.slice p13 x1.length c13) (.slice p10 x1.length c10) x1 x1 x2 x2 _ HVV_7.out HXX_7.out).mono ?_
              rw [affSame_self]
              rintro e w14 ⟨rfl, hE⟩
              have HE14 := Lib.hid (HE_7.out.trans hE)
              go_wp2
              go_ret
              exact ⟨rfl, HE14.out⟩
    · have hd0 : decide ((1048576 : Int) < n0) = false := by simp; omega
      have hd1 : decide ((1048576 : Int) < n1) = true := by simp; omega
      go_enter Try.func5, Try.ntmps5
      go_wp2
      go_ret
      exact ⟨rfl, Ext.refl w⟩
  · have hd0 : decide ((1048576 : Int) < n0) = true := by simp; omega
    go_enter Try.func5, Try.ntmps5
    go_wp2
    go_ret
    exact ⟨rfl, Ext.refl w⟩
end Go.Proofs.Ytahdkkfmaanhkaa
