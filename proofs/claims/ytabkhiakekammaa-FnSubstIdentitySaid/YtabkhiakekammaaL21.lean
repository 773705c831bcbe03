/- FnSubstIdentity: variables replaced by themselves, the walk. -/
import Derived.Test.YtabkhiakekammaaD10
import Derived.Test.YtabkhiakekammaaA19
import Derived.Test.YtabkhiakekammaaA18
import Derived.Test.YtabkhiakekammaaOpB
namespace Go.Proofs.Ytabkhiakekammaa
open Go.RowKit Go.ChangeShapes Go.WideShapes Go.ChangeAt Go.Joins

theorem affSame_self (xs : List Int) (c : Int) : affEqB xs c xs c = true := by simp [affEqB, eqB]
theorem varR_all {x r2 : Int} {r1 : List Int} (h : varR x = (r1, r2, true)) : (0 ≤ x ∧ x < 4) ∧ r1 = unitL x ∧ r2 = 0 := by
  unfold varR at h
  split at h
  · rename_i hv
    simp only [Prod.mk.injEq, and_true] at h
    exact ⟨hv, h.1.symm, h.2.symm⟩
  · cases h
theorem unit_valid (j : Nat) (hj : j < 4) : affValidB (unitL j) 0 = true := by
  match j, hj with
  | 0, _ => decide
  | 1, _ => decide
  | 2, _ => decide
  | 3, _ => decide
theorem subst_unit {xs : List Int} {k : Int} {j : Nat} (hv : affValidB xs k = true) (hj : j < 4) : substR xs k j (unitL j) 0 = (xs, k, true) := by
  unfold substR
  rw [if_pos ⟨hv, unit_valid j hj, by omega, by omega⟩]
  have e1 : substL xs (unitL j) (j : Int).toNat = xs := by
    obtain ⟨a, b, c, d, rfl, -⟩ := valid_four hv
    match j, hj with
    | 0, _ => simp [substL, unitL]
    | 1, _ => simp [substL, unitL]
    | 2, _ => simp [substL, unitL]
    | 3, _ => simp [substL, unitL]
  rw [e1]
  have e2 : k + 0 * xs.getD (j : Int).toNat 0 = k := by simp
  rw [e2]
  unfold chk
  rw [if_pos hv]
theorem subst_zero {xs ys : List Int} {k l : Int} {j : Nat} (hv : affValidB xs k = true) (hy : affValidB ys l = true) (hj : j < 4) (h0 : xs[j]? = some 0) : substR xs k j ys l = (xs, k, true) := by
  unfold substR
  rw [if_pos ⟨hv, hy, by omega, by omega⟩]
  have e1 : substL xs ys (j : Int).toNat = xs := by
    obtain ⟨a, b, c, d, rfl, -⟩ := valid_four hv
    obtain ⟨a', b', c', d', rfl, -⟩ := valid_four hy
    match j, hj with
    | 0, _ => simp at h0; subst h0; simp [substL]
    | 1, _ => simp at h0; subst h0; simp [substL]
    | 2, _ => simp at h0; subst h0; simp [substL]
    | 3, _ => simp at h0; subst h0; simp [substL]
  rw [e1]
  have e2 : k + l * xs.getD (j : Int).toNat 0 = k := by rw [Int.toNat_natCast, List.getD_eq_getElem?_getD, h0]; simp
  rw [e2]
  unfold chk
  rw [if_pos hv]

set_option maxHeartbeats 1600000 in
set_option maxRecDepth 100000 in
theorem walkFnSubstIdentity (v0 : Value) (w : World) (h0 : RBytes w v0) :
    Calls Try.prog 4 #[v0] w fun e w' => e = .returned (.bool true) ∧ Below w.heap.size w w' := by
  obtain ⟨p0, n0, c0, rfl, hb0, hl0⟩ := h0
  have hm0 := hb0.2.1
  have HB0 := Lib.hid hb0; have HL0 := Lib.hid hl0; clear hb0 hl0
  by_cases h0 : n0 ≤ 1048576
  · have hd0 : decide ((1048576 : Int) < n0) = false := by simp; omega
    go_enter Try.func4, Try.ntmps4
    go_wp2_with (fail)
    refine (DrawSubstAffine_any p0 n0 c0 _ HB0.out HL0.out).mono ?_
    rintro e w1 ⟨⟨u, v, k, l, x, xs, ys, rfl, hx, hy⟩, E1⟩
    obtain ⟨pu, cu, rfl, -, -⟩ := id hx
    obtain ⟨pv, cv, rfl, -, -⟩ := id hy
    have E2 : Ext w1 ((w1.alloc (.cells #[.slice pu xs.length cu, .int .i64 k] 25)).alloc (.cells #[.slice pv ys.length cv, .int .i64 l] 25)) := ((Ext.refl w1).alloc _).alloc _
    have HX_0 := Lib.hid (hx.ext E2); have HY_0 := Lib.hid (hy.ext E2)
    have A_0 : Hid (((w1.alloc (.cells #[.slice pu xs.length cu, .int .i64 k] 25)).alloc (.cells #[.slice pv ys.length cv, .int .i64 l] 25)).heap[w1.heap.size]? = some (.cells #[.slice pu xs.length cu, .int .i64 k] 25 (0, 0))) := Lib.hid (blk_old (blk_at rfl))
    have B_0 : Hid (((w1.alloc (.cells #[.slice pu xs.length cu, .int .i64 k] 25)).alloc (.cells #[.slice pv ys.length cv, .int .i64 l] 25)).heap[w1.heap.size + 1]? = some (.cells #[.slice pv ys.length cv, .int .i64 l] 25 (0, 0))) := Lib.hid (blk_at (by simp))
    have HE1 := Lib.hid (E1.trans E2)
    clear E2 hx hy E1
    obtain ⟨r1, r2, r3, hr⟩ : ∃ r1 r2 r3, varR x = (r1, r2, r3) := ⟨_, _, _, rfl⟩
    have HRr := Lib.hid hr; clear hr
    go_wp2_with (fail)
    generalize ((w1.alloc (.cells #[.slice pu xs.length cu, .int .i64 k] 25)).alloc (.cells #[.slice pv ys.length cv, .int .i64 l] 25)) = W2 at *
    generalize w1.heap.size = ga at *
    refine (VarAffine_any x _).mono ?_
    rw [HRr.out]
    rintro e w5 ⟨⟨q5, d5, rfl, hv⟩, hE⟩
    dsimp only at hv ⊢
    have g_ : Ext W2 (w5.alloc (.cells #[.slice q5 r1.length d5, .int .i64 r2] 25)) := hE.alloc _
    have A_1 := Lib.hid ((g_).blk A_0.out)
    have B_1 := Lib.hid ((g_).blk B_0.out)
    have HX_1 := Lib.hid (HX_0.out.ext (g_))
    have HY_1 := Lib.hid (HY_0.out.ext (g_))
    have HE_1 := Lib.hid (HE1.out.trans (g_))
    clear A_0 B_0 HX_0 HY_0 HE1
    have HC_1 := Lib.hid (hv.at.ext ((Ext.refl w5).alloc (.cells #[.slice q5 r1.length d5, .int .i64 r2] 25)))
    have C_1 : Hid ((w5.alloc (.cells #[.slice q5 r1.length d5, .int .i64 r2] 25)).heap[w5.heap.size]? = some (.cells #[.slice q5 r1.length d5, .int .i64 r2] 25 (0, 0))) := Lib.hid (blk_at rfl)
    clear hv hE g_
    go_wp2_with (fail)
    generalize w5.alloc (.cells #[.slice q5 r1.length d5, .int .i64 r2] 25) = W5 at *
    generalize w5.heap.size = g5 at *
    refine (specVarAffine_any x _).mono ?_
    rw [HRr.out]
    rintro e w6 ⟨⟨q6, d6, rfl, hv⟩, hE⟩
    dsimp only at hv ⊢
    have g_ : Ext W5 (w6.alloc (.cells #[.slice q6 r1.length d6, .int .i64 r2] 25)) := hE.alloc _
    have A_2 := Lib.hid ((g_).blk A_1.out)
    have B_2 := Lib.hid ((g_).blk B_1.out)
    have C_2 := Lib.hid ((g_).blk C_1.out)
    have HX_2 := Lib.hid (HX_1.out.ext (g_))
    have HY_2 := Lib.hid (HY_1.out.ext (g_))
    have HC_2 := Lib.hid (HC_1.out.ext (g_))
    have HE_2 := Lib.hid (HE_1.out.trans (g_))
    clear A_1 B_1 C_1 HX_1 HY_1 HC_1 HE_1
    have HD_2 := Lib.hid (hv.at.ext ((Ext.refl w6).alloc (.cells #[.slice q6 r1.length d6, .int .i64 r2] 25)))
    have D_2 : Hid ((w6.alloc (.cells #[.slice q6 r1.length d6, .int .i64 r2] 25)).heap[w6.heap.size]? = some (.cells #[.slice q6 r1.length d6, .int .i64 r2] 25 (0, 0))) := Lib.hid (blk_at rfl)
    clear hv hE g_
    obtain ⟨C0, C1, -, -⟩ := blk2 C_2.out
    obtain ⟨D0, D1, -, -⟩ := blk2 D_2.out
    go_wp2_with (fail)
    generalize w6.alloc (.cells #[.slice q6 r1.length d6, .int .i64 r2] 25) = W6 at *
    generalize w6.heap.size = g6 at *
    refine (AffineSame_any (.slice q5 r1.length d5) (.slice q6 r1.length d6) r1 r1 r2 r2 _ HC_2.out HD_2.out).mono ?_
    rw [affSame_self]
    rintro e w7 ⟨rfl, hE⟩
    clear C0 C1 D0 D1
    have A_3 := Lib.hid ((hE).blk A_2.out)
    have B_3 := Lib.hid ((hE).blk B_2.out)
    have C_3 := Lib.hid ((hE).blk C_2.out)
    have D_3 := Lib.hid ((hE).blk D_2.out)
    have HX_3 := Lib.hid (HX_2.out.ext (hE))
    have HY_3 := Lib.hid (HY_2.out.ext (hE))
    have HC_3 := Lib.hid (HC_2.out.ext (hE))
    have HD_3 := Lib.hid (HD_2.out.ext (hE))
    have HE_3 := Lib.hid (HE_2.out.trans (hE))
    clear A_2 B_2 C_2 D_2 HX_2 HY_2 HC_2 HD_2 HE_2
    clear hE
    cases r3 with
    | false =>
      obtain ⟨C0, C1, -, -⟩ := blk2 C_3.out
      obtain ⟨D0, D1, -, -⟩ := blk2 D_3.out
      go_wp2_with (fail)
      refine (AffineSame_any (.slice q5 r1.length d5) (.slice q6 r1.length d6) r1 r1 r2 r2 _ HC_3.out HD_3.out).mono ?_
      rw [affSame_self]
      rintro e w8 ⟨rfl, hE⟩
      clear C0 C1 D0 D1
      have A_4 := Lib.hid ((hE).blk A_3.out)
      have B_4 := Lib.hid ((hE).blk B_3.out)
      have C_4 := Lib.hid ((hE).blk C_3.out)
      have D_4 := Lib.hid ((hE).blk D_3.out)
      have HX_4 := Lib.hid (HX_3.out.ext (hE))
      have HY_4 := Lib.hid (HY_3.out.ext (hE))
      have HC_4 := Lib.hid (HC_3.out.ext (hE))
      have HD_4 := Lib.hid (HD_3.out.ext (hE))
      have HE_4 := Lib.hid (HE_3.out.trans (hE))
      clear A_3 B_3 C_3 D_3 HX_3 HY_3 HC_3 HD_3 HE_3
      clear hE
      go_wp2
      go_ret
      exact ⟨rfl, HE_4.out⟩
    | true =>
      cases hva : affValidB xs k with
      | false =>
        have HVA := Lib.hid hva; clear hva
        obtain ⟨A0, A1, -, -⟩ := blk2 A_3.out
        go_wp2_with (fail)
        refine (AffineValid_any (.slice pu xs.length cu) xs k _ HX_3.out).mono ?_
        rw [HVA.out]
        rintro e w9 ⟨rfl, hE⟩
        clear A0 A1
        have A_4 := Lib.hid ((hE).blk A_3.out)
        have B_4 := Lib.hid ((hE).blk B_3.out)
        have C_4 := Lib.hid ((hE).blk C_3.out)
        have D_4 := Lib.hid ((hE).blk D_3.out)
        have HX_4 := Lib.hid (HX_3.out.ext (hE))
        have HY_4 := Lib.hid (HY_3.out.ext (hE))
        have HC_4 := Lib.hid (HC_3.out.ext (hE))
        have HD_4 := Lib.hid (HD_3.out.ext (hE))
        have HE_4 := Lib.hid (HE_3.out.trans (hE))
        clear A_3 B_3 C_3 D_3 HX_3 HY_3 HC_3 HD_3 HE_3
        clear hE
        obtain ⟨C0, C1, -, -⟩ := blk2 C_4.out
        obtain ⟨D0, D1, -, -⟩ := blk2 D_4.out
        go_wp2_with (fail)
        refine (AffineSame_any (.slice q5 r1.length d5) (.slice q6 r1.length d6) r1 r1 r2 r2 _ HC_4.out HD_4.out).mono ?_
        rw [affSame_self]
        rintro e w10 ⟨rfl, hE⟩
        clear C0 C1 D0 D1
        have A_5 := Lib.hid ((hE).blk A_4.out)
        have B_5 := Lib.hid ((hE).blk B_4.out)
        have C_5 := Lib.hid ((hE).blk C_4.out)
        have D_5 := Lib.hid ((hE).blk D_4.out)
        have HX_5 := Lib.hid (HX_4.out.ext (hE))
        have HY_5 := Lib.hid (HY_4.out.ext (hE))
        have HC_5 := Lib.hid (HC_4.out.ext (hE))
        have HD_5 := Lib.hid (HD_4.out.ext (hE))
        have HE_5 := Lib.hid (HE_4.out.trans (hE))
        clear A_4 B_4 C_4 D_4 HX_4 HY_4 HC_4 HD_4 HE_4
        clear hE
        go_wp2
        go_ret
        exact ⟨rfl, HE_5.out⟩
      | true =>
        have HVA := Lib.hid hva; clear hva
        obtain ⟨A0, A1, -, -⟩ := blk2 A_3.out
        go_wp2_with (fail)
        refine (AffineValid_any (.slice pu xs.length cu) xs k _ HX_3.out).mono ?_
        rw [HVA.out]
        rintro e w11 ⟨rfl, hE⟩
        clear A0 A1
        have A_4 := Lib.hid ((hE).blk A_3.out)
        have B_4 := Lib.hid ((hE).blk B_3.out)
        have C_4 := Lib.hid ((hE).blk C_3.out)
        have D_4 := Lib.hid ((hE).blk D_3.out)
        have HX_4 := Lib.hid (HX_3.out.ext (hE))
        have HY_4 := Lib.hid (HY_3.out.ext (hE))
        have HC_4 := Lib.hid (HC_3.out.ext (hE))
        have HD_4 := Lib.hid (HD_3.out.ext (hE))
        have HE_4 := Lib.hid (HE_3.out.trans (hE))
        clear A_3 B_3 C_3 D_3 HX_3 HY_3 HC_3 HD_3 HE_3
        clear hE
        obtain ⟨⟨hx0, hx4⟩, rfl, rfl⟩ := varR_all HRr.out
        obtain ⟨j, rfl⟩ := Int.eq_ofNat_of_zero_le hx0
        have hj4 : j < 4 := by omega
        clear hx0 hx4
        have HSU := Lib.hid (subst_unit (j := j) HVA.out hj4)
        obtain ⟨A0, A1, -, -⟩ := blk2 A_4.out
        obtain ⟨C0, C1, -, -⟩ := blk2 C_4.out
        go_wp2_with (fail)
        refine (SubstAffine_any (.slice pu xs.length cu) (.slice q5 (unitL j).length d5) xs (unitL j) k 0 j _ HX_4.out HC_4.out).mono ?_
        rw [HSU.out]
        rintro e w12 ⟨⟨q12, d12, rfl, hv⟩, hE⟩
        dsimp only at hv ⊢
        clear A0 A1 C0 C1
        have g_ : Ext w11 (w12.alloc (.cells #[.slice q12 xs.length d12, .int .i64 k] 25)) := hE.alloc _
        have A_5 := Lib.hid ((g_).blk A_4.out)
        have B_5 := Lib.hid ((g_).blk B_4.out)
        have C_5 := Lib.hid ((g_).blk C_4.out)
        have D_5 := Lib.hid ((g_).blk D_4.out)
        have HX_5 := Lib.hid (HX_4.out.ext (g_))
        have HY_5 := Lib.hid (HY_4.out.ext (g_))
        have HC_5 := Lib.hid (HC_4.out.ext (g_))
        have HD_5 := Lib.hid (HD_4.out.ext (g_))
        have HE_5 := Lib.hid (HE_4.out.trans (g_))
        clear A_4 B_4 C_4 D_4 HX_4 HY_4 HC_4 HD_4 HE_4
        have HXE_5 := Lib.hid (hv.at.ext ((Ext.refl w12).alloc (.cells #[.slice q12 xs.length d12, .int .i64 k] 25)))
        have E_5 : Hid ((w12.alloc (.cells #[.slice q12 xs.length d12, .int .i64 k] 25)).heap[w12.heap.size]? = some (.cells #[.slice q12 xs.length d12, .int .i64 k] 25 (0, 0))) := Lib.hid (blk_at rfl)
        clear hv hE g_
        obtain ⟨t1, t2, t3, ht⟩ : ∃ t1 t2 t3, substR xs k j ys l = (t1, t2, t3) := ⟨_, _, _, rfl⟩
        have HRt := Lib.hid ht; clear ht
        obtain ⟨A0, A1, -, -⟩ := blk2 A_5.out
        obtain ⟨B0, B1, -, -⟩ := blk2 B_5.out
        go_wp2_with (fail)
        generalize w12.alloc (.cells #[.slice q12 xs.length d12, .int .i64 k] 25) = W12 at *
        generalize w12.heap.size = g12 at *
        refine (SubstAffine_any (.slice pu xs.length cu) (.slice pv ys.length cv) xs ys k l j _ HX_5.out HY_5.out).mono ?_
        rw [HRt.out]
        rintro e w13 ⟨⟨q13, d13, rfl, hv⟩, hE⟩
        dsimp only at hv ⊢
        clear A0 A1 B0 B1
        have g_ : Ext W12 (w13.alloc (.cells #[.slice q13 t1.length d13, .int .i64 t2] 25)) := hE.alloc _
        have A_6 := Lib.hid ((g_).blk A_5.out)
        have B_6 := Lib.hid ((g_).blk B_5.out)
        have C_6 := Lib.hid ((g_).blk C_5.out)
        have D_6 := Lib.hid ((g_).blk D_5.out)
        have E_6 := Lib.hid ((g_).blk E_5.out)
        have HX_6 := Lib.hid (HX_5.out.ext (g_))
        have HY_6 := Lib.hid (HY_5.out.ext (g_))
        have HC_6 := Lib.hid (HC_5.out.ext (g_))
        have HD_6 := Lib.hid (HD_5.out.ext (g_))
        have HXE_6 := Lib.hid (HXE_5.out.ext (g_))
        have HE_6 := Lib.hid (HE_5.out.trans (g_))
        clear A_5 B_5 C_5 D_5 E_5 HX_5 HY_5 HC_5 HD_5 HXE_5 HE_5
        have HF_6 := Lib.hid (hv.at.ext ((Ext.refl w13).alloc (.cells #[.slice q13 t1.length d13, .int .i64 t2] 25)))
        have F_6 : Hid ((w13.alloc (.cells #[.slice q13 t1.length d13, .int .i64 t2] 25)).heap[w13.heap.size]? = some (.cells #[.slice q13 t1.length d13, .int .i64 t2] 25 (0, 0))) := Lib.hid (blk_at rfl)
        clear hv hE g_
        obtain ⟨E0, E1, -, -⟩ := blk2 E_6.out
        obtain ⟨A0, A1, -, -⟩ := blk2 A_6.out
        go_wp2_with (fail)
        generalize w13.alloc (.cells #[.slice q13 t1.length d13, .int .i64 t2] 25) = W13 at *
        generalize w13.heap.size = g13 at *
        refine (AffineSame_any (.slice q12 xs.length d12) (.slice pu xs.length cu) xs xs k k _ HXE_6.out HX_6.out).mono ?_
        rw [affSame_self]
        rintro e w14 ⟨rfl, hE⟩
        clear E0 E1 A0 A1
        have A_7 := Lib.hid ((hE).blk A_6.out)
        have B_7 := Lib.hid ((hE).blk B_6.out)
        have C_7 := Lib.hid ((hE).blk C_6.out)
        have D_7 := Lib.hid ((hE).blk D_6.out)
        have E_7 := Lib.hid ((hE).blk E_6.out)
        have F_7 := Lib.hid ((hE).blk F_6.out)
        have HX_7 := Lib.hid (HX_6.out.ext (hE))
        have HY_7 := Lib.hid (HY_6.out.ext (hE))
        have HC_7 := Lib.hid (HC_6.out.ext (hE))
        have HD_7 := Lib.hid (HD_6.out.ext (hE))
        have HXE_7 := Lib.hid (HXE_6.out.ext (hE))
        have HF_7 := Lib.hid (HF_6.out.ext (hE))
        have HE_7 := Lib.hid (HE_6.out.trans (hE))
        clear A_6 B_6 C_6 D_6 E_6 F_6 HX_6 HY_6 HC_6 HD_6 HXE_6 HF_6 HE_6
        clear hE
        obtain ⟨y, hyj⟩ := get_some (xs := xs) (k := j) (by rw [affValidB_len HVA.out]; exact hj4)
        obtain ⟨pe, ce, hpe, -, hce⟩ := id HX_7.out
        simp only [Value.slice.injEq, true_and] at hpe
        obtain ⟨rfl, rfl⟩ := hpe
        obtain ⟨bx, ox, rfl, hck⟩ := hce j y hyj
        clear hce
        have hxl : j < xs.length := by rw [affValidB_len HVA.out]; exact hj4
        have HYJ := Lib.hid hyj; clear hyj
        by_cases hy0 : y = 0
        · subst hy0
          obtain ⟨A0, A1, -, -⟩ := blk2 A_7.out
          obtain ⟨B0, B1, -, -⟩ := blk2 B_7.out
          obtain ⟨E0, E1, -, -⟩ := blk2 E_7.out
          obtain ⟨F0, F1, -, -⟩ := blk2 F_7.out
          cases hvb : affValidB ys l with
          | false =>
            have HVB := Lib.hid hvb; clear hvb
            have ht3 : t3 = false := by have e := substR_no (xs := xs) (ys := ys) (k := k) (l := l) (v := j) (.inr (.inl HVB.out)); rw [HRt.out] at e; simp only [Prod.mk.injEq] at e; exact e.2.2
            subst ht3
            go_wp2_with (fail)
            refine (AffineValid_any (.slice pv ys.length cv) ys l _ HY_7.out).mono ?_
            rw [HVB.out]
            rintro e w15 ⟨rfl, hE⟩
            have HE15 := Lib.hid (HE_7.out.trans hE)
            go_wp2
            go_ret
            exact ⟨rfl, HE15.out⟩
          | true =>
            have HVB := Lib.hid hvb; clear hvb
            have ht3 := subst_zero HVA.out HVB.out hj4 HYJ.out
            rw [HRt.out] at ht3
            replace ht3 := ht3.symm
            simp only [Prod.mk.injEq] at ht3
            obtain ⟨e1, e2, e3⟩ := ht3
            subst e1 e2 e3
            go_wp2_with (fail)
            refine (AffineValid_any (.slice pv ys.length cv) ys l _ HY_7.out).mono ?_
            rw [HVB.out]
            rintro e w15 ⟨rfl, hE⟩
            have hck := hE.keep hck
            clear A0 A1 B0 B1 E0 E1 F0 F1
            have A_8 := Lib.hid ((hE).blk A_7.out)
            have B_8 := Lib.hid ((hE).blk B_7.out)
            have C_8 := Lib.hid ((hE).blk C_7.out)
            have D_8 := Lib.hid ((hE).blk D_7.out)
            have E_8 := Lib.hid ((hE).blk E_7.out)
            have F_8 := Lib.hid ((hE).blk F_7.out)
            have HX_8 := Lib.hid (HX_7.out.ext (hE))
            have HY_8 := Lib.hid (HY_7.out.ext (hE))
            have HC_8 := Lib.hid (HC_7.out.ext (hE))
            have HD_8 := Lib.hid (HD_7.out.ext (hE))
            have HXE_8 := Lib.hid (HXE_7.out.ext (hE))
            have HF_8 := Lib.hid (HF_7.out.ext (hE))
            have HE_8 := Lib.hid (HE_7.out.trans (hE))
            clear A_7 B_7 C_7 D_7 E_7 F_7 HX_7 HY_7 HC_7 HD_7 HXE_7 HF_7 HE_7
            clear hE
            obtain ⟨A0, A1, -, -⟩ := blk2 A_8.out
            obtain ⟨F0, F1, -, -⟩ := blk2 F_8.out
            go_wp2_with (fail)
            refine (AffineSame_any (.slice q13 xs.length d13) (.slice (some ⟨bx, ox, none⟩) xs.length cu) xs xs k k _ HF_8.out HX_8.out).mono ?_
            rw [affSame_self]
            rintro e w16 ⟨rfl, hE⟩
            have HE16 := Lib.hid (HE_8.out.trans hE)
            go_wp2
            go_ret
            exact ⟨rfl, HE16.out⟩
        · have hyb : (y != 0) = true := by simp [hy0]
          clear hy0
          obtain ⟨A0, A1, -, -⟩ := blk2 A_7.out
          obtain ⟨E0, E1, -, -⟩ := blk2 E_7.out
          obtain ⟨F0, F1, -, -⟩ := blk2 F_7.out
          go_wp2
          go_ret
          exact ⟨rfl, HE_7.out⟩
  · have hd0 : decide ((1048576 : Int) < n0) = true := by simp; omega
    go_enter Try.func4, Try.ntmps4
    go_wp2
    go_ret
    exact ⟨rfl, Ext.refl w⟩
end Go.Proofs.Ytabkhiakekammaa
