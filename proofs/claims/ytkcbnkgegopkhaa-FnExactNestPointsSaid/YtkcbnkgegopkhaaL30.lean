/- FnExactNestPoints: NestPoints answers as its model at every argument, in memory of its own. -/
import Derived.Test.YtkcbnkgegopkhaaP8
import Derived.Test.YtkcbnkgegopkhaaN7
import Derived.Test.YtkcbnkgegopkhaaOp
import Derived.Test.YtkcbnkgegopkhaaR12
import Derived.Test.YtkcbnkgegopkhaaR14
namespace Go.Proofs.Ytkcbnkgegopkhaa
open Go.RowKit Go.ChangeShapes Go.WideShapes Go.ChangeAt Go.Joins

theorem endA_cnt (k : Int) (l : List Aff) : endA k l = k + cntA l := by
  induction l generalizing k with
  | nil => simp [endA, cntA, sumA]
  | cons a l ih => simp only [endA]; rw [ih]; simp only [cntA, sumA, List.length_cons]; omega
theorem endL_cnt (k : Int) (l : List Lp) : endL k l = k + sumL l := by
  induction l generalizing k with
  | nil => simp [endL, sumL]
  | cons a l ih => simp only [endL, endP]; rw [ih, endA_cnt, endA_cnt]; simp only [sumL]; omega
theorem nptsL_four {ls : List Lp} : ∀ x ∈ nptsL ls, x.length ≤ 4 := by
  intro x hx
  cases h : nptsB ls with
  | false => simp [nptsL, h] at hx
  | true =>
    have h1 := ((nptsL_iff h x).1 hx).1
    have h2 := (nestB_iff.1 (nptsB_nest h)).1
    omega
theorem sumA_ge (l : List Aff) : 0 ≤ sumA l := by
  induction l with
  | nil => simp [sumA]
  | cons a l ih => simp only [sumA]; omega
theorem sumL_ge (l : List Lp) : 0 ≤ sumL l := by
  induction l with
  | nil => simp [sumL]
  | cons a l ih => have := sumA_ge a.1; have := sumA_ge a.2; simp only [sumL, cntA]; omega

set_option maxHeartbeats 4000000 in
set_option maxRecDepth 100000 in
theorem walk0FnExactNestPoints (s : Value) (ls : List Lp) (w : World) (hs : LoopsAt w s ls) :
    Calls Try.prog 3 #[s] w fun e w' => e = .returned (.bool true) ∧ Ext w w' := by
  obtain ⟨p, c, rfl, hm⟩ := hs.form
  have HS := Lib.hid hs; clear hs
  go_enter Try.func3, Try.ntmps3
  go_wp2_with (fail)
  refine (szLoopSc_any p _ c ls _ _ rfl HS.out (by omega) (by omega)).mono ?_
  rintro e w1 ⟨⟨z, rfl, hz⟩, E1⟩
  rcases hz with rfl | ⟨z0, z1, hzq, hsm⟩
  · go_wp2_with (fail)
    go_ret
    exact ⟨rfl, E1⟩
  · have HSM := Lib.hid hsm; clear hsm
    have hend := endL_cnt 1 ls
    have hsl := sumL_ge ls
    unfold cntL at hzq
    have HEND := Lib.hid (show endL 1 ls ≤ 1048577 by omega)
    have hnl : ls.length ≤ 1048576 := HSM.out.1
    have HSP : Hid (∀ x ∈ ls, x.1.length ≤ 2000000 ∧ x.2.length ≤ 2000000) := Lib.hid (fun x hx => by have := HSM.out.2 x hx; have h1 := this.1.1; have h2 := this.2.1; omega)
    clear hzq hend hsl
    have HPL : Hid ((nptsL ls).length ≤ 120) := Lib.hid nptsL_len
    have HP4 : Hid (∀ x ∈ nptsL ls, x.length ≤ 4) := Lib.hid nptsL_four
    generalize hxs : nptsL ls = xs at *
    have HXS := Lib.hid hxs
    generalize hr : nptsB ls = r at *
    have HR := Lib.hid hr
    clear hxs hr
    have hpl := HPL.out
    go_wp2_with (fail)
    refine (toLoopS_any p _ c ls _ rfl (HS.out.ext E1) HSM.out).mono ?_
    rintro e w2 ⟨q2, d2, rfl, hv2, hE⟩
    have E2 := Lib.hid (E1.trans hE); have HV2 := Lib.hid hv2.at
    clear hE E1 hv2
    go_wp2_with (fail)
    refine (specNestPoints_any q2 _ d2 ls _ rfl HV2.out).mono ?_
    rintro e w3 ⟨⟨v3, b3, rfl, hb3, hr3⟩, hE⟩
    rw [HR.out] at hb3; subst hb3
    rw [HXS.out] at hr3
    have HW3 := Lib.hid (hr3.at (by omega))
    have E3 := Lib.hid (E2.out.trans hE)
    have hs01 := E2.out.size_le; have hs23 := hE.size_le
    clear hE hr3 HV2 E2
    go_wp2_with (fail)
    refine (toLoopS_F p _ c ls _ rfl (HS.out.ext E3.out) HSM.out).mono ?_
    rintro e w4 ⟨q4, d4, F4, rfl, hf4, hfb4, hE⟩
    have HF4 := Lib.hid hf4; have HFB4 := Lib.hid hfb4
    have X4 := Lib.hid hE
    have E4 := Lib.hid (E3.out.trans hE)
    have hs34 := hE.size_le
    clear hE hf4 hfb4
    go_wp2_with (fail)
    refine (NestPoints_any q4 _ d4 ls _ rfl HF4.out.at).mono ?_
    rintro e w5 ⟨⟨v5, own5, rfl, hp5, hob5⟩, hE⟩
    rw [HXS.out] at hp5
    rw [HR.out]
    have HG5 := Lib.hid hp5; have HOB5 := Lib.hid hob5
    have HF5 := Lib.hid (HF4.out.kp (Kp.of_ext (F := []) hE) (by simp))
    have X5 := Lib.hid (X4.out.trans hE)
    have E5 := Lib.hid (E4.out.trans hE)
    have hs45 := hE.size_le
    clear hE hp5 hob5 HF4 X4
    go_wp2_with (fail)
    refine (eqIntSS_any v5 v3 xs xs _ (HG5.out.at (by omega)) (HW3.out.ext X5.out)).mono ?_
    rw [lEqB_self]
    rintro e w6 ⟨rfl, hE⟩
    have HG6 := Lib.hid (HG5.out.lv (hE.lv)); have HF6 := Lib.hid (HF5.out.kp (Kp.of_ext (F := []) hE) (by simp))
    have X6 := Lib.hid (X5.out.trans hE)
    have E6 := Lib.hid (E5.out.trans hE)
    clear hE HG5 HF5 X5 E5
    have hbr : (b3 != b3) = false := by simp
    go_wp2_with (fail)
    refine (toLoopS_any p _ c ls _ rfl (HS.out.ext E6.out) HSM.out).mono ?_
    rintro e w7 ⟨q7, d7, rfl, hv7, hE⟩
    have HG7 := Lib.hid (HG6.out.lv (hE.lv)); have HF7 := Lib.hid (HF6.out.kp (Kp.of_ext (F := []) hE) (by simp)); have HV7 := Lib.hid hv7.at
    have X7 := Lib.hid (X6.out.trans hE)
    have E7 := Lib.hid (E6.out.trans hE)
    clear hE hv7 HG6 HF6 X6 E6
    go_wp2_with (fail)
    refine (eqLoopS_any q4 _ d4 q7 _ d7 ls ls _ rfl rfl HF7.out.at HV7.out).mono ?_
    rw [lEqB_self]
    rintro e w8 ⟨rfl, hE⟩
    have HG8 := Lib.hid (HG7.out.lv (hE.lv)); have HF8 := Lib.hid (HF7.out.kp (Kp.of_ext (F := []) hE) (by simp))
    have X8 := Lib.hid (X7.out.trans hE)
    have E8 := Lib.hid (E7.out.trans hE)
    clear hE HG7 HF7 X7 E7 HV7
    have hks := endL_ge 1 ls
    have hke := HEND.out
    generalize hEL : endL 1 ls = EL at *
    have HEL := Lib.hid hEL; clear hEL
    have hk0 : decide (EL < 0) = false := by simp; omega
    go_wp2_with (fail)
    refine (markLoopS_any w3.heap.size q4 ls.length d4 ls F4 1 _ rfl HF8.out (by omega) (by rw [HEL.out]; omega) (by omega) HSP.out).mono ?_
    rw [HEL.out]
    rintro e w9 ⟨rfl, -, hK⟩
    have hlv : Lv (fun b => b ∈ F4) w8 w9 := ⟨hK.os, hK.tape, hK.output, hK.size, hK.block⟩
    have HG9 := Lib.hid (HG8.out.lv (hlv.mono (fun b _ h1 h2 => by have := (HFB4.out b h1).2; have := (HOB5.out b h2).1; omega)))
    have X9 := Lib.hid (Kp.ext hK X8.out (fun y hy => (HFB4.out y hy).1))
    have E9 := Lib.hid (Kp.ext hK E8.out (fun y hy => by have := (HFB4.out y hy).1; omega))
    clear hK hlv HG8 HF8 X8 E8
    go_wp2_with (fail)
    refine (eqIntSS_any v5 v3 xs xs _ (HG9.out.at (by omega)) (HW3.out.ext X9.out)).mono ?_
    rw [lEqB_self]
    rintro e w10 ⟨rfl, hE⟩
    have HG10 := Lib.hid (HG9.out.lv (hE.lv))
    have X10 := Lib.hid (X9.out.trans hE)
    have E10 := Lib.hid (E9.out.trans hE)
    clear hE HG9 X9 E9
    go_wp2_with (fail)
    refine (markIntSS_any own5 w4.heap.size v5 xs 1 _ HG10.out (by omega) HP4.out (by omega) (by omega)).mono ?_
    rintro e w11 ⟨rfl, hM, hlv⟩
    have HM11 := Lib.hid hM
    have X11 := Lib.hid (hlv.ext0 X10.out (fun b hb h => by have := (HOB5.out b h).1; omega))
    have E11 := Lib.hid (hlv.ext0 E10.out (fun b hb h => by have := (HOB5.out b h).1; omega))
    clear hM hlv HG10 X10 E10
    have hes := endS_four HP4.out 1
    have hes0 := endS_ge 1 xs
    have HH : ∀ W, PtsD own5 w4.heap.size W v5 (marksS 1 xs) → Hid (PtsAt W v5 (marksS 1 xs)) := fun W h => Lib.hid (h.at (by rw [marksS_len]; omega))
    have HHM := HH _ HM11.out
    generalize hES : endS 1 xs = ES at *
    have HES := Lib.hid hES; clear hES
    have hq0 : decide (ES < 0) = false := by simp; omega
    have hqe : (ES != ES) = false := by simp
    go_wp2_with (fail)
    refine (heldIntSS_any v5 xs 1 _ HHM.out (by omega) HP4.out (by omega) (by omega)).mono ?_
    rw [HES.out]
    rintro e w12 ⟨rfl, rfl⟩
    clear HHM
    go_wp2_with (fail)
    refine (toLoopS_any p _ c ls _ rfl (HS.out.ext E11.out) HSM.out).mono ?_
    rintro e w13 ⟨q13, d13, rfl, hv13, hE⟩
    have HM13 := Lib.hid (HM11.out.lv (hE.lv)); have HV13 := Lib.hid hv13.at
    have X13 := Lib.hid (X11.out.trans hE)
    have E13 := Lib.hid (E11.out.trans hE)
    clear hE hv13 HM11 X11 E11
    go_wp2_with (fail)
    refine (NestPoints_any q13 _ d13 ls _ rfl HV13.out).mono ?_
    rintro e w14 ⟨⟨v14, own14, rfl, hp14, -⟩, hE⟩
    rw [HXS.out] at hp14
    rw [HR.out]
    have HG14 := Lib.hid (hp14.at (by omega))
    have HM14 := Lib.hid (HM13.out.lv (hE.lv))
    have X14 := Lib.hid (X13.out.trans hE)
    have E14 := Lib.hid (E13.out.trans hE)
    clear hE hp14 HM13 X13 E13 HV13
    go_wp2_with (fail)
    refine (eqIntSS_any v14 v3 xs xs _ HG14.out (HW3.out.ext X14.out)).mono ?_
    rw [lEqB_self]
    rintro e w15 ⟨rfl, hE⟩
    have HM15 := HH _ (HM14.out.lv (hE.lv))
    have E15 := Lib.hid (E14.out.trans hE)
    clear hE HM14 X14 E14 HG14
    go_wp2_with (fail)
    refine (heldIntSS_any v5 xs 1 _ HM15.out (by omega) HP4.out (by omega) (by omega)).mono ?_
    rw [HES.out]
    rintro e w16 ⟨rfl, rfl⟩
    go_wp2
    go_ret
    exact ⟨rfl, E15.out⟩

theorem walkFnExactNestPoints (v0 : Value) (w : World) (h0 : RLoops w v0) :
    Calls Try.prog 3 #[v0] w fun e w' => e = .returned (.bool true) ∧ Below w.heap.size w w' := by
  obtain ⟨ls, hs⟩ := h0
  exact walk0FnExactNestPoints v0 ls w hs
end Go.Proofs.Ytkcbnkgegopkhaa
