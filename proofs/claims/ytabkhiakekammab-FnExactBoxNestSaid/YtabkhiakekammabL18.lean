/- FnExactBoxNest: BoxNest answers as its model at every argument, in memory of its own. -/
import Derived.Test.YtabkhiakekammabP7
import Derived.Test.YtabkhiakekammabN7
import Derived.Test.YtabkhiakekammabOp
namespace Go.Proofs.Ytabkhiakekammab
open Go.RowKit Go.ChangeShapes Go.WideShapes Go.ChangeAt Go.Joins

theorem endL_box (l : List Int) (k : Int) : endL k (l.map boxLp) = k + 10 * l.length := by
  induction l generalizing k with
  | nil => simp [endL]
  | cons a l ih =>
    rw [List.map_cons, endL, ih]
    simp only [endP, boxLp, endA, constA, List.length_cons, List.length_nil]
    omega
theorem boxL_end (ns : List Int) : endL 1 (boxL ns) ≤ 1000 ∧ (boxL ns).length ≤ 4 ∧ ∀ x ∈ boxL ns, x.1.length ≤ 1000000 ∧ x.2.length ≤ 1000000 := by
  unfold boxL
  split
  · rename_i h
    simp only [boxB, Bool.and_eq_true, decide_eq_true_eq] at h
    refine ⟨by rw [endL_box]; omega, by rw [List.length_map]; exact h.1, fun x hx => ?_⟩
    obtain ⟨y, _, rfl⟩ := List.mem_map.1 hx
    simp [boxLp]
  · exact ⟨by simp [endL], by simp, fun x hx => by simp at hx⟩

set_option maxHeartbeats 4000000 in
set_option maxRecDepth 100000 in
theorem walk0FnExactBoxNest (s : Value) (ns : List Int) (w : World) (hs : IntsAt w s ns) :
    Calls Try.prog 7 #[s] w fun e w' => e = .returned (.bool true) ∧ Ext w w' := by
  have HS := Lib.hid hs; clear hs
  obtain ⟨p, c, rfl, hm, -⟩ := HS.out
  by_cases hbig : ns.length ≤ 1048576
  · have hb : decide ((1048576 : Int) < ns.length) = false := by simp; omega
    obtain ⟨hend, hlen4, hsm⟩ := boxL_end ns
    have HSM := Lib.hid hsm; have HEND := Lib.hid hend; clear hsm hend
    go_enter Try.func7, Try.ntmps7
    go_wp2_with (fail)
    refine (toIntS_any _ ns _ HS.out hbig).mono ?_
    rintro e w1 ⟨p1, c1, rfl, hv1, hE⟩
    have E1 := Lib.hid hE; have HV1 := Lib.hid hv1.at; clear hE hv1
    go_wp2_with (fail)
    refine (specBoxNest_any _ ns _ HV1.out).mono ?_
    rintro e w2 ⟨⟨p2, c2, F2, rfl, hf2, hr2⟩, hE⟩
    generalize hbl : boxL ns = xs at *
    have HBL := Lib.hid hbl; clear hbl
    have E2 := Lib.hid (E1.out.trans hE); have HF2 := Lib.hid hf2; have HR2 := Lib.hid hr2
    have hs12 := hE.size_le
    have hs01 := E1.out.size_le
    clear hE hf2 hr2 HV1 E1
    go_wp2_with (fail)
    refine (toIntS_any _ ns _ (HS.out.ext E2.out) hbig).mono ?_
    rintro e w3 ⟨p3, c3, rfl, hv3, hE⟩
    have E3 := Lib.hid (E2.out.trans hE); have HV3 := Lib.hid hv3
    have HF3 := Lib.hid (LoopsF.kp HF2.out (Kp.of_ext (F := []) hE) (by simp))
    have hx3b : Hid (∀ b, (Value.slice p3 ns.length c3).ownBlock = some b → b < w3.heap.size) := hv3.block_lt
    have hs23 := hE.size_le
    clear hE hv3 E2 HF2
    go_wp2_with (fail)
    refine (BoxNest_any _ ns _ HV3.out.at).mono ?_
    rintro e w4 ⟨⟨p4, c4, F4, rfl, hf4, hr4⟩, hE⟩
    rw [HBL.out] at hf4
    simp only [HBL.out]
    have E4 := Lib.hid (E3.out.trans hE); have HG4 := Lib.hid hf4; have HR4 := Lib.hid hr4
    have HF4 := Lib.hid (LoopsF.kp HF3.out (Kp.of_ext (F := []) hE) (by simp)); have HV4 := Lib.hid (HV3.out.ext hE)
    have hs34 := hE.size_le
    clear hE hf4 hr4 E3 HF3 HV3
    go_wp2_with (fail)
    refine (eqLoopS_any p4 _ c4 p2 _ c2 xs xs _ rfl rfl HG4.out.at HF4.out.at).mono ?_
    rw [lEqB_self]
    rintro e w5 ⟨rfl, hE⟩
    have E5 := Lib.hid (E4.out.trans hE); have HG5 := Lib.hid (LoopsF.kp HG4.out (Kp.of_ext (F := []) hE) (by simp)); have HF5 := Lib.hid (LoopsF.kp HF4.out (Kp.of_ext (F := []) hE) (by simp)); have HV5 := Lib.hid (HV4.out.ext hE)
    clear hE E4 HG4 HF4 HV4
    generalize hrb : boxB ns = r at *
    have HRB := Lib.hid hrb; clear hrb
    go_wp2_with (fail)
    refine (toIntS_any _ ns _ (HS.out.ext E5.out) hbig).mono ?_
    rintro e w6 ⟨p6, c6, rfl, hv6, hE⟩
    have E6 := Lib.hid (E5.out.trans hE); have HG6 := Lib.hid (LoopsF.kp HG5.out (Kp.of_ext (F := []) hE) (by simp)); have HF6 := Lib.hid (LoopsF.kp HF5.out (Kp.of_ext (F := []) hE) (by simp)); have HV6 := Lib.hid (HV5.out.ext hE); have HY6 := Lib.hid hv6.at
    clear hE hv6 E5 HG5 HF5 HV5
    go_wp2_with (fail)
    refine (eqIntS_any _ _ ns ns _ HV6.out.at HY6.out).mono ?_
    rw [show eqB ns ns = true by simp [eqB]]
    rintro e w7 ⟨rfl, hE⟩
    have E7 := Lib.hid (E6.out.trans hE); have HG7 := Lib.hid (LoopsF.kp HG6.out (Kp.of_ext (F := []) hE) (by simp)); have HF7 := Lib.hid (LoopsF.kp HF6.out (Kp.of_ext (F := []) hE) (by simp)); have HV7 := Lib.hid (HV6.out.ext hE)
    clear hE E6 HG6 HF6 HV6 HY6
    go_wp2_with (fail)
    refine (markIntS_any w2.heap.size p3 ns.length c3 ns 1 _ rfl HV7.out (by omega) (by omega)).mono ?_
    rintro e w8 ⟨rfl, h1, h2⟩
    have hgb : ∀ b, (Value.slice p3 ns.length c3).ownBlock = some b → w2.heap.size ≤ b ∧ b < w3.heap.size := fun b hb => ⟨(HV7.out.lt b hb).1, hx3b.out b hb⟩
    have HG8 := Lib.hid (LoopsF.kp HG7.out (Kp.of_grown h2) (fun y hy hy' => by rw [Option.mem_toList] at hy'; have := hgb y hy'; have := (HR4.out y hy).1; omega))
    have HF8 := Lib.hid (LoopsF.kp HF7.out (Kp.of_grown h2) (fun y hy hy' => by rw [Option.mem_toList] at hy'; have := hgb y hy'; have := (HR2.out y hy).2; omega))
    have E8 := Lib.hid (E7.out.grown h2 (fun b hb => by have := hgb b hb; omega))
    clear h1 h2 hgb E7 HG7 HF7 HV7
    have hk1 : (0 : Int) ≤ 1 + ns.length := by omega
    generalize (1 : Int) + ns.length = ky at *
    have hkd : decide (ky < 0) = false := by simp; omega
    go_wp2_with (fail)
    refine (eqLoopS_any p4 _ c4 p2 _ c2 xs xs _ rfl rfl HG8.out.at HF8.out.at).mono ?_
    rw [lEqB_self]
    rintro e w9 ⟨rfl, hE⟩
    have E9 := Lib.hid (E8.out.trans hE); have HG9 := Lib.hid (LoopsF.kp HG8.out (Kp.of_ext (F := []) hE) (by simp)); have HF9 := Lib.hid (LoopsF.kp HF8.out (Kp.of_ext (F := []) hE) (by simp))
    clear hE E8 HG8 HF8
    go_wp2_with (fail)
    refine (markLoopS_any w3.heap.size p4 xs.length c4 xs F4 1 _ rfl HG9.out (by omega) (by have := HEND.out; omega) (by omega) HSM.out).mono ?_
    rintro e w10 ⟨rfl, h1, h2⟩
    have HM10 := Lib.hid h1
    have HF10 := Lib.hid (LoopsF.kp HF9.out h2 (fun y hy hy' => by have := (HR2.out y hy).2; have := (HR4.out y hy').1; omega))
    have E10 := Lib.hid (Kp.ext h2 E9.out (fun y hy => by have := (HR4.out y hy).1; omega))
    clear h1 h2 E9 HG9 HF9
    have hend0 := endL_ge 1 xs
    have hendu := HEND.out
    generalize hEL : endL 1 xs = E at *
    have HEL := Lib.hid hEL; clear hEL
    go_wp2_with (fail)
    refine (heldLoopS_any p4 xs.length c4 xs 1 _ rfl HM10.out.at (by omega) (by rw [HEL.out]; omega) (by omega) HSM.out).mono ?_
    rw [HEL.out]
    rintro e w11 ⟨rfl, rfl⟩
    have hE0 : decide (E < 0) = false := by simp; omega
    go_wp2_with (fail)
    refine (toIntS_any _ ns _ (HS.out.ext E10.out) hbig).mono ?_
    rintro e w12 ⟨p12, c12, rfl, hv12, hE⟩
    have E12 := Lib.hid (E10.out.trans hE); have HM12 := Lib.hid (LoopsF.kp HM10.out (Kp.of_ext (F := []) hE) (by simp)); have HF12 := Lib.hid (LoopsF.kp HF10.out (Kp.of_ext (F := []) hE) (by simp)); have HV12 := Lib.hid hv12.at
    clear hE hv12 E10 HM10 HF10
    go_wp2_with (fail)
    refine (BoxNest_any _ ns _ HV12.out).mono ?_
    rintro e w13 ⟨⟨p13, c13, F13, hret, hf13, -⟩, hE⟩
    rw [HBL.out] at hf13 hret
    rw [HRB.out] at hret
    subst hret
    have E13 := Lib.hid (E12.out.trans hE); have HM13 := Lib.hid (LoopsF.kp HM12.out (Kp.of_ext (F := []) hE) (by simp)); have HF13 := Lib.hid (LoopsF.kp HF12.out (Kp.of_ext (F := []) hE) (by simp)); have HH13 := Lib.hid hf13
    clear hE hf13 E12 HM12 HF12 HV12
    go_wp2_with (fail)
    refine (eqLoopS_any p13 _ c13 p2 _ c2 xs xs _ rfl rfl HH13.out.at HF13.out.at).mono ?_
    rw [lEqB_self]
    rintro e w14 ⟨rfl, hE⟩
    have E14 := Lib.hid (E13.out.trans hE); have HM14 := Lib.hid (LoopsF.kp HM13.out (Kp.of_ext (F := []) hE) (by simp))
    clear hE E13 HM13 HF13 HH13
    go_wp2_with (fail)
    refine (heldLoopS_any p4 xs.length c4 xs 1 _ rfl HM14.out.at (by omega) (by rw [HEL.out]; omega) (by omega) HSM.out).mono ?_
    rw [HEL.out]
    rintro e w15 ⟨rfl, rfl⟩
    go_wp2
    go_ret
    exact ⟨rfl, E14.out⟩
  · have hb : decide ((1048576 : Int) < ns.length) = true := by simp; omega
    go_enter Try.func7, Try.ntmps7
    go_wp2
    go_ret
    exact ⟨rfl, Ext.refl w⟩

theorem walkFnExactBoxNest (v0 : Value) (w : World) (h0 : RInts w v0) :
    Calls Try.prog 7 #[v0] w fun e w' => e = .returned (.bool true) ∧ Below w.heap.size w w' := by
  obtain ⟨ns, hs, _⟩ := h0
  exact walk0FnExactBoxNest v0 ns w hs
end Go.Proofs.Ytabkhiakekammab
