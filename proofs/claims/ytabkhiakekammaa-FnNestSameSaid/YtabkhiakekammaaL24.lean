/- FnNestSame: equality of nests is reflexive and symmetric, the walk. -/
import Derived.Test.YtabkhiakekammaaQ6
import Derived.Test.YtabkhiakekammaaN9
import Derived.Test.YtabkhiakekammaaN10
import Derived.Test.YtabkhiakekammaaOpB
namespace Go.Proofs.Ytabkhiakekammaa
open Go.RowKit Go.ChangeShapes Go.WideShapes Go.ChangeAt Go.Joins

theorem lEqB_symm {α : Type} [DecidableEq α] (xs ys : List α) : lEqB ys xs = lEqB xs ys := by simp only [lEqB]; exact decide_eq_decide.2 ⟨fun h => h.symm, fun h => h.symm⟩

set_option maxHeartbeats 1600000 in
set_option maxRecDepth 100000 in
theorem walkFnNestSame (v0 : Value) (w : World) (h0 : RBytes w v0) :
    Calls Try.prog 7 #[v0] w fun e w' => e = .returned (.bool true) ∧ Below w.heap.size w w' := by
  obtain ⟨p0, n0, c0, rfl, hb0, hl0⟩ := h0
  have hm0 := hb0.2.1
  have HB0 := Lib.hid hb0; have HL0 := Lib.hid hl0; clear hb0 hl0
  by_cases h0 : n0 ≤ 1048576
  · have hd0 : decide ((1048576 : Int) < n0) = false := by simp; omega
    go_enter Try.func7, Try.ntmps7
    go_wp2_with (fail)
    refine (DrawNestSame_any p0 n0 c0 _ HB0.out HL0.out).mono ?_
    rintro e w1 ⟨⟨q1, m1, d1, q2, m2, d2, xs, ys, rfl, hl1, hl2, hv1, hv2⟩, E1⟩
    have HL1 := Lib.hid hl1; have HL2 := Lib.hid hl2; have HV1 := Lib.hid hv1; have HV2 := Lib.hid hv2; have HE1 := Lib.hid E1
    clear hl1 hl2 hv1 hv2 E1
    obtain ⟨b, hb⟩ : ∃ b, lEqB xs ys = b := ⟨_, rfl⟩
    have HBX := Lib.hid hb; have HBY := Lib.hid ((lEqB_symm xs ys).trans hb); have HXX := Lib.hid (show lEqB xs xs = true by simp [lEqB])
    clear hb
    go_wp2_with (fail)
    refine (NestSame_any (some ⟨q1, 0, none⟩) m1 d1 (some ⟨q2, 0, none⟩) m2 d2 xs ys w1 HL1.out HL2.out HV1.out HV2.out).mono ?_
    rw [HBX.out]
    rintro e w2 ⟨rfl, hE⟩
    have HE2 := Lib.hid (HE1.out.trans hE)
    have F2 : Hid (Ext w1 w2) := Lib.hid (hE)
    clear hE
    go_wp2_with (fail)
    refine (specNestSame_any (some ⟨q1, 0, none⟩) m1 d1 (some ⟨q2, 0, none⟩) m2 d2 xs ys w2 HL1.out HL2.out (HV1.out.ext F2.out) (HV2.out.ext F2.out)).mono ?_
    rw [HBX.out]
    rintro e w3 ⟨rfl, hE⟩
    have HE3 := Lib.hid (HE2.out.trans hE)
    have F3 : Hid (Ext w1 w3) := Lib.hid (F2.out.trans hE)
    clear hE
    go_wp2_with (fail)
    refine (NestSame_any (some ⟨q2, 0, none⟩) m2 d2 (some ⟨q1, 0, none⟩) m1 d1 ys xs w3 HL2.out HL1.out (HV2.out.ext F3.out) (HV1.out.ext F3.out)).mono ?_
    rw [HBY.out]
    rintro e w4 ⟨rfl, hE⟩
    have HE4 := Lib.hid (HE3.out.trans hE)
    have F4 : Hid (Ext w1 w4) := Lib.hid (F3.out.trans hE)
    clear hE
    go_wp2_with (fail)
    refine (NestSame_any (some ⟨q1, 0, none⟩) m1 d1 (some ⟨q1, 0, none⟩) m1 d1 xs xs w4 HL1.out HL1.out (HV1.out.ext F4.out) (HV1.out.ext F4.out)).mono ?_
    rw [HXX.out]
    rintro e w5 ⟨rfl, hE⟩
    have HE5 := Lib.hid (HE4.out.trans hE)
    have F5 : Hid (Ext w1 w5) := Lib.hid (F4.out.trans hE)
    clear hE
    go_wp2
    go_ret
    exact ⟨rfl, HE5.out⟩
  · have hd0 : decide ((1048576 : Int) < n0) = true := by simp; omega
    go_enter Try.func7, Try.ntmps7
    go_wp2
    go_ret
    exact ⟨rfl, Ext.refl w⟩
end Go.Proofs.Ytabkhiakekammaa
