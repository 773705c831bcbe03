/- FnExactFormatAffine: FormatAffine answers as its model at every argument: the walk. -/
import Derived.Test.YtcpbfefgjpimiaaDoorT7
import Derived.Test.YtcpbfefgjpimiaaDoorA3
import Derived.Test.YtcpbfefgjpimiaaDoorOp
import Derived.Deep.RegionHeld3
import Derived.Deep.RegionWith
namespace Go.Proofs.YtcpbfefgjpimiaaDoor
open Go.RowKit

set_option maxHeartbeats 2000000 in
theorem walk0FnExactFormatAffine (s : Value) (xs : List Int) (c : Int) (w : World) (hs : IntsAt w s xs) (ht : Tab w) :
    Calls Tryd.prog 3 #[.agg #[s, .int .i64 c]] w fun e w' => e = .returned (.bool true) ∧ Ext w w' := by
  obtain ⟨p, k, rfl, hm, hc⟩ := id hs
  clear hc
  have HS := Lib.hid hs; have HT := Lib.hid ht; clear hs ht
  by_cases hsmall : szI 1048576 xs.length < 0
  · go_enter Tryd.func3, Tryd.ntmps3
    go_wp2_with (fail)
    refine (szAffine_any _ _ _ _ _ _ hm (by omega) (by omega)).mono ?_
    rintro e w1 ⟨rfl, hE⟩
    have HE := Lib.hid hE; clear hE
    go_wp2_with (fail)
    go_ret
    exact ⟨rfl, ((Ext.refl w).alloc _).trans HE.out⟩
  · have hlen : xs.length ≤ 1048576 := by unfold szI at hsmall; split at hsmall <;> omega
    go_enter Tryd.func3, Tryd.ntmps3
    go_wp2_with (fail)
    refine (szAffine_any _ _ _ _ _ _ hm (by omega) (by omega)).mono ?_
    rintro e w1 ⟨rfl, hE⟩
    have a0 := hE.keep (new0 w _ _ _)
    have a1 := hE.keep (new1 w _ _ _ _)
    have E1 : Hid (Ext w w1) := ((Ext.refl w).alloc _).trans hE
    clear hE
    go_wp2_with (fail)
    refine (toAffine_any _ xs _ _ (HS.out.ext E1.out) hlen).mono ?_
    rintro e w2 ⟨p1, c1, rfl, hv1, hE⟩
    replace a0 := hE.keep a0
    replace a1 := hE.keep a1
    have E2 : Hid (Ext w w2) := E1.out.trans hE
    clear hE
    go_wp2_with (fail)
    refine (specFormatAffine_any _ xs _ _ hv1.at).mono ?_
    rintro e w3 ⟨rfl, hE⟩
    replace a0 := hE.keep a0
    replace a1 := hE.keep a1
    have E3 : Hid (Ext w w3) := E2.out.trans hE
    clear hE hv1
    go_wp2_with (fail)
    refine (toAffine_any _ xs _ _ (HS.out.ext E3.out) hlen).mono ?_
    rintro e w4 ⟨p2, c2, rfl, hv2, hE⟩
    replace a0 := hE.keep a0
    replace a1 := hE.keep a1
    have E4 : Hid (Ext w w4) := E3.out.trans hE
    clear hE
    have HV2 := Lib.hid hv2; clear hv2
    go_wp2_with (fail)
    refine (FormatAffine_any _ xs _ _ (HV2.out.at.ext ((Ext.refl w4).alloc _)) (HT.out.ext (E4.out.alloc _))).mono ?_
    rintro e w5 ⟨rfl, hE⟩
    have b0 := hE.keep (new0 w4 _ _ _)
    have b1 := hE.keep (new1 w4 _ _ _ _)
    replace a0 := hE.keep (((Ext.refl w4).alloc _).keep a0)
    replace a1 := hE.keep (((Ext.refl w4).alloc _).keep a1)
    have E5 : Hid (Ext w4 w5) := ((Ext.refl w4).alloc _).trans hE
    have E6 : Hid (Ext w w5) := E4.out.trans E5.out
    have HV3 := Lib.hid (HV2.out.ext E5.out)
    clear hE hsmall
    generalize w4.heap.size = bx at *
    generalize w.heap.size = ba at *
    go_wp2_with (fail)
    have heq : affEqB xs c xs c = true := by simp [affEqB, eqB]
    go_region_held3 (fun W => W.cell? ⟨bx, 0, none⟩ = some (.slice p2 xs.length c2) ∧ W.cell? ⟨bx, 1, none⟩ = some (.int .i64 c) ∧ W.cell? ⟨ba, 0, none⟩ = some (.slice p xs.length k) ∧ W.cell? ⟨ba, 1, none⟩ = some (.int .i64 c) ∧ Ext w5 W)
      (first
        | exact ⟨b0, b1, a0, a1, (Ext.refl w5).drew⟩
        | exact ⟨hE6.keep b0, hE6.keep b1, hE6.keep a0, hE6.keep a1, (Ext.refl w5).drew.trans hE6⟩
        | exact ⟨hE7.keep (hE6.keep b0), hE7.keep (hE6.keep b1), hE7.keep (hE6.keep a0), hE7.keep (hE6.keep a1), ((Ext.refl w5).drew.trans hE6).trans hE7⟩)
      (first
        | (go_at_call 9; refine (toAffine_any _ xs _ _ (HS.out.ext (E6.out.drew)) hlen).mono ?_; rintro e w6 ⟨p6, c6, rfl, hv6, hE6⟩)
        | (go_at_call 11; refine (eqAffine_any _ _ xs xs _ _ _ (HV3.out.at.ext ((Ext.refl w5).drew.trans hE6)) hv6.at).mono ?_; rintro e w7 ⟨rfl, hE7⟩))
    go_wp2
    go_ret
    exact ⟨rfl, E6.out.trans (((Ext.refl w5).drew.trans hE6).trans hE7)⟩

theorem walkFnExactFormatAffine (v : Value) (w : World) (h : RAff w v) (ht : Tab w) :
    Calls Tryd.prog 3 #[v] w fun e w' => e = .returned (.bool true) ∧ Below w.heap.size w w' := by
  obtain ⟨s, xs, c, rfl, hs, _, _⟩ := h
  exact walk0FnExactFormatAffine s xs c w hs ht

end Go.Proofs.YtcpbfefgjpimiaaDoor
