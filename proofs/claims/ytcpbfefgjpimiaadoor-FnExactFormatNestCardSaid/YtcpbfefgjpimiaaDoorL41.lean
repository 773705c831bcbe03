/- FnExactFormatNest: FormatNest answers as its model at every argument: the walk. -/
import Derived.Test.YtcpbfefgjpimiaaDoorT13
import Derived.Test.YtcpbfefgjpimiaaDoorN7
import Derived.Test.YtcpbfefgjpimiaaDoorOp
namespace Go.Proofs.YtcpbfefgjpimiaaDoor
open Go.RowKit Go.ChangeShapes Go.WideShapes Go.ChangeAt Go.Joins

set_option maxHeartbeats 2000000 in
theorem walk0FnExactFormatNest (s : Value) (ls : List Lp) (w : World) (hs : LoopsAt w s ls) (ht : Tab w) :
    Calls Tryd.prog 6 #[s] w fun e w' => e = .returned (.bool true) ∧ Ext w w' := by
  obtain ⟨p, c, rfl, hm⟩ := hs.form
  have HS := Lib.hid hs; have HT := Lib.hid ht; clear hs ht
  go_enter Tryd.func6, Tryd.ntmps6
  go_wp2_with (fail)
  refine (szLoopS_any p _ c ls _ _ rfl HS.out (by omega) (by omega)).mono ?_
  rintro e w1 ⟨⟨z, rfl, hz⟩, E1⟩
  rcases hz with rfl | ⟨z0, z1, hsm⟩
  · go_wp2_with (fail)
    go_ret
    exact ⟨rfl, E1⟩
  · have HSM := Lib.hid hsm; clear hsm
    go_wp2_with (fail)
    refine (toLoopS_any p _ c ls _ rfl (HS.out.ext E1) HSM.out).mono ?_
    rintro e w2 ⟨q2, d2, rfl, hv2, hE⟩
    have E2 := E1.trans hE
    clear hE
    go_wp2_with (fail)
    refine (specFormatNest_any q2 _ d2 ls _ rfl hv2.at).mono ?_
    rintro e w3 ⟨rfl, hE⟩
    have E3 := E2.trans hE
    clear hE
    go_wp2_with (fail)
    refine (toLoopS_any p _ c ls _ rfl (HS.out.ext E3) HSM.out).mono ?_
    rintro e w4 ⟨q4, d4, rfl, hv4, hE⟩
    have E4 := E3.trans hE
    clear hE
    go_wp2_with (fail)
    refine (FormatNest_any q4 _ d4 ls _ rfl hv4.at (HT.out.ext E4)).mono ?_
    rintro e w5 ⟨rfl, hE⟩
    have E5 := E4.trans hE
    have HV := Lib.hid (hv4.at.ext hE)
    clear hE
    go_wp2_with (fail)
    refine (toLoopS_any p _ c ls _ rfl (HS.out.ext E5) HSM.out).mono ?_
    rintro e w6 ⟨q6, d6, rfl, hv6, hE⟩
    have E6 := E5.trans hE
    have HV6 := Lib.hid (HV.out.ext hE)
    clear hE
    go_wp2_with (fail)
    refine (eqLoopS_any q4 _ d4 q6 _ d6 ls ls _ rfl rfl HV6.out hv6.at).mono ?_
    rw [lEqB_self]
    rintro e w7 ⟨rfl, hE⟩
    have E7 := E6.trans hE
    clear hE
    go_wp2
    go_ret
    exact ⟨rfl, E7⟩

theorem walkFnExactFormatNest (v : Value) (w : World) (h : RLoops w v) (ht : Tab w) :
    Calls Tryd.prog 6 #[v] w fun e w' => e = .returned (.bool true) ∧ Below w.heap.size w w' := by
  obtain ⟨ls, hs⟩ := h
  exact walk0FnExactFormatNest v ls w hs ht


end Go.Proofs.YtcpbfefgjpimiaaDoor
