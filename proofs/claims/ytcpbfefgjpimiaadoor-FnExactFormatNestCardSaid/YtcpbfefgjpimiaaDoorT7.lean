/- FormatAffine, of the program and of the model. No statement is proved here. -/
import Derived.Test.YtcpbfefgjpimiaaDoorT3
import Derived.Test.YtcpbfefgjpimiaaDoorT6
namespace Go.Proofs.YtcpbfefgjpimiaaDoor
open Go.RowKit

def fmtA (xs : List Int) (k : Int) : List UInt8 := if affValidB xs k = true then txt xs k else []

set_option maxRecDepth 100000 in
set_option maxHeartbeats 1000000 in
theorem FormatAffine_any (s : Value) (xs : List Int) (k : Int) (w : World) (hs : IntsAt w s xs) (ht : Tab w) :
    Calls Tryd.prog 10 #[.agg #[s, .int .i64 k]] w fun e w' => e = .returned (.string ⟨(fmtA xs k).toArray⟩) ∧ Ext w w' := by
  obtain ⟨p, c, rfl, hm, -⟩ := id hs
  have HS := Lib.hid hs; have HT := Lib.hid ht; clear hs ht
  cases hv : affValidB xs k with
  | false =>
    have HF : Hid (fmtA xs k = []) := Lib.hid (by simp [fmtA, hv])
    have HV := Lib.hid hv; clear hv
    go_enter Tryd.func10, Tryd.ntmps10
    go_wp2_with (fail)
    refine (linearOf_no _ xs k _ (HS.out.ext ((Ext.refl w).alloc _)) HV.out).mono ?_
    rintro e w1 ⟨rfl, hE⟩
    have E1 := Lib.hid (((Ext.refl w).alloc _).trans hE); clear hE
    go_wp2
    go_ret
    exact ⟨by rw [HF.out]; rfl, E1.out.alloc _⟩
  | true =>
    obtain ⟨a, b, c', d, rfl, -⟩ := valid_four hv
    have HF : Hid (fmtA [a, b, c', d] k = txt [a, b, c', d] k) := Lib.hid (by simp [fmtA, hv])
    have HV := Lib.hid hv; clear hv
    go_enter Tryd.func10, Tryd.ntmps10
    go_wp2_with (fail)
    refine (linearOf_yes _ a b c' d k _ (HS.out.ext ((Ext.refl w).alloc _)) HV.out).mono ?_
    rintro e w1 ⟨rfl, hE⟩
    have E1 := Lib.hid (((Ext.refl w).alloc _).trans hE); clear hE
    go_wp2_with (fail)
    refine (text_any a b c' d k _ HV.out (HT.out.ext (E1.out.alloc _))).mono ?_
    rintro e w2 ⟨rfl, hE⟩
    have E2 := Lib.hid ((E1.out.alloc _).trans hE); clear hE
    go_wp2
    go_ret
    exact ⟨by rw [HF.out]; rfl, E2.out⟩

set_option maxRecDepth 100000 in
set_option maxHeartbeats 1000000 in
theorem specFormatAffine_any (s : Value) (xs : List Int) (k : Int) (w : World) (hs : IntsAt w s xs) :
    Calls Tryd.prog 8 #[.agg #[s, .int .i64 k]] w fun e w' => e = .returned (.string ⟨(fmtA xs k).toArray⟩) ∧ Ext w w' := by
  obtain ⟨p, c, rfl, hm, -⟩ := id hs
  have HS := Lib.hid hs; clear hs
  cases hv : affValidB xs k with
  | false =>
    have HF : Hid (fmtA xs k = []) := Lib.hid (by simp [fmtA, hv])
    have HV := Lib.hid hv; clear hv
    go_enter Tryd.func8, Tryd.ntmps8
    go_wp2_with (fail)
    refine (specAffineValid_any _ xs k _ (HS.out.ext ((Ext.refl w).alloc _))).mono ?_
    rw [HV.out]
    rintro e w1 ⟨rfl, hE⟩
    have E1 := Lib.hid (((Ext.refl w).alloc _).trans hE); clear hE
    go_wp2
    go_ret
    exact ⟨by rw [HF.out]; rfl, E1.out⟩
  | true =>
    obtain ⟨a, b, c', d, rfl, -⟩ := valid_four hv
    have HF : Hid (fmtA [a, b, c', d] k = txt [a, b, c', d] k) := Lib.hid (by simp [fmtA, hv])
    have HV := Lib.hid hv; clear hv
    go_enter Tryd.func8, Tryd.ntmps8
    go_wp2_with (fail)
    refine (specAffineValid_any _ [a, b, c', d] k _ (HS.out.ext ((Ext.refl w).alloc _))).mono ?_
    rw [HV.out]
    rintro e w1 ⟨rfl, hE⟩
    have E1 := Lib.hid (((Ext.refl w).alloc _).trans hE)
    obtain ⟨y0, y1, -, -⟩ := blk2 (hE.blk (g := w.heap.size) (blk_at rfl))
    clear hE
    go_wp2_with (fail)
    refine (l1Text_any _ a b c' d k _ (HS.out.ext E1.out) HV.out).mono ?_
    rintro e w2 ⟨rfl, hE⟩
    have E2 := Lib.hid (E1.out.trans hE); clear hE
    go_wp2
    go_ret
    exact ⟨by rw [HF.out]; rfl, E2.out⟩
end Go.Proofs.YtcpbfefgjpimiaaDoor
