/- FnExactSubscriptRange: at every list of loops and every affine expression, SubscriptRange of the program returns the three values that its model returns, and changes nothing of its arguments. No condition. -/
import Derived.Test.YtccibfldadflkaaQS37
import Derived.Test.YtccibfldadflkaaQS30
import Derived.Test.YtccibfldadflkaaQS03
import Derived.Test.YtccibfldadflkaaQS25
import Derived.Deep.RegionHeld3
namespace Go.Proofs.Ytccibfldadflkaa
open Go.RowKit Go.ChangeShapes Go.WideShapes Go.ChangeAt Go.Joins

set_option linter.unusedVariables false in
set_option maxRecDepth 100000 in
set_option maxHeartbeats 4000000 in
theorem walk0FnExactSubscriptRange (s t : Value) (ls : List Lp) (xs : List Int) (k : Int) (w : World) (hs : LoopsAt w s ls) (ht : IntsAt w t xs) :
    Calls Try.prog 4 #[s, .agg #[t, .int .i64 k]] w fun e w' => e = .returned (.bool true) ∧ Ext w w' := by
  obtain ⟨p, c, rfl, hm⟩ := hs.form
  obtain ⟨n, hn⟩ : ∃ m, ls.length = m := ⟨_, rfl⟩
  rw [hn] at hs hm ⊢
  have HS := Lib.hid hs; have HN := Lib.hid hn; have HT := Lib.hid ht
  obtain ⟨q, d, rfl, hm2, -⟩ := ht
  obtain ⟨na, hna⟩ : ∃ m, xs.length = m := ⟨_, rfl⟩
  rw [hna] at HT hm2 ⊢
  have HNA := Lib.hid hna
  clear hs hn hna
  obtain ⟨r0, r1, r2, hr⟩ : ∃ r0 r1 r2, srR ls (xs, k) = (r0, r1, r2) := ⟨_, _, _, rfl⟩
  have HR := Lib.hid hr; clear hr
  obtain ⟨g0, hg0⟩ : ∃ g, w.heap.size = g := ⟨_, rfl⟩
  obtain ⟨W1, hW1⟩ : ∃ W1, w.alloc (.cells #[.slice q na d, .int .i64 k] 29) = W1 := ⟨_, rfl⟩
  have E1 : Hid (Ext w W1) := Lib.hid (by rw [← hW1]; exact (Ext.refl w).alloc _)
  have B1 : Hid (W1.heap[g0]? = some (.cells #[.slice q na d, .int .i64 k] 29 (0, 0))) := Lib.hid (by rw [← hW1]; exact blk_at hg0.symm)
  have HW1 := Lib.hid hW1; have HG0 := Lib.hid hg0
  clear hW1 hg0
  go_enter Try.func4, Try.ntmps4
  go_wp2_with (fail)
  try rw [HG0.out]
  try rw [HW1.out]
  refine (szLoopS_any p n c ls _ _ HN.out (HS.out.ext E1.out) (by omega) (by omega)).mono ?_
  rintro e w2 ⟨⟨z, rfl, hz⟩, hE⟩
  have E2 := Lib.hid (E1.out.trans hE); have B2 := Lib.hid (hE.blk B1.out)
  clear hE
  rcases hz with rfl | ⟨z0, z1, hsm⟩
  · go_wp2_with (fail)
    go_ret
    exact ⟨rfl, E2.out⟩
  · have HSM := Lib.hid hsm
    clear hsm
    obtain ⟨a0, a1, -, -⟩ := blk2 B2.out
    go_wp2_with (fail)
    refine (szAffine_any q na d k z w2 hm2 z0 z1).mono ?_
    obtain ⟨y, hy⟩ : ∃ y, szI z na = y := ⟨_, rfl⟩
    rw [hy]
    rintro e w3 ⟨rfl, hE⟩
    have E3 := Lib.hid (E2.out.trans hE); have B3 := Lib.hid (hE.blk B2.out); have HY := Lib.hid hy
    clear hE a0 a1 hy
    by_cases hneg : y < 0
    · go_wp2_with (fail)
      go_ret
      exact ⟨rfl, E3.out⟩
    · have hlen : xs.length ≤ 1048576 := by have h := HY.out; unfold szI at h; rw [HNA.out]; split at h <;> omega
      have HLN := Lib.hid hlen
      obtain ⟨a0, a1, -, -⟩ := blk2 B3.out
      have HSA := Lib.hid (HS.out.ext E3.out); have HTA := Lib.hid (HT.out.ext E3.out)
      clear hlen
      go_wp2_with (fail)
      go_region_held3 (fun W => W.cell? ⟨g0, 0, none⟩ = some (.slice q na d) ∧ W.cell? ⟨g0, 1, none⟩ = some (.int .i64 k))
        (first
          | exact ⟨a0, a1⟩
          | exact ⟨X6.keep a0, X6.keep a1⟩
          | exact ⟨X5.keep a0, X5.keep a1⟩
          | exact ⟨X4.keep a0, X4.keep a1⟩
          | fail)
        (first
          | (go_at_call 14; (with_reducible refine (toLoopS_any p n c ls _ HN.out (HSA.out.ext (Ext.refl w3).drew) HSM.out).mono ?_); rintro e w4 ⟨q4, d4, rfl, hv4, hE4⟩; have X4 : Ext w3 w4 := (Ext.refl w3).drew.trans hE4)
          | (go_at_call 15; (with_reducible refine (toAffine_any _ xs k _ (HTA.out.ext X4) HLN.out).mono ?_); rintro e w5 ⟨q5, d5, rfl, hv5, hE5⟩; have X5 : Ext w3 w5 := X4.trans hE5)
          | (go_at_call 13; (with_reducible refine (specSubscriptRange_any q4 n d4 ls _ xs k _ HN.out (hv4.at.ext hE5) hv5.at).mono ?_); rw [HR.out]; rintro e w6 ⟨rfl, hE6⟩; have X6 : Ext w3 w6 := X5.trans hE6)
          | fail)
      have E6 := Lib.hid (E3.out.trans X6); have B6 := Lib.hid (X6.blk B3.out)
      clear X4 X5 X6 hE4 hE5 hE6 hv4 hv5 a0 a1 HSA HTA
      obtain ⟨a0, a1, -, -⟩ := blk2 B6.out
      go_wp2_with (fail)
      refine (toLoopS_any p n c ls _ HN.out (HS.out.ext E6.out) HSM.out).mono ?_
      rintro e w7 ⟨q7, d7, rfl, hv7, hE⟩
      have E7 := Lib.hid (E6.out.trans hE); have B7 := Lib.hid (hE.blk B6.out); have HV7 := Lib.hid hv7.at
      clear hE hv7 a0 a1
      obtain ⟨a0, a1, -, -⟩ := blk2 B7.out
      go_wp2_with (fail)
      refine (toAffine_any _ xs k _ (HT.out.ext E7.out) HLN.out).mono ?_
      rintro e w8 ⟨q8, d8, rfl, hv8, hE⟩
      rw [HNA.out] at hv8 ⊢
      obtain ⟨g8, hg8⟩ : ∃ g, w8.heap.size = g := ⟨_, rfl⟩
      obtain ⟨W9, hW9⟩ : ∃ W9, w8.alloc (.cells #[.slice q8 na d8, .int .i64 k] 36) = W9 := ⟨_, rfl⟩
      have X89 : Ext w8 W9 := by rw [← hW9]; exact (Ext.refl w8).alloc _
      have E9 := Lib.hid (E7.out.trans (hE.trans X89)); have B9 := Lib.hid ((hE.trans X89).blk B7.out); have HV9 := Lib.hid (HV7.out.ext (hE.trans X89)); have HU9 := Lib.hid (hv8.at.ext X89)
      have C9 : Hid (W9.heap[g8]? = some (.cells #[.slice q8 na d8, .int .i64 k] 36 (0, 0))) := Lib.hid (by rw [← hW9]; exact blk_at hg8.symm)
      have HW9 := Lib.hid hW9; have HG8 := Lib.hid hg8
      clear hE hv8 a0 a1 X89 hW9 hg8
      go_wp2_with (fail)
      try rw [HG8.out]
      try rw [HW9.out]
      obtain ⟨b0, b1, -, -⟩ := blk2 C9.out
      go_wp2_with (fail)
      refine (SubscriptRange_any q7 n d7 ls _ xs k _ HN.out HV9.out HU9.out).mono ?_
      rw [HR.out]
      rintro e w10 ⟨rfl, hE⟩
      have E10 := Lib.hid (E9.out.trans hE); have B10 := Lib.hid (hE.blk B9.out); have C10 := Lib.hid (hE.blk C9.out); have HV10 := Lib.hid (HV9.out.ext hE); have HU10 := Lib.hid (HU9.out.ext hE)
      clear hE b0 b1
      have hq0 : (r0 != r0) = false := by simp
      have hq1 : (r1 != r1) = false := by simp
      have hq2 : (r2 != r2) = false := by simp
      go_wp2_with (fail)
      refine (toLoopS_any p n c ls _ HN.out (HS.out.ext E10.out) HSM.out).mono ?_
      rintro e w11 ⟨q11, d11, rfl, hv11, hE⟩
      have E11 := Lib.hid (E10.out.trans hE); have B11 := Lib.hid (hE.blk B10.out); have C11 := Lib.hid (hE.blk C10.out); have HV11 := Lib.hid (HV10.out.ext hE); have HU11 := Lib.hid (HU10.out.ext hE); have HX11 := Lib.hid hv11.at
      clear hE hv11
      go_wp2_with (fail)
      refine (eqLoopS_any q7 n d7 q11 n d11 ls ls _ HN.out HN.out HV11.out HX11.out).mono ?_
      rw [lEqB_self]
      rintro e w12 ⟨rfl, hE⟩
      have E12 := Lib.hid (E11.out.trans hE); have B12 := Lib.hid (hE.blk B11.out); have C12 := Lib.hid (hE.blk C11.out); have HU12 := Lib.hid (HU11.out.ext hE)
      clear hE
      obtain ⟨a0, a1, -, -⟩ := blk2 B12.out
      obtain ⟨b0, b1, -, -⟩ := blk2 C12.out
      have heq : affEqB xs k xs k = true := by simp [affEqB, eqB]
      have HT12 := Lib.hid (HT.out.ext E12.out)
      go_wp2_with (fail)
      go_region_held3 (fun W => W.cell? ⟨g8, 0, none⟩ = some (.slice q8 na d8) ∧ W.cell? ⟨g8, 1, none⟩ = some (.int .i64 k) ∧ W.cell? ⟨g0, 0, none⟩ = some (.slice q na d) ∧ W.cell? ⟨g0, 1, none⟩ = some (.int .i64 k))
        (first
          | exact ⟨b0, b1, a0, a1⟩
          | exact ⟨X14.keep b0, X14.keep b1, X14.keep a0, X14.keep a1⟩
          | exact ⟨X13.keep b0, X13.keep b1, X13.keep a0, X13.keep a1⟩
          | fail)
        (first
          | (go_at_call 15; (with_reducible refine (toAffine_any _ xs k _ (HT12.out.ext (Ext.refl w12).drew) HLN.out).mono ?_); rintro e w13 ⟨q13, d13, rfl, hv13, hE13⟩; have X13 : Ext w12 w13 := (Ext.refl w12).drew.trans hE13)
          | (go_at_call 18; (with_reducible refine (eqAffine_any _ _ xs xs _ _ _ (HU12.out.ext X13) hv13.at).mono ?_); rw [heq]; rintro e w14 ⟨rfl, hE14⟩; have X14 : Ext w12 w14 := X13.trans hE14)
          | fail)
      have E14 := Lib.hid (E12.out.trans X14)
      go_wp2
      go_ret
      exact ⟨rfl, E14.out⟩

theorem walkFnExactSubscriptRange (v0 v1 : Value) (w : World) (h0 : RLoops w v0) (h1 : RAff w v1) :
    Calls Try.prog 4 #[v0, v1] w fun e w' => e = .returned (.bool true) ∧ Below w.heap.size w w' := by
  obtain ⟨ls, hs⟩ := h0
  obtain ⟨s, xs, c, rfl, ht, _, _⟩ := h1
  exact walk0FnExactSubscriptRange v0 s ls xs c w hs ht

end Go.Proofs.Ytccibfldadflkaa
