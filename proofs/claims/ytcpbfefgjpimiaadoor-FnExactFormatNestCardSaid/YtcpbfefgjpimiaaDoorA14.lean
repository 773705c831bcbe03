/- Contracts: multiples. -/
import Derived.Test.YtcpbfefgjpimiaaDoorA13
import Derived.Test.YtcpbfefgjpimiaaDoorA10
import Derived.Test.YtcpbfefgjpimiaaDoorA8
import Derived.Deep.RegionHeld3
namespace Go.Proofs.YtcpbfefgjpimiaaDoor
open Go.RowKit

def scaleR (xs : List Int) (c k : Int) : List Int × Int × Bool := if affValidB xs c = true ∧ withinB k 99 = true then chk (xs.map (· * k)) (c * k) else ([], 0, false)
theorem scaleR_nov {xs : List Int} {c k : Int} (h : affValidB xs c = false) : scaleR xs c k = ([], 0, false) := by unfold scaleR; rw [if_neg]; rintro ⟨h1, _⟩; rw [h] at h1; cases h1
theorem scaleR_nok {xs : List Int} {c k : Int} (h : withinB k 99 = false) : scaleR xs c k = ([], 0, false) := by unfold scaleR; rw [if_neg]; rintro ⟨_, h1⟩; rw [h] at h1; cases h1
theorem scaleR_yes {xs : List Int} {c k : Int} (h : affValidB xs c = true) (h2 : withinB k 99 = true) : scaleR xs c k = chk (xs.map (· * k)) (c * k) := by unfold scaleR; rw [if_pos ⟨h, h2⟩]

set_option maxHeartbeats 1000000 in
theorem ScaleAffine_any (s : Value) (xs : List Int) (c k : Int) (w : World) (hs : IntsAt w s xs) :
    Calls Tryd.prog 16 #[.agg #[s, .int .i64 c], .int .i64 k] w fun e w' => AffRet w.heap.size w' e (scaleR xs c k) ∧ Ext w w' := by
  have HS := Lib.hid hs; clear hs
  obtain ⟨p, cp, rfl, -, -⟩ := HS.out
  cases hv : affValidB xs c with
  | false =>
    rw [scaleR_nov hv]
    have HV := Lib.hid hv; clear hv
    go_enter Tryd.func16, Tryd.ntmps16
    go_wp2_with (fail)
    refine (linearOf_no _ xs c _ (HS.out.ext (((Ext.refl w).alloc _).alloc _)) HV.out).mono ?_
    rintro e W1 ⟨rfl, hE⟩
    have E1 : Hid (Ext w W1) := (((Ext.refl w).alloc _).alloc _).trans hE
    have BR := hE.blk (g := w.heap.size + 1) (blk_at (by simp))
    have L4' := lt_of_block BR
    obtain ⟨d0, d1, f0, f1⟩ := blk2 BR
    clear hE BR
    go_wp2
    exact bodyPost_ret (v := .tuple #[.agg #[.slice none 0 0, .int .i64 0], .bool false]) (by simp [results, Tryd.results16, go_sem, d0, d1, L4']) rfl ⟨AffRet.none _ _, ((E1.out.setAt (by omega) _).setAt (by omega) _).alloc _⟩
  | true =>
    obtain ⟨a0, a1, a2, a3, rfl, ⟨la0, ua0⟩, ⟨la1, ua1⟩, ⟨la2, ua2⟩, ⟨la3, ua3⟩, ⟨lc, uc⟩⟩ := valid_four hv
    cases hk : withinB k 99 with
    | false =>
      rw [scaleR_nok hk]
      have HV := Lib.hid hv; clear hv
      have HK := Lib.hid hk; clear hk
      go_enter Tryd.func16, Tryd.ntmps16
      go_wp2_with (fail)
      refine (linearOf_yes _ a0 a1 a2 a3 c _ (HS.out.ext (((Ext.refl w).alloc _).alloc _)) HV.out).mono ?_
      rintro e W1 ⟨rfl, hE⟩
      have E1 : Hid (Ext w W1) := (((Ext.refl w).alloc _).alloc _).trans hE
      have BR := hE.blk (g := w.heap.size + 1) (blk_at (by simp))
      have L4' := lt_of_block BR
      obtain ⟨d0, d1, f0, f1⟩ := blk2 BR
      clear hE BR
      go_wp2_with (fail)
      refine (within_any k 99 _ (by omega) (by omega)).mono ?_
      rw [HK.out]
      rintro e W2 ⟨rfl, rfl⟩
      go_wp2
      exact bodyPost_ret (v := .tuple #[.agg #[.slice none 0 0, .int .i64 0], .bool false]) (by simp [results, Tryd.results16, go_sem, d0, d1, L4']) rfl ⟨AffRet.none _ _, ((E1.out.setAt (by omega) _).setAt (by omega) _).alloc _⟩
    | true =>
      rw [scaleR_yes hv hk]
      simp only [List.map_cons, List.map_nil]
      obtain ⟨r1, r2, r3, hr⟩ : ∃ r1 r2 r3, chk [a0 * k, a1 * k, a2 * k, a3 * k] (c * k) = (r1, r2, r3) := ⟨_, _, _, rfl⟩
      rw [hr]
      have HR := Lib.hid hr; clear hr
      obtain ⟨lk, uk⟩ := withinB_iff.1 hk
      have HV := Lib.hid hv; clear hv
      have HK := Lib.hid hk; clear hk
      go_enter Tryd.func16, Tryd.ntmps16
      go_wp2_with (fail)
      refine (linearOf_yes _ a0 a1 a2 a3 c _ (HS.out.ext (((Ext.refl w).alloc _).alloc _)) HV.out).mono ?_
      rintro e W1 ⟨rfl, hE⟩
      have E1 : Hid (Ext w W1) := (((Ext.refl w).alloc _).alloc _).trans hE
      have BR := hE.blk (g := w.heap.size + 1) (blk_at (by simp))
      have L4' := lt_of_block BR
      have HBR := Lib.hid BR
      clear hE BR
      go_wp2_with (fail)
      refine (within_any k 99 _ (by omega) (by omega)).mono ?_
      rw [HK.out]
      rintro e W2 ⟨rfl, rfl⟩
      go_wp2_with (fail)
      refine (times_any a0 a1 a2 a3 c k _ (by omega) (by omega) (by omega) (by omega) (by omega) (by omega)).mono ?_
      rintro e W3 ⟨rfl, hE⟩
      have E3 : Hid (Ext w W3) := (E1.out.alloc _).trans hE
      have HBR3 := Lib.hid (hE.blk (blk_old HBR.out))
      clear hE HBR L4'
      go_wp2_with (fail)
      refine (affine_any (a0 * k) (a1 * k) (a2 * k) (a3 * k) (c * k) _).mono ?_
      rw [HR.out]
      rintro e W4 ⟨⟨p4, c4, rfl, hv⟩, hE⟩
      have E4 : Hid (Ext w W4) := E3.out.trans hE
      obtain ⟨d0, d1, f0, f1⟩ := blk2 (hE.blk HBR3.out)
      have hlt := lt_of_block HBR3.out
      have HV4 := Lib.hid (hv.weak (B' := w.heap.size + 1 + 1) (by omega))
      clear hE hv HBR3
      dsimp only at HV4
      go_wp2
      refine bodyPost_ret (v := .tuple #[.agg #[.slice p4 r1.length c4, .int .i64 r2], .bool r3]) (by simp [results, Tryd.results16, go_sem, d0, d1]) rfl ⟨⟨p4, c4, rfl, IntsOwn.weak (B := w.heap.size + 1 + 1) ?_ (by omega)⟩, ?_⟩
      · exact (HV4.out.setAt (by omega) _).setAt (by omega) _
      · exact (E4.out.setAt (by omega) _).setAt (by omega) _

theorem mul_99 {a k : Int} (h1 : -99 ≤ a) (h2 : a ≤ 99) (h3 : -99 ≤ k) (h4 : k ≤ 99) : -100000 ≤ a * k ∧ a * k ≤ 100000 := by
  constructor
  · have := Int.mul_nonneg (a := a + 99) (b := k + 99) (by omega) (by omega)
    have := Int.mul_nonneg (a := 99 - a) (b := 99 - k) (by omega) (by omega)
    simp only [Int.add_mul, Int.mul_add, Int.sub_mul, Int.mul_sub] at *
    omega
  · have := Int.mul_nonneg (a := a + 99) (b := 99 - k) (by omega) (by omega)
    have := Int.mul_nonneg (a := 99 - a) (b := k + 99) (by omega) (by omega)
    simp only [Int.add_mul, Int.mul_add, Int.sub_mul, Int.mul_sub] at *
    omega

theorem comb_scale {xs : List Int} (k : Int) (h : xs.length = 4) : comb xs k [0, 0, 0, 0] 0 = xs.map (· * k) := by
  obtain ⟨a, b, c, d, rfl⟩ := four h
  simp [comb, Int.mul_comm]

set_option maxHeartbeats 1000000 in
theorem specScaleAffine_any (s : Value) (xs : List Int) (c k : Int) (w : World) (hs : IntsAt w s xs) :
    Calls Tryd.prog 17 #[.agg #[s, .int .i64 c], .int .i64 k] w fun e w' => AffRet w.heap.size w' e (scaleR xs c k) ∧ Ext w w' := by
  have HS := Lib.hid hs; clear hs
  obtain ⟨p, cp, rfl, -, -⟩ := HS.out
  cases hv : affValidB xs c with
  | false =>
    rw [scaleR_nov hv]
    have HV := Lib.hid hv; clear hv
    go_enter Tryd.func17, Tryd.ntmps17
    go_wp2_with (fail)
    refine (specAffineValid_any _ xs c _ (HS.out.ext (((Ext.refl w).alloc _).alloc _))).mono ?_
    rw [HV.out]
    rintro e W1 ⟨rfl, hE⟩
    have E1 : Hid (Ext w W1) := (((Ext.refl w).alloc _).alloc _).trans hE
    obtain ⟨d0, d1, f0, f1⟩ := blk2 (hE.blk (g := w.heap.size + 1) (blk_at (by simp)))
    clear hE
    go_wp2
    exact bodyPost_ret (v := .tuple #[.agg #[.slice none 0 0, .int .i64 0], .bool false]) (by simp [results, Tryd.results17, go_sem, d0, d1]) rfl ⟨AffRet.none _ _, (E1.out.setAt (by omega) _).setAt (by omega) _⟩
  | true =>
    cases hk : withinB k 99 with
    | false =>
      rw [scaleR_nok hk]
      have HV := Lib.hid hv; clear hv
      have HK := Lib.hid hk; clear hk
      go_enter Tryd.func17, Tryd.ntmps17
      go_wp2_with (fail)
      refine (specAffineValid_any _ xs c _ (HS.out.ext (((Ext.refl w).alloc _).alloc _))).mono ?_
      rw [HV.out]
      rintro e W1 ⟨rfl, hE⟩
      have E1 : Hid (Ext w W1) := (((Ext.refl w).alloc _).alloc _).trans hE
      obtain ⟨d0, d1, f0, f1⟩ := blk2 (hE.blk (g := w.heap.size + 1) (blk_at (by simp)))
      clear hE
      go_wp2_with (fail)
      refine (l1Within_any k 99 _ (by omega) (by omega)).mono ?_
      rw [HK.out]
      rintro e W2 ⟨rfl, rfl⟩
      go_wp2
      exact bodyPost_ret (v := .tuple #[.agg #[.slice none 0 0, .int .i64 0], .bool false]) (by simp [results, Tryd.results17, go_sem, d0, d1]) rfl ⟨AffRet.none _ _, (E1.out.setAt (by omega) _).setAt (by omega) _⟩
    | true =>
      rw [scaleR_yes hv hk, ← comb_scale k (affValidB_len hv)]
      have hcc := valid_const hv
      obtain ⟨lk, uk⟩ := withinB_iff.1 hk
      have hkc : c * k = k * c := Int.mul_comm _ _
      rw [hkc]
      obtain ⟨r1, r2, r3, hr⟩ : ∃ r1 r2 r3, chk (comb xs k [0, 0, 0, 0] 0) (k * c) = (r1, r2, r3) := ⟨_, _, _, rfl⟩
      rw [hr]
      have HR := Lib.hid hr; clear hr hkc
      have HV := Lib.hid hv; clear hv
      have HK := Lib.hid hk; clear hk
      have HL := Lib.hid (affValidB_len HV.out)
      have HC4 : Hid ((comb xs k [0, 0, 0, 0] 0).length = 4) := by show _ = 4; rw [comb_len, HL.out]; simp
      have hm := mul_99 (a := k) (k := c) lk uk hcc.1 hcc.2
      have HB : Hid (∀ (i : Nat) (a b : Int), xs[i]? = some a → [(0 : Int), 0, 0, 0][i]? = some b → (-100000 ≤ k * a ∧ k * a ≤ 100000) ∧ (-100000 ≤ (0 : Int) * b ∧ 0 * b ≤ 100000)) := by
        intro i a b ha hb
        have h9 := valid_get HV.out ha
        have := mul_bd (a := a) (x := k) h9.1 h9.2 (by omega) (by omega)
        rw [Int.mul_comm k a, Int.zero_mul]
        omega
      go_enter Tryd.func17, Tryd.ntmps17
      go_wp2_with (fail)
      refine (specAffineValid_any _ xs c _ (HS.out.ext (((Ext.refl w).alloc _).alloc _))).mono ?_
      rw [HV.out]
      rintro e W1 ⟨rfl, hE⟩
      have E1 : Hid (Ext w W1) := (((Ext.refl w).alloc _).alloc _).trans hE
      obtain ⟨a0, a1, -, -⟩ := blk2 (hE.blk (g := w.heap.size) (blk_old (blk_at rfl)))
      have HBR := Lib.hid (hE.blk (g := w.heap.size + 1) (blk_at (by simp)))
      clear hE
      go_wp2_with (fail)
      refine (l1Within_any k 99 _ (by omega) (by omega)).mono ?_
      rw [HK.out]
      rintro e W2 ⟨rfl, rfl⟩
      generalize hga : w.heap.size = ga at *
      have HGA := Lib.hid hga; clear hga
      go_wp2_with (fail)
      go_region_held3 (fun W => W.cell? ⟨ga, 0, none⟩ = some (.slice p xs.length cp) ∧ W.cell? ⟨ga, 1, none⟩ = some (.int .i64 c) ∧ Ext w W)
        (first | exact ⟨a0, a1, E1.out.drew⟩ | exact ⟨g3.keep a0, g3.keep a1, E1.out.trans g3⟩ | exact ⟨g4.keep a0, g4.keep a1, E1.out.trans g4⟩ | exact ⟨g5.keep a0, g5.keep a1, E1.out.trans g5⟩ | exact ⟨(cell_setAt _ (by omega)).trans ((cell_setAt _ (by omega)).trans (g5.keep a0)), (cell_setAt _ (by omega)).trans ((cell_setAt _ (by omega)).trans (g5.keep a1)), ((E1.out.trans g5).setAt (by rw [HGA.out]; omega) _).setAt (by rw [HGA.out]; omega) _⟩ | fail)
        (first
          | (go_at_call 46; (with_reducible refine (l1Zero_any _).mono ?_); rintro e w3 ⟨p3, c3, rfl, hv3, hE3⟩; have g3 : Ext W1 w3 := (Ext.refl W1).drew.trans hE3)
          | (go_at_call 45; (with_reducible refine (l1Combine_any (.slice p xs.length cp) (.slice p3 4 c3) xs [0, 0, 0, 0] c 0 k 0 _ (HS.out.ext (E1.out.trans g3)) hv3.at HL.out rfl (by omega) HB.out).mono ?_); rintro e w4 ⟨p4, c4, rfl, hv4, hE4⟩; have g4 := g3.trans hE4)
          | (go_at_call 44; (with_reducible refine (l1Checked_any _ p4 4 c4 _ _ _ hv4 HC4.out).mono ?_); rw [HR.out]; rintro e w5 ⟨⟨p5, c5, rfl, hv5⟩, hE5⟩; have g5 := g4.trans hE5; obtain ⟨d0, d1, f0, f1⟩ := blk2 (g5.blk HBR.out)))
      have hlt := lt_of_block HBR.out
      have HV5 := Lib.hid (hv5.weak (B' := ga + 1 + 1) (by have := g3.size_le; omega))
      have E5 : Hid (Ext w w5) := E1.out.trans g5
      clear g3 g4 g5 hE3 hE4 hE5 hv3 hv4 hv5 a0 a1
      go_wp2
      refine bodyPost_ret (v := .tuple #[.agg #[.slice p5 r1.length c5, .int .i64 r2], .bool r3]) (by simp [results, Tryd.results17, go_sem, d0, d1]) rfl ⟨⟨p5, c5, rfl, IntsOwn.weak (B := ga + 1 + 1) ?_ (by rw [HGA.out]; omega)⟩, ?_⟩
      · exact (HV5.out.setAt (by omega) _).setAt (by omega) _
      · exact (E5.out.setAt (by rw [HGA.out]; omega) _).setAt (by rw [HGA.out]; omega) _
end Go.Proofs.YtcpbfefgjpimiaaDoor
