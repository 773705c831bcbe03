/- Contracts: multiples. -/
import Derived.Test.YtahdkkfmaanhkaaA13
import Derived.Test.YtahdkkfmaanhkaaA10
import Derived.Test.YtahdkkfmaanhkaaA8
import Derived.Deep.RegionHeld3
namespace Go.Proofs.Ytahdkkfmaanhkaa
open Go.RowKit

def scaleR (xs : List Int) (c k : Int) : List Int × Int × Bool := if affValidB xs c = true ∧ withinB k 99 = true then chk (xs.map (· * k)) (c * k) else ([], 0, false)
theorem scaleR_nov {xs : List Int} {c k : Int} (h : affValidB xs c = false) : scaleR xs c k = ([], 0, false) := by unfold scaleR; rw [if_neg]; rintro ⟨h1, _⟩; rw [h] at h1; cases h1
theorem scaleR_nok {xs : List Int} {c k : Int} (h : withinB k 99 = false) : scaleR xs c k = ([], 0, false) := by unfold scaleR; rw [if_neg]; rintro ⟨_, h1⟩; rw [h] at h1; cases h1
theorem scaleR_yes {xs : List Int} {c k : Int} (h : affValidB xs c = true) (h2 : withinB k 99 = true) : scaleR xs c k = chk (xs.map (· * k)) (c * k) := by unfold scaleR; rw [if_pos ⟨h, h2⟩]

set_option maxHeartbeats 1000000 in
theorem ScaleAffine_any (s : Value) (xs : List Int) (c k : Int) (w : World) (hs : IntsAt w s xs) :
    Calls Try.prog 24 #[.agg #[s, .int .i64 c], .int .i64 k] w fun e w' => AffRet w.heap.size w' e (scaleR xs c k) ∧ Ext w w' := by
  have HS := Lib.hid hs; clear hs
  obtain ⟨p, cp, rfl, -, -⟩ := HS.out
  cases hv : affValidB xs c with
  | false =>
    rw [scaleR_nov hv]
    have HV := Lib.hid hv; clear hv
    go_enter Try.func24, Try.ntmps24
    go_wp2_with (fail)
    refine (linearOf_no _ xs c _ (HS.out.ext (((Ext.refl w).alloc _).alloc _)) HV.out).mono ?_
    rintro e W1 ⟨rfl, hE⟩
    have E1 : Hid (Ext w W1) := (((Ext.refl w).alloc _).alloc _).trans hE
    have BR := hE.blk (g := w.heap.size + 1) (blk_at (by simp))
    have L4' := lt_of_block BR
    obtain ⟨d0, d1, f0, f1⟩ := blk2 BR
    clear hE BR
    go_wp2
    exact bodyPost_ret (v := .tuple #[.agg #[.slice none 0 0, .int .i64 0], .bool false]) (by simp [results, Try.results24, go_sem, d0, d1, L4']) rfl ⟨AffRet.none _ _, ((E1.out.setAt (by omega) _).setAt (by omega) _).alloc _⟩
  | true =>
    obtain ⟨a0, a1, a2, a3, rfl, ⟨la0, ua0⟩, ⟨la1, ua1⟩, ⟨la2, ua2⟩, ⟨la3, ua3⟩, ⟨lc, uc⟩⟩ := valid_four hv
    cases hk : withinB k 99 with
    | false =>
      rw [scaleR_nok hk]
      have HV := Lib.hid hv; clear hv
      have HK := Lib.hid hk; clear hk
      go_enter Try.func24, Try.ntmps24
      go_wp2_with (fail)
      refine (linearOf_yes _ a0 a1 a2 a3 c _ (HS.out.ext (((Ext.refl w).alloc _).alloc _)) HV.out).mono ?_
      rintro e W1 ⟨rfl, hE⟩
      have E1 : Hid (Ext w W1) := (((Ext.refl w).alloc _).alloc _).trans hE
      have BR := hE.blk (g := w.heap.size + 1) (blk_at (by simp))
      have L4' := lt_of_block BR
      obtain ⟨d0, d1, f0, f1⟩ := blk2 BR
      clear hE BR
      go_wp2_with (fail)
      refine (within_any k 99 _ (by omega) (by omega)).mono ?_
      rw [HK.out]
      rintro e W2 ⟨rfl, rfl⟩
      go_wp2
      exact bodyPost_ret (v := .tuple #[.agg #[.slice none 0 0, .int .i64 0], .bool false]) (by simp [results, Try.results24, go_sem, d0, d1, L4']) rfl ⟨AffRet.none _ _, ((E1.out.setAt (by omega) _).setAt (by omega) _).alloc _⟩
    | true =>
      rw [scaleR_yes hv hk]
      simp only [List.map_cons, List.map_nil]
      obtain ⟨r1, r2, r3, hr⟩ : ∃ r1 r2 r3, chk [a0 * k, a1 * k, a2 * k, a3 * k] (c * k) = (r1, r2, r3) := ⟨_, _, _, rfl⟩
      rw [hr]
      have HR := Lib.hid hr; clear hr
      obtain ⟨lk, uk⟩ := withinB_iff.1 hk
      have HV := Lib.hid hv; clear hv
      have HK := Lib.hid hk; clear hk
      go_enter Try.func24, Try.ntmps24
      go_wp2_with (fail)
      refine (linearOf_yes _ a0 a1 a2 a3 c _ (HS.out.ext (((Ext.refl w).alloc _).alloc _)) HV.out).mono ?_
      rintro e W1 ⟨rfl, hE⟩
      have E1 : Hid (Ext w W1) := (((Ext.refl w).alloc _).alloc _).trans hE
      have BR := hE.blk (g := w.heap.size + 1) (blk_at (by simp))
      have L4' := lt_of_block BR
      have HBR := Lib.hid BR
      clear hE BR
      go_wp2_with (fail)
      refine (within_any k 99 _ (by omega) (by omega)).mono ?_
      rw [HK.out]
      rintro e W2 ⟨rfl, rfl⟩
      go_wp2_with (fail)
      refine (times_any a0 a1 a2 a3 c k _ (by omega) (by omega) (by omega) (by omega) (by omega) (by omega)).mono ?_
      rintro e W3 ⟨rfl, hE⟩
      have E3 : Hid (Ext w W3) := (E1.out.alloc _).trans hE
      have HBR3 := Lib.hid (hE.blk (blk_old HBR.out))
      clear hE HBR L4'
      go_wp2_with (fail)
      refine (affine_any (a0 * k) (a1 * k) (a2 * k) (a3 * k) (c * k) _).mono ?_
      rw [HR.out]
      rintro e W4 ⟨⟨p4, c4, rfl, hv⟩, hE⟩
      have E4 : Hid (Ext w W4) := E3.out.trans hE
      obtain ⟨d0, d1, f0, f1⟩ := blk2 (hE.blk HBR3.out)
      have hlt := lt_of_block HBR3.out
      have HV4 := Lib.hid (hv.weak (B' := w.heap.size + 1 + 1) (by omega))
      clear hE hv HBR3
      dsimp only at HV4
      go_wp2
      refine bodyPost_ret (v := .tuple #[.agg #[.slice p4 r1.length c4, .int .i64 r2], .bool r3]) (by simp [results, Try.results24, go_sem, d0, d1]) rfl ⟨⟨p4, c4, rfl, IntsOwn.weak (B := w.heap.size + 1 + 1) ?_ (by omega)⟩, ?_⟩
      · exact (HV4.out.setAt (by omega) _).setAt (by omega) _
      · exact (E4.out.setAt (by omega) _).setAt (by omega) _

theorem mul_99 {a k : Int} (h1 : -99 ≤ a) (h2 : a ≤ 99) (h3 : -99 ≤ k) (h4 : k ≤ 99) : -100000 ≤ a * k ∧ a * k ≤ 100000 := by
  constructor
  · have := Int.mul_nonneg (a := a + 99) (b := k + 99) (by omega) (by omega)
    have := Int.mul_nonneg (a := 99 - a) (b := 99 - k) (by omega) (by omega)
    simp only [Int.add_mul, Int.mul_add, Int.sub_mul, Int.mul_sub] at *
    omega
  · have := Int.mul_nonneg (a := a + 99) (b := 99 - k) (by omega) (by omega)
    have := Int.mul_nonneg (a := 99 - a) (b := k + 99) (by omega) (by omega)
    simp only [Int.add_mul, Int.mul_add, Int.sub_mul, Int.mul_sub] at *
    omega

theorem comb_scale {xs : List Int} (k : Int) (h : xs.length = 4) : comb xs k [0, 0, 0, 0] 0 = xs.map (· * k) := by
  obtain ⟨a, b, c, d, rfl⟩ := four h
  simp [comb, Int.mul_comm]

end Go.Proofs.Ytahdkkfmaanhkaa
