/- Contracts: the model's sums and multiples. -/
import Derived.Test.YtahdkkfmaanhkaaA12
namespace Go.Proofs.Ytahdkkfmaanhkaa
open Go.RowKit

set_option maxHeartbeats 1000000 in
theorem l1Checked_yes (p : Option Addr) (n c : Nat) (xs : List Int) (k : Int) (w : World) (hs : IntsAt w (.slice p n c) xs) (hv : affValidB xs k = true) :
    Calls Try.prog 62 #[.agg #[.slice p n c, .int .i64 k]] w fun e w' => e = .returned (.tuple #[.agg #[.slice p n c, .int .i64 k], .bool true]) ∧ Ext w w' := by
  have HS := Lib.hid hs; have HV := Lib.hid hv; clear hs hv
  go_enter Try.func62, Try.ntmps62
  go_wp2_with (fail)
  refine (specAffineValid_any _ xs k _ (HS.out.ext (((Ext.refl w).alloc _).alloc _))).mono ?_
  rw [HV.out]
  rintro e W1 ⟨rfl, hE⟩
  have E1 : Hid (Ext w W1) := (((Ext.refl w).alloc _).alloc _).trans hE
  obtain ⟨c0, c1, -, -⟩ := blk2 (hE.blk (g := w.heap.size) (blk_old (blk_at rfl)))
  obtain ⟨r0, r1, f0, f1⟩ := blk2 (hE.blk (g := w.heap.size + 1) (blk_at (by simp)))
  clear hE
  go_wp2
  refine bodyPost_ret (v := .tuple #[.agg #[.slice p n c, .int .i64 k], .bool true]) (by simp [results, Try.results62, go_sem, r0, r1]) rfl ⟨rfl, ?_⟩
  exact (E1.out.setAt (by omega) _).setAt (by omega) _

set_option maxHeartbeats 1000000 in
theorem l1Checked_no (p : Option Addr) (n c : Nat) (xs : List Int) (k : Int) (w : World) (hs : IntsAt w (.slice p n c) xs) (hv : affValidB xs k = false) :
    Calls Try.prog 62 #[.agg #[.slice p n c, .int .i64 k]] w fun e w' => e = .returned (.tuple #[.agg #[.slice none 0 0, .int .i64 0], .bool false]) ∧ Ext w w' := by
  have HS := Lib.hid hs; have HV := Lib.hid hv; clear hs hv
  go_enter Try.func62, Try.ntmps62
  go_wp2_with (fail)
  refine (specAffineValid_any _ xs k _ (HS.out.ext (((Ext.refl w).alloc _).alloc _))).mono ?_
  rw [HV.out]
  rintro e W1 ⟨rfl, hE⟩
  have E1 : Hid (Ext w W1) := (((Ext.refl w).alloc _).alloc _).trans hE
  obtain ⟨r0, r1, f0, f1⟩ := blk2 (hE.blk (g := w.heap.size + 1) (blk_at (by simp)))
  clear hE
  go_wp2
  refine bodyPost_ret (v := .tuple #[.agg #[.slice none 0 0, .int .i64 0], .bool false]) (by simp [results, Try.results62, go_sem, r0, r1]) rfl ⟨rfl, ?_⟩
  exact (E1.out.setAt (by omega) _).setAt (by omega) _

theorem l1Checked_any (B : Nat) (p : Option Addr) (n c : Nat) (xs : List Int) (k : Int) (w : World) (ho : IntsOwn B w (.slice p n c) xs) (hn : xs.length = n) :
    Calls Try.prog 62 #[.agg #[.slice p n c, .int .i64 k]] w fun e w' => AffRet B w' e (chk xs k) ∧ Ext w w' := by
  cases hv : affValidB xs k with
  | true =>
    refine (l1Checked_yes p n c xs k w ho.at hv).mono ?_
    rintro e w' ⟨rfl, hE⟩
    unfold chk
    rw [if_pos hv]
    exact ⟨⟨p, c, by rw [hn], by rw [hn]; exact ho.ext hE⟩, hE⟩
  | false =>
    refine (l1Checked_no p n c xs k w ho.at hv).mono ?_
    rintro e w' ⟨rfl, hE⟩
    unfold chk
    rw [if_neg (by rw [hv]; decide)]
    exact ⟨AffRet.none _ _, hE⟩

theorem comb_add (xs ys : List Int) : comb xs 1 ys 1 = List.zipWith (· + ·) xs ys := by simp [comb]

theorem valid_get {xs : List Int} {k : Int} (h : affValidB xs k = true) {i : Nat} {a : Int} (ha : xs[i]? = some a) : -9 ≤ a ∧ a ≤ 9 := by
  simp only [affValidB, Bool.and_eq_true] at h
  have := List.all_eq_true.1 h.2.1 a (List.mem_of_getElem? ha)
  exact withinB_iff.1 this
theorem valid_const {xs : List Int} {k : Int} (h : affValidB xs k = true) : -99 ≤ k ∧ k ≤ 99 := by
  simp only [affValidB, Bool.and_eq_true] at h
  exact withinB_iff.1 h.2.2

set_option maxHeartbeats 1000000 in
theorem specAddAffine_any (s t : Value) (xs ys : List Int) (k l : Int) (w : World) (hs : IntsAt w s xs) (ht : IntsAt w t ys) :
    Calls Try.prog 17 #[.agg #[s, .int .i64 k], .agg #[t, .int .i64 l]] w fun e w' => AffRet w.heap.size w' e (addR xs k ys l) ∧ Ext w w' := by
  have HS := Lib.hid hs; have HT := Lib.hid ht; clear hs ht
  obtain ⟨p, cp, rfl, -, -⟩ := HS.out
  obtain ⟨q, cq, rfl, -, -⟩ := HT.out
  cases hx : affValidB xs k with
  | false =>
    rw [addR_no (.inl hx)]
    have HX := Lib.hid hx; clear hx
    go_enter Try.func17, Try.ntmps17
    go_wp2_with (fail)
    refine (specAffineValid_any _ xs k _ (HS.out.ext ((((Ext.refl w).alloc _).alloc _).alloc _))).mono ?_
    rw [HX.out]
    rintro e W1 ⟨rfl, hE⟩
    have E1 : Hid (Ext w W1) := ((((Ext.refl w).alloc _).alloc _).alloc _).trans hE
    obtain ⟨r0, r1, f0, f1⟩ := blk2 (hE.blk (g := w.heap.size + 1 + 1) (blk_at (by simp)))
    clear hE
    go_wp2
    refine bodyPost_ret (v := .tuple #[.agg #[.slice none 0 0, .int .i64 0], .bool false]) (by simp [results, Try.results17, go_sem, r0, r1]) rfl ⟨AffRet.none _ _, ?_⟩
    exact (E1.out.setAt (by omega) _).setAt (by omega) _
  | true =>
    cases hy : affValidB ys l with
    | false =>
      rw [addR_no (.inr hy)]
      have HX := Lib.hid hx; clear hx
      have HY := Lib.hid hy; clear hy
      go_enter Try.func17, Try.ntmps17
      go_wp2_with (fail)
      refine (specAffineValid_any _ xs k _ (HS.out.ext ((((Ext.refl w).alloc _).alloc _).alloc _))).mono ?_
      rw [HX.out]
      rintro e W1 ⟨rfl, hE⟩
      have E1 : Hid (Ext w W1) := ((((Ext.refl w).alloc _).alloc _).alloc _).trans hE
      have BB := hE.blk (g := w.heap.size + 1) (blk_old (blk_at (by simp)))
      have BR := hE.blk (g := w.heap.size + 1 + 1) (blk_at (by simp))
      obtain ⟨b0, b1, -, -⟩ := blk2 BB
      have HBR := Lib.hid BR
      clear hE BB BR
      go_wp2_with (fail)
      refine (specAffineValid_any _ ys l _ (HT.out.ext E1.out)).mono ?_
      rw [HY.out]
      rintro e W2 ⟨rfl, hE⟩
      have E2 : Hid (Ext w W2) := E1.out.trans hE
      obtain ⟨r0, r1, f0, f1⟩ := blk2 (hE.blk HBR.out)
      clear hE b0 b1
      go_wp2
      refine bodyPost_ret (v := .tuple #[.agg #[.slice none 0 0, .int .i64 0], .bool false]) (by simp [results, Try.results17, go_sem, r0, r1]) rfl ⟨AffRet.none _ _, ?_⟩
      exact (E2.out.setAt (by omega) _).setAt (by omega) _
    | true =>
      have hR : addR xs k ys l = chk (comb xs 1 ys 1) (k + l) := by unfold addR; rw [if_pos ⟨hx, hy⟩, comb_add]
      obtain ⟨r1, r2, r3, hr⟩ : ∃ r1 r2 r3, chk (comb xs 1 ys 1) (k + l) = (r1, r2, r3) := ⟨_, _, _, rfl⟩
      rw [hR, hr]
      have HR := Lib.hid hr; clear hr hR
      have hkk := valid_const hx
      have hll := valid_const hy
      have HX := Lib.hid hx; have HY := Lib.hid hy; clear hx hy
      have hl4 := affValidB_len HX.out
      have hl4' := affValidB_len HY.out
      have HL := Lib.hid hl4; have HL' := Lib.hid hl4'; clear hl4 hl4'
      go_enter Try.func17, Try.ntmps17
      go_wp2_with (fail)
      refine (specAffineValid_any _ xs k _ (HS.out.ext ((((Ext.refl w).alloc _).alloc _).alloc _))).mono ?_
      rw [HX.out]
      rintro e W1 ⟨rfl, hE⟩
      have E1 : Hid (Ext w W1) := ((((Ext.refl w).alloc _).alloc _).alloc _).trans hE
      have BA := hE.blk (g := w.heap.size) (blk_old (blk_old (blk_at rfl)))
      have BB := hE.blk (g := w.heap.size + 1) (blk_old (blk_at (by simp)))
      have BR := hE.blk (g := w.heap.size + 1 + 1) (blk_at (by simp))
      obtain ⟨b0, b1, -, -⟩ := blk2 BB
      have HBA := Lib.hid BA; have HBB := Lib.hid BB; have HBR := Lib.hid BR
      clear hE BA BB BR
      go_wp2_with (fail)
      refine (specAffineValid_any _ ys l _ (HT.out.ext E1.out)).mono ?_
      rw [HY.out]
      rintro e W2 ⟨rfl, hE⟩
      have E2 : Hid (Ext w W2) := E1.out.trans hE
      obtain ⟨a0, a1, -, -⟩ := blk2 (hE.blk HBA.out)
      replace b0 := hE.keep b0
      replace b1 := hE.keep b1
      have HBR2 := Lib.hid (hE.blk HBR.out)
      clear hE HBA HBB HBR
      go_wp2_with (fail)
      refine (l1Combine_any _ _ xs ys k l 1 1 _ (HS.out.ext E2.out) (HT.out.ext E2.out) HL.out HL'.out (by omega) (fun i a b ha hb => by have := valid_get HX.out ha; have := valid_get HY.out hb; omega)).mono ?_
      rintro e W3 ⟨p3, c3, rfl, hv3, hE⟩
      have E3 : Hid (Ext w W3) := E2.out.trans hE
      have HV3 := Lib.hid (hv3.weak (B' := w.heap.size + 1 + 1 + 1) (by have := lt_of_block HBR2.out; omega))
      have HBR3 := Lib.hid (hE.blk HBR2.out)
      clear hE hv3 a0 a1 b0 b1 HBR2
      go_wp2_with (fail)
      refine (l1Checked_any _ p3 4 c3 _ _ _ HV3.out (by rw [comb_len, HL.out, HL'.out]; rfl)).mono ?_
      rw [HR.out]
      rintro e W4 ⟨⟨p4, c4, rfl, hv4⟩, hE⟩
      have E4 : Hid (Ext w W4) := E3.out.trans hE
      obtain ⟨d0, d1, f0, f1⟩ := blk2 (hE.blk HBR3.out)
      have HV4 := Lib.hid hv4
      clear hE hv4 HV3 HBR3
      dsimp only at HV4
      go_wp2
      refine bodyPost_ret (v := .tuple #[.agg #[.slice p4 r1.length c4, .int .i64 r2], .bool r3]) (by simp [results, Try.results17, go_sem, d0, d1]) rfl ⟨⟨p4, c4, rfl, IntsOwn.weak (B := w.heap.size + 1 + 1 + 1) ?_ (by omega)⟩, ?_⟩
      · exact (HV4.out.setAt (by omega) _).setAt (by omega) _
      · exact (E4.out.setAt (by omega) _).setAt (by omega) _
end Go.Proofs.Ytahdkkfmaanhkaa
