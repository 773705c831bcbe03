/- Contract: the model's SubstAffine. -/
import Derived.Test.YtabkhiakekammaaA17
import Derived.Test.YtabkhiakekammaaA13
namespace Go.Proofs.Ytabkhiakekammaa
open Go.RowKit

theorem comb_subst (xs ys : List Int) (v : Nat) (z : Int) (hz : xs[v]? = some z) : comb (xs.set v 0) 1 ys z = substL xs ys v := by
  have hg : xs.getD v 0 = z := by rw [List.getD_eq_getElem?_getD, hz]; rfl
  unfold comb substL
  rw [hg, List.zipWith_map_right]
  congr 1
  funext a b
  rw [Int.one_mul, Int.mul_comm]
theorem subst_len {xs ys : List Int} {v : Nat} (hx : xs.length = 4) (hy : ys.length = 4) : (substL xs ys v).length = 4 := by simp [substL, hx, hy]

set_option maxHeartbeats 1000000 in
theorem specSubstAffine_any (s t : Value) (xs ys : List Int) (k l v : Int) (w : World) (hs : IntsAt w s xs) (ht : IntsAt w t ys) :
    Calls Try.prog 19 #[.agg #[s, .int .i64 k], .int .i64 v, .agg #[t, .int .i64 l]] w fun e w' => AffRet w.heap.size w' e (substR xs k v ys l) ∧ Ext w w' := by
  have HS := Lib.hid hs; have HT := Lib.hid ht; clear hs ht
  obtain ⟨p, cp, rfl, -, -⟩ := HS.out
  obtain ⟨q, cq, rfl, -, -⟩ := HT.out
  cases hx : affValidB xs k with
  | false =>
    rw [substR_no (.inl hx)]
    have HX := Lib.hid hx; clear hx
    go_enter Try.func19, Try.ntmps19
    go_wp2_with (fail)
    refine (specAffineValid_any _ xs k _ (HS.out.ext ((((Ext.refl w).alloc _).alloc _).alloc _))).mono ?_
    rw [HX.out]
    rintro e W1 ⟨rfl, hE⟩
    have E1 : Hid (Ext w W1) := ((((Ext.refl w).alloc _).alloc _).alloc _).trans hE
    obtain ⟨r0, r1, f0, f1⟩ := blk2 (hE.blk (g := w.heap.size + 1 + 1) (blk_at (by simp)))
    clear hE
    go_wp2
    refine bodyPost_ret (v := .tuple #[.agg #[.slice none 0 0, .int .i64 0], .bool false]) (by simp [results, Try.results19, go_sem, r0, r1]) rfl ⟨AffRet.none _ _, ?_⟩
    exact (E1.out.setAt (by omega) _).setAt (by omega) _
  | true =>
    cases hy : affValidB ys l with
    | false =>
      rw [substR_no (.inr (.inl hy))]
      have HX := Lib.hid hx; clear hx
      have HY := Lib.hid hy; clear hy
      go_enter Try.func19, Try.ntmps19
      go_wp2_with (fail)
      refine (specAffineValid_any _ xs k _ (HS.out.ext ((((Ext.refl w).alloc _).alloc _).alloc _))).mono ?_
      rw [HX.out]
      rintro e W1 ⟨rfl, hE⟩
      have E1 : Hid (Ext w W1) := ((((Ext.refl w).alloc _).alloc _).alloc _).trans hE
      have BB := hE.blk (g := w.heap.size + 1) (blk_old (blk_at (by simp)))
      have BR := hE.blk (g := w.heap.size + 1 + 1) (blk_at (by simp))
      obtain ⟨b0, b1, -, -⟩ := blk2 BB
      have HBR := Lib.hid BR
      clear hE BB BR
      go_wp2_with (fail)
      refine (specAffineValid_any _ ys l _ (HT.out.ext E1.out)).mono ?_
      rw [HY.out]
      rintro e W2 ⟨rfl, hE⟩
      have E2 : Hid (Ext w W2) := E1.out.trans hE
      obtain ⟨r0, r1, f0, f1⟩ := blk2 (hE.blk HBR.out)
      clear hE b0 b1
      go_wp2
      refine bodyPost_ret (v := .tuple #[.agg #[.slice none 0 0, .int .i64 0], .bool false]) (by simp [results, Try.results19, go_sem, r0, r1]) rfl ⟨AffRet.none _ _, ?_⟩
      exact (E2.out.setAt (by omega) _).setAt (by omega) _
    | true =>
      by_cases hv : 0 ≤ v ∧ v < 4
      · obtain ⟨z, hz⟩ := get_some (xs := xs) (k := v.toNat) (by rw [affValidB_len hx]; omega)
        have hR : substR xs k v ys l = chk (comb (xs.set v.toNat 0) 1 ys z) (k + z * l) := by
          unfold substR; rw [if_pos ⟨hx, hy, hv⟩, comb_subst xs ys v.toNat z hz]
          have hg : xs.getD v.toNat 0 = z := by rw [List.getD_eq_getElem?_getD, hz]; rfl
          rw [hg, Int.mul_comm l z]
        obtain ⟨r1, r2, r3, hr⟩ : ∃ r1 r2 r3, chk (comb (xs.set v.toNat 0) 1 ys z) (k + z * l) = (r1, r2, r3) := ⟨_, _, _, rfl⟩
        rw [hR, hr]
        have HR := Lib.hid hr; clear hr hR
        have hkk := valid_const hx
        have hll := valid_const hy
        have hz9 := valid_get hx hz
        have HX := Lib.hid hx; have HY := Lib.hid hy; clear hx hy
        have hl4 := affValidB_len HX.out
        have hl4' := affValidB_len HY.out
        have HLc : Hid ((comb (xs.set v.toNat 0) 1 ys z).length = 4) := by show _ = 4; rw [comb_len, List.length_set, hl4, hl4']; rfl
        have HBB : Hid (∀ (i : Nat) (a' b' : Int), (xs.set v.toNat 0)[i]? = some a' → ys[i]? = some b' → (-100000 ≤ 1 * a' ∧ 1 * a' ≤ 100000) ∧ (-100000 ≤ z * b' ∧ z * b' ≤ 100000)) := by
          intro i a' b' ha hb
          have hb9 := valid_get HY.out hb
          have hm := mul_bd (a := z) (x := b') hz9.1 hz9.2 (by omega) (by omega)
          have ha9 : -9 ≤ a' ∧ a' ≤ 9 := by
            rw [List.getElem?_set] at ha
            split at ha
            · split at ha
              · cases ha; omega
              · cases ha
            · exact valid_get HX.out ha
          rw [Int.one_mul]
          omega
        have HKL : Hid ((-100000 ≤ 1 * k ∧ 1 * k ≤ 100000) ∧ (-100000 ≤ z * l ∧ z * l ≤ 100000)) := by
          have hm := mul_bd (a := z) (x := l) hz9.1 hz9.2 (by omega) (by omega)
          refine ⟨by rw [Int.one_mul]; omega, hm⟩
        have HZ := Lib.hid hz
        clear hz hz9 hkk hll
        obtain ⟨a, b, c, d, rfl⟩ := four hl4
        clear hl4
        have HL' := Lib.hid hl4'; clear hl4'
        have hva := hv.1
        have hvb := hv.2
        go_enter Try.func19, Try.ntmps19
        go_wp2_with (fail)
        refine (specAffineValid_any _ [a, b, c, d] k _ (HS.out.ext ((((Ext.refl w).alloc _).alloc _).alloc _))).mono ?_
        rw [HX.out]
        rintro e W1 ⟨rfl, hE⟩
        have E1 : Hid (Ext w W1) := ((((Ext.refl w).alloc _).alloc _).alloc _).trans hE
        have BA := hE.blk (g := w.heap.size) (blk_old (blk_old (blk_at rfl)))
        have BB := hE.blk (g := w.heap.size + 1) (blk_old (blk_at (by simp)))
        have BR := hE.blk (g := w.heap.size + 1 + 1) (blk_at (by simp))
        obtain ⟨b0, b1, -, -⟩ := blk2 BB
        have HBA := Lib.hid BA; have HBB2 := Lib.hid BB; have HBR := Lib.hid BR
        clear hE BA BB BR
        go_wp2_with (fail)
        refine (specAffineValid_any _ ys l _ (HT.out.ext E1.out)).mono ?_
        rw [HY.out]
        rintro e W2 ⟨rfl, hE⟩
        have E2 : Hid (Ext w W2) := E1.out.trans hE
        obtain ⟨a0, a1, -, -⟩ := blk2 (hE.blk HBA.out)
        replace b0 := hE.keep b0
        replace b1 := hE.keep b1
        have HBR2 := Lib.hid (hE.blk HBR.out)
        clear hE HBA HBB2 HBR
        go_wp2_with (fail)
        refine (l1Subst_any _ _ a b c d ys k l v z _ (HS.out.ext E2.out) (HT.out.ext E2.out) HL'.out hv HZ.out HKL.out HBB.out).mono ?_
        rintro e W3 ⟨p3, c3, rfl, hv3, hE⟩
        have E3 : Hid (Ext w W3) := E2.out.trans hE
        have HV3 := Lib.hid (hv3.weak (B' := w.heap.size + 1 + 1 + 1) (by have := lt_of_block HBR2.out; omega))
        have HBR3 := Lib.hid (hE.blk HBR2.out)
        clear hE hv3 a0 a1 b0 b1 HBR2
        go_wp2_with (fail)
        refine (l1Checked_any _ p3 4 c3 _ _ _ HV3.out HLc.out).mono ?_
        rw [HR.out]
        rintro e W4 ⟨⟨p4, c4, rfl, hv4⟩, hE⟩
        have E4 : Hid (Ext w W4) := E3.out.trans hE
        obtain ⟨d0, d1, f0, f1⟩ := blk2 (hE.blk HBR3.out)
        have HV4 := Lib.hid hv4
        clear hE hv4 HV3 HBR3
        dsimp only at HV4
        go_wp2
        refine bodyPost_ret (v := .tuple #[.agg #[.slice p4 r1.length c4, .int .i64 r2], .bool r3]) (by simp [results, Try.results19, go_sem, d0, d1]) rfl ⟨⟨p4, c4, rfl, IntsOwn.weak (B := w.heap.size + 1 + 1 + 1) ?_ (by omega)⟩, ?_⟩
        · exact (HV4.out.setAt (by omega) _).setAt (by omega) _
        · exact (E4.out.setAt (by omega) _).setAt (by omega) _
      · rw [substR_no (.inr (.inr hv))]
        have HX := Lib.hid hx; clear hx
        have HY := Lib.hid hy; clear hy
        have hvc : v < 0 ∨ (0 ≤ v ∧ 4 ≤ v) := by omega
        clear hv
        rcases hvc with hv | ⟨hv0, hv⟩
        all_goals
          go_enter Try.func19, Try.ntmps19
          go_wp2_with (fail)
          refine (specAffineValid_any _ xs k _ (HS.out.ext ((((Ext.refl w).alloc _).alloc _).alloc _))).mono ?_
          rw [HX.out]
          rintro e W1 ⟨rfl, hE⟩
          have E1 : Hid (Ext w W1) := ((((Ext.refl w).alloc _).alloc _).alloc _).trans hE
          have BB := hE.blk (g := w.heap.size + 1) (blk_old (blk_at (by simp)))
          have BR := hE.blk (g := w.heap.size + 1 + 1) (blk_at (by simp))
          obtain ⟨b0, b1, -, -⟩ := blk2 BB
          have HBR := Lib.hid BR
          clear hE BB BR
          go_wp2_with (fail)
          refine (specAffineValid_any _ ys l _ (HT.out.ext E1.out)).mono ?_
          rw [HY.out]
          rintro e W2 ⟨rfl, hE⟩
          have E2 : Hid (Ext w W2) := E1.out.trans hE
          obtain ⟨r0, r1, f0, f1⟩ := blk2 (hE.blk HBR.out)
          clear hE b0 b1
          go_wp2
          refine bodyPost_ret (v := .tuple #[.agg #[.slice none 0 0, .int .i64 0], .bool false]) (by simp [results, Try.results19, go_sem, r0, r1]) rfl ⟨AffRet.none _ _, ?_⟩
          exact (E2.out.setAt (by omega) _).setAt (by omega) _
end Go.Proofs.Ytabkhiakekammaa
