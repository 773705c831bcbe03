/- Contracts: SubstAffine. -/
import Derived.Test.YtabkhiakekammaaA15
import Derived.Test.YtabkhiakekammaaA10
namespace Go.Proofs.Ytabkhiakekammaa
open Go.RowKit

/-- What SubstAffine answers. -/
def substR (xs : List Int) (k v : Int) (ys : List Int) (l : Int) : List Int × Int × Bool :=
  if affValidB xs k = true ∧ affValidB ys l = true ∧ 0 ≤ v ∧ v < 4 then chk (substL xs ys v.toNat) (k + l * xs.getD v.toNat 0) else ([], 0, false)
theorem substR_no {xs ys : List Int} {k l v : Int} (h : affValidB xs k = false ∨ affValidB ys l = false ∨ ¬ (0 ≤ v ∧ v < 4)) : substR xs k v ys l = ([], 0, false) := by
  unfold substR; rw [if_neg]; rintro ⟨h1, h2, h3⟩; rcases h with h | h | h
  · rw [h] at h1; cases h1
  · rw [h] at h2; cases h2
  · exact h h3

set_option maxHeartbeats 1000000 in
theorem SubstAffine_yes (s t : Value) (xs ys : List Int) (k l v : Int) (w : World) (hs : IntsAt w s xs) (ht : IntsAt w t ys) (hx : affValidB xs k = true) (hy : affValidB ys l = true) (hv : 0 ≤ v ∧ v < 4) :
    Calls Try.prog 18 #[.agg #[s, .int .i64 k], .int .i64 v, .agg #[t, .int .i64 l]] w fun e w' => AffRet w.heap.size w' e (substR xs k v ys l) ∧ Ext w w' := by
  have hR : substR xs k v ys l = chk (substL xs ys v.toNat) (k + l * xs.getD v.toNat 0) := by unfold substR; rw [if_pos ⟨hx, hy, hv⟩]
  rw [hR]; clear hR
  obtain ⟨a0, a1, a2, a3, rfl, ⟨la0, ua0⟩, ⟨la1, ua1⟩, ⟨la2, ua2⟩, ⟨la3, ua3⟩, ⟨lk, uk⟩⟩ := valid_four hx
  obtain ⟨b0, b1, b2, b3, rfl, ⟨lb0, ub0⟩, ⟨lb1, ub1⟩, ⟨lb2, ub2⟩, ⟨lb3, ub3⟩, ⟨ll, ul⟩⟩ := valid_four hy
  have HX := Lib.hid hx; have HY := Lib.hid hy; clear hx hy
  have HS := Lib.hid hs; have HT := Lib.hid ht; clear hs ht
  obtain ⟨p, cp, rfl, -, -⟩ := HS.out
  obtain ⟨q, cq, rfl, -, -⟩ := HT.out
  obtain ⟨r1, r2, r3, hr⟩ : ∃ r1 r2 r3, chk (substL [a0, a1, a2, a3] [b0, b1, b2, b3] v.toNat) (k + l * [a0, a1, a2, a3].getD v.toNat 0) = (r1, r2, r3) := ⟨_, _, _, rfl⟩
  rw [hr]
  have HR := Lib.hid hr; clear hr
  have HD : Hid (decide (0 ≤ v ∧ v < 4) = true) := by show _ = true; simp [hv]
  have HVB := Lib.hid hv; clear hv
  generalize hg : [a0, a1, a2, a3].getD v.toNat 0 = gv at HR
  have HG := Lib.hid hg; clear hg
  have HRP := Lib.hid (fun W => replace_any a0 a1 a2 a3 k b0 b1 b2 b3 l v W HVB.out.1 HVB.out.2 ⟨la0, ua0⟩ ⟨la1, ua1⟩ ⟨la2, ua2⟩ ⟨la3, ua3⟩ ⟨lk, uk⟩ ⟨lb0, ub0⟩ ⟨lb1, ub1⟩ ⟨lb2, ub2⟩ ⟨lb3, ub3⟩ ⟨ll, ul⟩)
  go_enter Try.func18, Try.ntmps18
  go_wp2_with (fail)
  refine (linearOf_yes _ a0 a1 a2 a3 k _ (HS.out.ext ((((Ext.refl w).alloc _).alloc _).alloc _)) HX.out).mono ?_
  rintro e W1 ⟨rfl, hE⟩
  have E1 : Hid (Ext w W1) := ((((Ext.refl w).alloc _).alloc _).alloc _).trans hE
  have B3 := hE.blk (g := w.heap.size + 1) (o := .cells #[.slice q 4 cq, .int .i64 l] 25 (0, 0)) (blk_old (blk_at (by simp)))
  have B4 := hE.blk (g := w.heap.size + 1 + 1) (o := .cells #[.slice none 0 0, .int .i64 0] 25 (0, 0)) (blk_at (by simp))
  have L3 := lt_of_block B3
  have L4 := lt_of_block B4
  obtain ⟨c30, c31, -, -⟩ := blk2 B3
  have BB4 := Lib.hid B4; clear B3 B4 hE
  go_wp2_with (fail)
  refine (linearOf_yes _ b0 b1 b2 b3 l _ (HT.out.ext (E1.out.alloc _)) HY.out).mono ?_
  rintro e W2 ⟨rfl, hE⟩
  have E2 : Hid (Ext w W2) := (E1.out.alloc _).trans hE
  have B4 := hE.blk (g := w.heap.size + 1 + 1) (o := .cells #[.slice none 0 0, .int .i64 0] 25 (0, 0)) ((Below.heap_alloc _ _ _ L4).trans BB4.out)
  have B6 := hE.blk (g := W1.heap.size) (o := .cells #[.int .i64 a0, .int .i64 a1, .int .i64 a2, .int .i64 a3, .int .i64 k] 76 (0, 0)) (heap_alloc_new _ _)
  have L4' := lt_of_block B4
  have L6 := lt_of_block B6
  obtain ⟨c60, c61, c62, c63, c64, -⟩ := blk5 B6
  clear BB4 L4 L3 c30 c31 hE B6
  have BB4 := Lib.hid B4; clear B4
  go_wp2_with (fail)
  refine (varValid_any v _).mono ?_
  rw [HD.out]
  rintro e Wv ⟨rfl, rfl⟩
  go_wp2_with (fail)
  refine (HRP.out _).mono ?_
  rw [HG.out]
  rintro e W3 ⟨⟨c0, c1, c2, c3, rfl, hs3⟩, hE⟩
  have E3 : Hid (Ext w W3) := (E2.out.alloc _).trans hE
  have B4 := hE.blk (g := w.heap.size + 1 + 1) (o := .cells #[.slice none 0 0, .int .i64 0] 25 (0, 0)) ((Below.heap_alloc _ _ _ L4').trans BB4.out)
  clear BB4 L4' L6 c60 c61 c62 c63 c64 hE
  have BB4 := Lib.hid B4; clear B4
  go_wp2_with (fail)
  refine (affine_any c0 c1 c2 c3 (k + l * gv) _).mono ?_
  have hr3 := HR.out; rw [hs3] at hr3; rw [hr3]; clear hr3
  rintro e W4 ⟨⟨p4, c4, rfl, hv⟩, hE⟩
  have E4 : Hid (Ext w W4) := E3.out.trans hE
  obtain ⟨d0, d1, f0, f1⟩ := blk2 (hE.blk BB4.out)
  have hlt := lt_of_block BB4.out
  have HV := Lib.hid hv
  clear hE BB4 hv
  dsimp only at HV
  go_wp2
  refine bodyPost_ret (v := .tuple #[.agg #[.slice p4 r1.length c4, .int .i64 r2], .bool r3]) (by simp [results, Try.results18, go_sem, d0, d1]) rfl ⟨⟨p4, c4, rfl, IntsOwn.weak (B := w.heap.size + 1 + 1 + 1) ?_ (by omega)⟩, ?_⟩
  · exact ((HV.out.weak (B' := w.heap.size + 1 + 1 + 1) (by omega)).setAt (by omega) _).setAt (by omega) _
  · exact (E4.out.setAt (by omega) _).setAt (by omega) _

set_option maxHeartbeats 1000000 in
theorem SubstAffine_no (s t : Value) (xs ys : List Int) (k l v : Int) (w : World) (hs : IntsAt w s xs) (ht : IntsAt w t ys) (h : affValidB xs k = false ∨ affValidB ys l = false ∨ ¬ (0 ≤ v ∧ v < 4)) :
    Calls Try.prog 18 #[.agg #[s, .int .i64 k], .int .i64 v, .agg #[t, .int .i64 l]] w fun e w' => AffRet w.heap.size w' e (substR xs k v ys l) ∧ Ext w w' := by
  rw [substR_no h]
  have HS := Lib.hid hs; have HT := Lib.hid ht; clear hs ht
  obtain ⟨p, cp, rfl, -, -⟩ := HS.out
  obtain ⟨q, cq, rfl, -, -⟩ := HT.out
  go_enter Try.func18, Try.ntmps18
  go_wp2_with (fail)
  refine (linearOf_any _ xs k _ (HS.out.ext ((((Ext.refl w).alloc _).alloc _).alloc _))).mono ?_
  rintro e W1 ⟨⟨a0, a1, a2, a3, am, rfl, -⟩, hE⟩
  have E1 : Hid (Ext w W1) := ((((Ext.refl w).alloc _).alloc _).alloc _).trans hE
  have B3 := hE.blk (g := w.heap.size + 1) (o := .cells #[.slice q ys.length cq, .int .i64 l] 25 (0, 0)) (blk_old (blk_at (by simp)))
  have B4 := hE.blk (g := w.heap.size + 1 + 1) (o := .cells #[.slice none 0 0, .int .i64 0] 25 (0, 0)) (blk_at (by simp))
  have L3 := lt_of_block B3
  have L4 := lt_of_block B4
  obtain ⟨c30, c31, -, -⟩ := blk2 B3
  have BB4 := Lib.hid B4; clear B3 B4 hE
  go_wp2_with (fail)
  refine (linearOf_any _ ys l _ (HT.out.ext (E1.out.alloc _))).mono ?_
  rintro e W2 ⟨⟨b0, b1, b2, b3, bm, rfl, -⟩, hE⟩
  have E2 : Hid (Ext w W2) := (E1.out.alloc _).trans hE
  have B4 := hE.blk (g := w.heap.size + 1 + 1) (o := .cells #[.slice none 0 0, .int .i64 0] 25 (0, 0)) ((Below.heap_alloc _ _ _ L4).trans BB4.out)
  have L4' := lt_of_block B4
  obtain ⟨d0, d1, f0, f1⟩ := blk2 B4
  clear BB4 L4 L3 c30 c31 hE B4
  cases hx : affValidB xs k with
  | false =>
    go_wp2
    exact bodyPost_ret (v := .tuple #[.agg #[.slice none 0 0, .int .i64 0], .bool false]) (by simp [results, Try.results18, go_sem, d0, d1, L4']) rfl ⟨AffRet.none _ _, ((E2.out.setAt (by omega) _).setAt (by omega) _).alloc _⟩
  | true =>
    cases hy : affValidB ys l with
    | false =>
      clear h hx hy
      go_wp2
      exact bodyPost_ret (v := .tuple #[.agg #[.slice none 0 0, .int .i64 0], .bool false]) (by simp [results, Try.results18, go_sem, d0, d1, L4']) rfl ⟨AffRet.none _ _, ((E2.out.setAt (by omega) _).setAt (by omega) _).alloc _⟩
    | true =>
      have hnv : decide (0 ≤ v ∧ v < 4) = false := by
        rcases h with h | h | h
        · rw [hx] at h; cases h
        · rw [hy] at h; cases h
        · simpa using h
      have HD := Lib.hid hnv; clear h hx hy hnv
      go_wp2_with (fail)
      refine (varValid_any v _).mono ?_
      rw [HD.out]
      rintro e Wv ⟨rfl, rfl⟩
      go_wp2
      exact bodyPost_ret (v := .tuple #[.agg #[.slice none 0 0, .int .i64 0], .bool false]) (by simp [results, Try.results18, go_sem, d0, d1, L4']) rfl ⟨AffRet.none _ _, ((E2.out.setAt (by omega) _).setAt (by omega) _).alloc _⟩

theorem SubstAffine_any (s t : Value) (xs ys : List Int) (k l v : Int) (w : World) (hs : IntsAt w s xs) (ht : IntsAt w t ys) :
    Calls Try.prog 18 #[.agg #[s, .int .i64 k], .int .i64 v, .agg #[t, .int .i64 l]] w fun e w' => AffRet w.heap.size w' e (substR xs k v ys l) ∧ Ext w w' := by
  cases hx : affValidB xs k with
  | false => exact SubstAffine_no s t xs ys k l v w hs ht (.inl hx)
  | true =>
    cases hy : affValidB ys l with
    | false => exact SubstAffine_no s t xs ys k l v w hs ht (.inr (.inl hy))
    | true =>
      by_cases hv : 0 ≤ v ∧ v < 4
      · exact SubstAffine_yes s t xs ys k l v w hs ht hx hy hv
      · exact SubstAffine_no s t xs ys k l v w hs ht (.inr (.inr hv))
end Go.Proofs.Ytabkhiakekammaa
