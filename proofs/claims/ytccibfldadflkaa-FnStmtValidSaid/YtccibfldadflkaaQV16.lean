/- The texts S7, joined. No statement is proved here. -/
import Derived.Test.YtccibfldadflkaaQV48
/- The model's check of a node's own fields. (Written by s7.py.) No statement is proved here. -/
namespace Go.Proofs.Ytccibfldadflkaa
open Go.RowKit

def ownF (kind num : Int) (ix : Aff) (arr : ByteArray) (subs : List Aff) (d : Int) : Bool :=
  if kind = 2 then decide (num = 0) && (emptyB arr subs && (affValidB ix.1 ix.2 && decide (depR ix.1 ix.2 ≤ d)))
  else if kind = 3 then decide (num = 0) && (noneB ix && accB arr subs d)
  else if kind = 1 then decide (0 ≤ num) && (decide (num ≤ 99) && (noneB ix && emptyB arr subs))
  else decide (num = 0) && (noneB ix && emptyB arr subs)

set_option maxHeartbeats 4000000 in
theorem l3Own_any (kind num k : Int) (u s v : Value) (xs : List Int) (arr : ByteArray) (subs : List Aff) (dd : Int) (w : World) (hu : IntsAt w u xs) (ha : arr.size ≤ 9223372036854775807) (hs : AffsAt w s subs) (hv : ∃ p n c, v = .slice p n c) :
    Calls Try.prog 92 #[.agg #[.int .i64 kind, .int .i64 num, u, .int .i64 k, .string arr, s, v], .int .i64 dd] w fun e w' => e = .returned (.bool (ownF kind num (xs, k) arr subs dd)) ∧ Ext w w' := by
  obtain ⟨pv, nv, cv, rfl⟩ := hv
  obtain ⟨pu, cu, rfl, hmu, -⟩ := id hu
  obtain ⟨ps, cs, rfl, hms⟩ := hs.form
  have HU := Lib.hid hu; have HS := Lib.hid hs; clear hu hs
  by_cases h2 : kind = 2
  · subst h2
    by_cases hn : num = 0
    · subst hn
      have EA : Hid (Ext w (w.alloc (.cells #[.int .i64 2, .int .i64 0, .slice pu xs.length cu, .int .i64 k, .string arr, .slice ps subs.length cs, .slice pv nv cv] 54))) := Lib.hid ((Ext.refl w).alloc _)
      have BA : Hid ((w.alloc (.cells #[.int .i64 2, .int .i64 0, .slice pu xs.length cu, .int .i64 k, .string arr, .slice ps subs.length cs, .slice pv nv cv] 54)).heap[w.heap.size]? = some (.cells #[.int .i64 2, .int .i64 0, .slice pu xs.length cu, .int .i64 k, .string arr, .slice ps subs.length cs, .slice pv nv cv] 54 (0, 0))) := Lib.hid (blk_at rfl)
      obtain ⟨y0, y1, y2, y3, y4, y5, y6⟩ := blk7 BA.out
      go_enter Try.func92, Try.ntmps92
      cases hq1 : emptyB arr subs with
      | false =>
        have HQ1 := Lib.hid hq1; clear hq1
        go_wp2_with (fail)
        refine (l3Empty_any arr _ subs _ (HS.out.ext EA.out)).mono ?_
        rw [HQ1.out]
        rintro r W1 ⟨rfl, hE1⟩
        have E1 : Hid (Ext w W1) := Lib.hid (EA.out.trans hE1)
        have B1 := Lib.hid (hE1.blk BA.out)
        clear y0 y1 y2 y3 y4 y5 y6
        clear hE1
        go_wp2
        go_ret
        exact ⟨ret_bool (by simp [ownF, HQ1.out]), E1.out⟩
      | true =>
        have HQ1 := Lib.hid hq1; clear hq1
        go_wp2_with (fail)
        refine (l3Empty_any arr _ subs _ (HS.out.ext EA.out)).mono ?_
        rw [HQ1.out]
        rintro r W1 ⟨rfl, hE1⟩
        have E1 : Hid (Ext w W1) := Lib.hid (EA.out.trans hE1)
        have B1 := Lib.hid (hE1.blk BA.out)
        clear y0 y1 y2 y3 y4 y5 y6
        obtain ⟨y0, y1, y2, y3, y4, y5, y6⟩ := blk7 B1.out
        clear hE1
        cases hq2 : affValidB xs k with
        | false =>
          have HQ2 := Lib.hid hq2; clear hq2
          go_wp2_with (fail)
          refine (specAffineValid_any _ xs k _ (HU.out.ext E1.out)).mono ?_
          rw [HQ2.out]
          rintro r W2 ⟨rfl, hE2⟩
          have E2 : Hid (Ext w W2) := Lib.hid (E1.out.trans hE2)
          have B2 := Lib.hid (hE2.blk B1.out)
          clear y0 y1 y2 y3 y4 y5 y6
          clear hE2
          go_wp2
          go_ret
          exact ⟨ret_bool (by simp [ownF, HQ2.out, HQ1.out]), E2.out⟩
        | true =>
          have HQ2 := Lib.hid hq2; clear hq2
          go_wp2_with (fail)
          refine (specAffineValid_any _ xs k _ (HU.out.ext E1.out)).mono ?_
          rw [HQ2.out]
          rintro r W2 ⟨rfl, hE2⟩
          have E2 : Hid (Ext w W2) := Lib.hid (E1.out.trans hE2)
          have B2 := Lib.hid (hE2.blk B1.out)
          clear y0 y1 y2 y3 y4 y5 y6
          obtain ⟨y0, y1, y2, y3, y4, y5, y6⟩ := blk7 B2.out
          clear hE2
          obtain ⟨a, b', c', d, rfl, -⟩ := valid_four HQ2.out
          have hdep : Hid (depR [a, b', c', d] k = dep4 a b' c' d) := depR_four HQ2.out
          go_wp2_with (fail)
          refine (l1Depth_four _ a b' c' d k _ (HU.out.ext E2.out)).mono ?_
          rintro r W9 ⟨rfl, hE9⟩
          have E9 : Hid (Ext w W9) := Lib.hid (E2.out.trans hE9)
          clear y0 y1 y2 y3 y4 y5 y6 hE9
          generalize dep4 a b' c' d = D at *
          by_cases hd : D ≤ dd
          · have hdd : decide (D ≤ dd) = true := by simpa using hd
            have HF : Hid (ownF 2 0 ([a, b', c', d], k) arr subs dd = true) := Lib.hid (by simp [ownF, HQ1.out, HQ2.out, hdep.out, hd])
            go_wp2
            go_ret
            exact ⟨ret_bool HF.out.symm, E9.out⟩
          · have hdd : decide (D ≤ dd) = false := by simpa using hd
            have HF : Hid (ownF 2 0 ([a, b', c', d], k) arr subs dd = false) := Lib.hid (by simp only [ownF, hdep.out, hdd]; simp)
            go_wp2
            go_ret
            exact ⟨ret_bool HF.out.symm, E9.out⟩
    · have hnb : (num == 0) = false := by simp [hn]
      have HN := Lib.hid hn; clear hn
      have EA : Hid (Ext w (w.alloc (.cells #[.int .i64 2, .int .i64 num, .slice pu xs.length cu, .int .i64 k, .string arr, .slice ps subs.length cs, .slice pv nv cv] 54))) := Lib.hid ((Ext.refl w).alloc _)
      have BA : Hid ((w.alloc (.cells #[.int .i64 2, .int .i64 num, .slice pu xs.length cu, .int .i64 k, .string arr, .slice ps subs.length cs, .slice pv nv cv] 54)).heap[w.heap.size]? = some (.cells #[.int .i64 2, .int .i64 num, .slice pu xs.length cu, .int .i64 k, .string arr, .slice ps subs.length cs, .slice pv nv cv] 54 (0, 0))) := Lib.hid (blk_at rfl)
      obtain ⟨y0, y1, y2, y3, y4, y5, y6⟩ := blk7 BA.out
      go_enter Try.func92, Try.ntmps92
      clear y0 y1 y2 y3 y4 y5 y6
      go_wp2
      go_ret
      exact ⟨ret_bool (by simp [ownF, HN.out]), EA.out⟩
  have hk2 : (kind == 2) = false := by simp [h2]
  by_cases h3 : kind = 3
  · subst h3
    clear hk2 h2
    by_cases hn : num = 0
    · subst hn
      have EA : Hid (Ext w (w.alloc (.cells #[.int .i64 3, .int .i64 0, .slice pu xs.length cu, .int .i64 k, .string arr, .slice ps subs.length cs, .slice pv nv cv] 54))) := Lib.hid ((Ext.refl w).alloc _)
      have BA : Hid ((w.alloc (.cells #[.int .i64 3, .int .i64 0, .slice pu xs.length cu, .int .i64 k, .string arr, .slice ps subs.length cs, .slice pv nv cv] 54)).heap[w.heap.size]? = some (.cells #[.int .i64 3, .int .i64 0, .slice pu xs.length cu, .int .i64 k, .string arr, .slice ps subs.length cs, .slice pv nv cv] 54 (0, 0))) := Lib.hid (blk_at rfl)
      obtain ⟨y0, y1, y2, y3, y4, y5, y6⟩ := blk7 BA.out
      go_enter Try.func92, Try.ntmps92
      cases hq3 : noneB (xs, k) with
      | false =>
        have HQ3 := Lib.hid hq3; clear hq3
        go_wp2_with (fail)
        refine (l3None_any _ xs k _ (HU.out.ext EA.out)).mono ?_
        rw [HQ3.out]
        rintro r W3 ⟨rfl, hE3⟩
        have E3 : Hid (Ext w W3) := Lib.hid (EA.out.trans hE3)
        have B3 := Lib.hid (hE3.blk BA.out)
        clear y0 y1 y2 y3 y4 y5 y6
        clear hE3
        go_wp2
        go_ret
        exact ⟨ret_bool (by simp [ownF, HQ3.out]), E3.out⟩
      | true =>
        have HQ3 := Lib.hid hq3; clear hq3
        go_wp2_with (fail)
        refine (l3None_any _ xs k _ (HU.out.ext EA.out)).mono ?_
        rw [HQ3.out]
        rintro r W3 ⟨rfl, hE3⟩
        have E3 : Hid (Ext w W3) := Lib.hid (EA.out.trans hE3)
        have B3 := Lib.hid (hE3.blk BA.out)
        clear y0 y1 y2 y3 y4 y5 y6
        obtain ⟨y0, y1, y2, y3, y4, y5, y6⟩ := blk7 B3.out
        clear hE3
        cases hq4 : accB arr subs dd with
        | false =>
          have HQ4 := Lib.hid hq4; clear hq4
          go_wp2_with (fail)
          refine (l3Access_any arr _ subs dd _ ha (HS.out.ext E3.out)).mono ?_
          rw [HQ4.out]
          rintro r W4 ⟨rfl, hE4⟩
          have E4 : Hid (Ext w W4) := Lib.hid (E3.out.trans hE4)
          have B4 := Lib.hid (hE4.blk B3.out)
          clear y0 y1 y2 y3 y4 y5 y6
          clear hE4
          go_wp2
          go_ret
          exact ⟨ret_bool (by simp [ownF, HQ4.out, HQ3.out]), E4.out⟩
        | true =>
          have HQ4 := Lib.hid hq4; clear hq4
          go_wp2_with (fail)
          refine (l3Access_any arr _ subs dd _ ha (HS.out.ext E3.out)).mono ?_
          rw [HQ4.out]
          rintro r W4 ⟨rfl, hE4⟩
          have E4 : Hid (Ext w W4) := Lib.hid (E3.out.trans hE4)
          have B4 := Lib.hid (hE4.blk B3.out)
          clear y0 y1 y2 y3 y4 y5 y6
          obtain ⟨y0, y1, y2, y3, y4, y5, y6⟩ := blk7 B4.out
          clear hE4
          clear y0 y1 y2 y3 y4 y5 y6
          go_wp2
          go_ret
          exact ⟨ret_bool (by simp [ownF, HQ3.out, HQ4.out]), E4.out⟩
    · have hnb : (num == 0) = false := by simp [hn]
      have HN := Lib.hid hn; clear hn
      have EA : Hid (Ext w (w.alloc (.cells #[.int .i64 3, .int .i64 num, .slice pu xs.length cu, .int .i64 k, .string arr, .slice ps subs.length cs, .slice pv nv cv] 54))) := Lib.hid ((Ext.refl w).alloc _)
      have BA : Hid ((w.alloc (.cells #[.int .i64 3, .int .i64 num, .slice pu xs.length cu, .int .i64 k, .string arr, .slice ps subs.length cs, .slice pv nv cv] 54)).heap[w.heap.size]? = some (.cells #[.int .i64 3, .int .i64 num, .slice pu xs.length cu, .int .i64 k, .string arr, .slice ps subs.length cs, .slice pv nv cv] 54 (0, 0))) := Lib.hid (blk_at rfl)
      obtain ⟨y0, y1, y2, y3, y4, y5, y6⟩ := blk7 BA.out
      go_enter Try.func92, Try.ntmps92
      clear y0 y1 y2 y3 y4 y5 y6
      go_wp2
      go_ret
      exact ⟨ret_bool (by simp [ownF, HN.out]), EA.out⟩
  have hk3 : (kind == 3) = false := by simp [h3]
  by_cases h1 : kind = 1
  · subst h1
    clear hk2 h2 hk3 h3
    by_cases hn0 : 0 ≤ num
    · have hb0 : decide (0 ≤ num) = true := by simpa using hn0
      by_cases hn1 : num ≤ 99
      · have hb1 : decide (num ≤ 99) = true := by simpa using hn1
        have HN := Lib.hid (And.intro hn0 hn1); clear hn0 hn1
        have EA : Hid (Ext w (w.alloc (.cells #[.int .i64 1, .int .i64 num, .slice pu xs.length cu, .int .i64 k, .string arr, .slice ps subs.length cs, .slice pv nv cv] 54))) := Lib.hid ((Ext.refl w).alloc _)
        have BA : Hid ((w.alloc (.cells #[.int .i64 1, .int .i64 num, .slice pu xs.length cu, .int .i64 k, .string arr, .slice ps subs.length cs, .slice pv nv cv] 54)).heap[w.heap.size]? = some (.cells #[.int .i64 1, .int .i64 num, .slice pu xs.length cu, .int .i64 k, .string arr, .slice ps subs.length cs, .slice pv nv cv] 54 (0, 0))) := Lib.hid (blk_at rfl)
        obtain ⟨y0, y1, y2, y3, y4, y5, y6⟩ := blk7 BA.out
        go_enter Try.func92, Try.ntmps92
        cases hq5 : noneB (xs, k) with
        | false =>
          have HQ5 := Lib.hid hq5; clear hq5
          go_wp2_with (fail)
          refine (l3None_any _ xs k _ (HU.out.ext EA.out)).mono ?_
          rw [HQ5.out]
          rintro r W5 ⟨rfl, hE5⟩
          have E5 : Hid (Ext w W5) := Lib.hid (EA.out.trans hE5)
          have B5 := Lib.hid (hE5.blk BA.out)
          clear y0 y1 y2 y3 y4 y5 y6
          clear hE5
          go_wp2
          go_ret
          exact ⟨ret_bool (by simp [ownF, HQ5.out]), E5.out⟩
        | true =>
          have HQ5 := Lib.hid hq5; clear hq5
          go_wp2_with (fail)
          refine (l3None_any _ xs k _ (HU.out.ext EA.out)).mono ?_
          rw [HQ5.out]
          rintro r W5 ⟨rfl, hE5⟩
          have E5 : Hid (Ext w W5) := Lib.hid (EA.out.trans hE5)
          have B5 := Lib.hid (hE5.blk BA.out)
          clear y0 y1 y2 y3 y4 y5 y6
          obtain ⟨y0, y1, y2, y3, y4, y5, y6⟩ := blk7 B5.out
          clear hE5
          cases hq6 : emptyB arr subs with
          | false =>
            have HQ6 := Lib.hid hq6; clear hq6
            go_wp2_with (fail)
            refine (l3Empty_any arr _ subs _ (HS.out.ext E5.out)).mono ?_
            rw [HQ6.out]
            rintro r W6 ⟨rfl, hE6⟩
            have E6 : Hid (Ext w W6) := Lib.hid (E5.out.trans hE6)
            have B6 := Lib.hid (hE6.blk B5.out)
            clear y0 y1 y2 y3 y4 y5 y6
            clear hE6
            go_wp2
            go_ret
            exact ⟨ret_bool (by simp [ownF, HQ6.out, HQ5.out]), E6.out⟩
          | true =>
            have HQ6 := Lib.hid hq6; clear hq6
            go_wp2_with (fail)
            refine (l3Empty_any arr _ subs _ (HS.out.ext E5.out)).mono ?_
            rw [HQ6.out]
            rintro r W6 ⟨rfl, hE6⟩
            have E6 : Hid (Ext w W6) := Lib.hid (E5.out.trans hE6)
            have B6 := Lib.hid (hE6.blk B5.out)
            clear y0 y1 y2 y3 y4 y5 y6
            obtain ⟨y0, y1, y2, y3, y4, y5, y6⟩ := blk7 B6.out
            clear hE6
            clear y0 y1 y2 y3 y4 y5 y6
            go_wp2
            go_ret
            exact ⟨ret_bool (by simp [ownF, HQ5.out, HQ6.out, HN.out.1, HN.out.2]), E6.out⟩
      · have hb1 : decide (num ≤ 99) = false := by simpa using hn1
        have HN := Lib.hid hn1; clear hn0 hn1
        have EA : Hid (Ext w (w.alloc (.cells #[.int .i64 1, .int .i64 num, .slice pu xs.length cu, .int .i64 k, .string arr, .slice ps subs.length cs, .slice pv nv cv] 54))) := Lib.hid ((Ext.refl w).alloc _)
        have BA : Hid ((w.alloc (.cells #[.int .i64 1, .int .i64 num, .slice pu xs.length cu, .int .i64 k, .string arr, .slice ps subs.length cs, .slice pv nv cv] 54)).heap[w.heap.size]? = some (.cells #[.int .i64 1, .int .i64 num, .slice pu xs.length cu, .int .i64 k, .string arr, .slice ps subs.length cs, .slice pv nv cv] 54 (0, 0))) := Lib.hid (blk_at rfl)
        obtain ⟨y0, y1, y2, y3, y4, y5, y6⟩ := blk7 BA.out
        go_enter Try.func92, Try.ntmps92
        clear y0 y1 y2 y3 y4 y5 y6
        go_wp2
        go_ret
        exact ⟨ret_bool (by have := HN.out; simp [ownF]; intros; omega), EA.out⟩
    · have hb0 : decide (0 ≤ num) = false := by simpa using hn0
      have HN := Lib.hid hn0; clear hn0
      have EA : Hid (Ext w (w.alloc (.cells #[.int .i64 1, .int .i64 num, .slice pu xs.length cu, .int .i64 k, .string arr, .slice ps subs.length cs, .slice pv nv cv] 54))) := Lib.hid ((Ext.refl w).alloc _)
      have BA : Hid ((w.alloc (.cells #[.int .i64 1, .int .i64 num, .slice pu xs.length cu, .int .i64 k, .string arr, .slice ps subs.length cs, .slice pv nv cv] 54)).heap[w.heap.size]? = some (.cells #[.int .i64 1, .int .i64 num, .slice pu xs.length cu, .int .i64 k, .string arr, .slice ps subs.length cs, .slice pv nv cv] 54 (0, 0))) := Lib.hid (blk_at rfl)
      obtain ⟨y0, y1, y2, y3, y4, y5, y6⟩ := blk7 BA.out
      go_enter Try.func92, Try.ntmps92
      clear y0 y1 y2 y3 y4 y5 y6
      go_wp2
      go_ret
      exact ⟨ret_bool (by have := HN.out; simp [ownF]; intros; omega), EA.out⟩
  have hk1 : (kind == 1) = false := by simp [h1]
  have H123 : Hid (kind ≠ 2 ∧ kind ≠ 3 ∧ kind ≠ 1) := Lib.hid ⟨h2, h3, h1⟩
  clear h1 h2 h3
  by_cases hn : num = 0
  · subst hn
    have EA : Hid (Ext w (w.alloc (.cells #[.int .i64 kind, .int .i64 0, .slice pu xs.length cu, .int .i64 k, .string arr, .slice ps subs.length cs, .slice pv nv cv] 54))) := Lib.hid ((Ext.refl w).alloc _)
    have BA : Hid ((w.alloc (.cells #[.int .i64 kind, .int .i64 0, .slice pu xs.length cu, .int .i64 k, .string arr, .slice ps subs.length cs, .slice pv nv cv] 54)).heap[w.heap.size]? = some (.cells #[.int .i64 kind, .int .i64 0, .slice pu xs.length cu, .int .i64 k, .string arr, .slice ps subs.length cs, .slice pv nv cv] 54 (0, 0))) := Lib.hid (blk_at rfl)
    obtain ⟨y0, y1, y2, y3, y4, y5, y6⟩ := blk7 BA.out
    go_enter Try.func92, Try.ntmps92
    cases hq7 : noneB (xs, k) with
    | false =>
      have HQ7 := Lib.hid hq7; clear hq7
      go_wp2_with (fail)
      refine (l3None_any _ xs k _ (HU.out.ext EA.out)).mono ?_
      rw [HQ7.out]
      rintro r W7 ⟨rfl, hE7⟩
      have E7 : Hid (Ext w W7) := Lib.hid (EA.out.trans hE7)
      have B7 := Lib.hid (hE7.blk BA.out)
      clear y0 y1 y2 y3 y4 y5 y6
      clear hE7
      go_wp2
      go_ret
      exact ⟨ret_bool (by simp [ownF, HQ7.out, H123.out.1, H123.out.2.1, H123.out.2.2]), E7.out⟩
    | true =>
      have HQ7 := Lib.hid hq7; clear hq7
      go_wp2_with (fail)
      refine (l3None_any _ xs k _ (HU.out.ext EA.out)).mono ?_
      rw [HQ7.out]
      rintro r W7 ⟨rfl, hE7⟩
      have E7 : Hid (Ext w W7) := Lib.hid (EA.out.trans hE7)
      have B7 := Lib.hid (hE7.blk BA.out)
      clear y0 y1 y2 y3 y4 y5 y6
      obtain ⟨y0, y1, y2, y3, y4, y5, y6⟩ := blk7 B7.out
      clear hE7
      cases hq8 : emptyB arr subs with
      | false =>
        have HQ8 := Lib.hid hq8; clear hq8
        go_wp2_with (fail)
        refine (l3Empty_any arr _ subs _ (HS.out.ext E7.out)).mono ?_
        rw [HQ8.out]
        rintro r W8 ⟨rfl, hE8⟩
        have E8 : Hid (Ext w W8) := Lib.hid (E7.out.trans hE8)
        have B8 := Lib.hid (hE8.blk B7.out)
        clear y0 y1 y2 y3 y4 y5 y6
        clear hE8
        go_wp2
        go_ret
        exact ⟨ret_bool (by simp [ownF, HQ8.out, HQ7.out, H123.out.1, H123.out.2.1, H123.out.2.2]), E8.out⟩
      | true =>
        have HQ8 := Lib.hid hq8; clear hq8
        go_wp2_with (fail)
        refine (l3Empty_any arr _ subs _ (HS.out.ext E7.out)).mono ?_
        rw [HQ8.out]
        rintro r W8 ⟨rfl, hE8⟩
        have E8 : Hid (Ext w W8) := Lib.hid (E7.out.trans hE8)
        have B8 := Lib.hid (hE8.blk B7.out)
        clear y0 y1 y2 y3 y4 y5 y6
        obtain ⟨y0, y1, y2, y3, y4, y5, y6⟩ := blk7 B8.out
        clear hE8
        clear y0 y1 y2 y3 y4 y5 y6
        go_wp2
        go_ret
        exact ⟨ret_bool (by simp [ownF, HQ7.out, HQ8.out, H123.out.1, H123.out.2.1, H123.out.2.2]), E8.out⟩
  · have hnb : (num == 0) = false := by simp [hn]
    have HN := Lib.hid hn; clear hn
    have EA : Hid (Ext w (w.alloc (.cells #[.int .i64 kind, .int .i64 num, .slice pu xs.length cu, .int .i64 k, .string arr, .slice ps subs.length cs, .slice pv nv cv] 54))) := Lib.hid ((Ext.refl w).alloc _)
    have BA : Hid ((w.alloc (.cells #[.int .i64 kind, .int .i64 num, .slice pu xs.length cu, .int .i64 k, .string arr, .slice ps subs.length cs, .slice pv nv cv] 54)).heap[w.heap.size]? = some (.cells #[.int .i64 kind, .int .i64 num, .slice pu xs.length cu, .int .i64 k, .string arr, .slice ps subs.length cs, .slice pv nv cv] 54 (0, 0))) := Lib.hid (blk_at rfl)
    obtain ⟨y0, y1, y2, y3, y4, y5, y6⟩ := blk7 BA.out
    go_enter Try.func92, Try.ntmps92
    clear y0 y1 y2 y3 y4 y5 y6
    go_wp2
    go_ret
    exact ⟨ret_bool (by simp [ownF, HN.out, H123.out.1, H123.out.2.1, H123.out.2.2]), EA.out⟩
end Go.Proofs.Ytccibfldadflkaa
