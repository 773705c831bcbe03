/- The texts S5 S6 S7, joined. No statement is proved here. -/
import Derived.Test.YtklehkkclojccaaGreatQL21
import Derived.Test.YtklehkkclojccaaGreatQL25
set_option maxRecDepth 100000
set_option maxHeartbeats 8000000
set_option linter.unusedVariables false
set_option linter.unusedSimpArgs false
namespace Go.Proofs.YtklehkkclojccaaGreat
open Go.Lib (hid)
section
open Go.RowKit
def arrB (a : ByteArray) : Bool := match a.data.toList with
 | [b] => !Op.bytesLess [b] [65] && (Op.bytesLess [b] [68] || b == 68)
 | _ => false
theorem jY17 {a : ByteArray} (h : a.size ≠ 1) : arrB a = false := by
 obtain ⟨d⟩ := a
 obtain ⟨l⟩ := d
 unfold arrB
 match l, h with
 | [], _ => rfl
 | [b], h => exact absurd rfl h
 | _ :: _ :: _, _ => rfl
def accB (arr : ByteArray) (subs : List Aff) (d : Int) : Bool := subs.all (boundB d) && (arrB arr && decide (1 <= subs.length /\ subs.length <= 2))
theorem jVB {a : ByteArray} (h : a.size = 1) : ∃ b : UInt8, a = ⟨#[b]⟩ := by
 obtain ⟨d⟩ := a
 obtain ⟨l⟩ := d
 match l, h with
 | [b], _ => exact ⟨b, rfl⟩
theorem jXs (arr : ByteArray) (s : Value) (subs : List Aff) (dd : Int) (w : World) (ha : arr.size <= 9223372036854775807) (hs : AffsAt w s subs) :
  Calls Tryz.prog 210 #[.agg #[.string arr, s], .int .i64 dd] w fun e w' => e = .returned (.bool (accB arr subs dd)) /\ Ext w w' := by
 obtain ⟨p, c, rfl, hm⟩ := hs.form
 have HS := hid hs; clear hs
 generalize hn : subs.length = n at *
 have HN := hid hn; clear hn
 go_enter Tryz.func210, Tryz.ntmps210
 go_wp2
 obtain ⟨W1, hW1⟩ : ∃ W1, w.alloc (.cells #[.string arr, .slice p n c] 174) = W1 := ⟨_, rfl⟩
 have HB : Hid (W1.heap[w.heap.size]? = some (.cells #[.string arr, .slice p n c] 174 (0, 0))) := hid (by rw [<- hW1]; exact blk_at rfl)
 have HE1 : Hid (Ext w W1) := hid (by rw [<- hW1]; exact (Ext.refl w).alloc _)
 rw [hW1]
 clear hW1
 go_loopw [5] (fun i wr => ∃ k : Nat, k <= n /\ i = .int .i64 k /\ (subs.take k).all (boundB dd) = true /\ Ext W1 wr) (fun i _ => n - (intOf i).toNat)
 case atStart => exact ⟨0, by omega, rfl, by simp, Ext.refl W1⟩
 case round =>
  obtain ⟨k, hk, rfl, hall, hE⟩ := hrel; have HA := hid hall; clear hall; obtain ⟨y0, y1, -, -⟩ := blk2 (hE.blk HB.o); by_cases hlt : k < n
  ·obtain ⟨x, hx⟩ := jZ0 (xs := subs) (k := k) (by rw [HN.o]; exact hlt)
   obtain ⟨b, off, q, m, rfl, c0, c1, hb, hr⟩ := (HS.o.ext (HE1.o.trans hE)).elem hx; have HX := hid hx; have HR := hid hr; clear hx hr; cases hv : jZ5 x.1 x.2 with
   | false =>
    have HV := hid hv; clear hv; go_wp2_with (fail); refine (jZv _ x.1 x.2 _ HR.o).mono ?_; rw [HV.o]; rintro e w1 ⟨rfl, hE1⟩; go_wp2; go_ret; exact ⟨jZ2 (by simp [accB, jZa (p := boundB dd) HX.o (by simp [boundB, HV.o])]), HE1.o.trans (hE.trans hE1)⟩
   | true =>
    obtain ⟨x1, x2⟩ := x; dsimp only at *; obtain ⟨a, b', c', d, rfl, -⟩ := jZj hv; have HV := hid hv; clear hv; go_wp2_with (fail); refine (jZv _ [a, b', c', d] x2 _ HR.o).mono ?_; rw [HV.o]; rintro e w1 ⟨rfl, hE1⟩; replace c0 := hE1.keep c0; replace c1 := hE1.keep c1; replace y0 := hE1.keep y0; replace y1 := hE1.keep y1; go_wp2_with (fail); refine (jXU _ a b' c' d x2 _ (HR.o.ext hE1)).mono ?_; rintro e w2 ⟨rfl, hE2⟩; have hdep : Hid (depR [a, b', c', d] x2 = dep4 a b' c' d) := jVJ HV.o; clear c0 c1 y0 y1; generalize dep4 a b' c' d = D at *; by_cases hd : D <= dd
    ·have hdd : decide (dd < D) = false := by simp; omega
     go_wp2; go_roundw
     case rel => exact ⟨k + 1, by omega, by go_num, by rw [jZ6 HX.o, List.all_append, HA.o]; simp [boundB, HV.o, hdep.o, hd], (hE.trans hE1).trans hE2⟩
     case measure => simp [intOf]; omega
    ·have hdd : decide (dd < D) = true := by simp; omega
     go_wp2; go_ret; exact ⟨jZ2 (by simp [accB, jZa (p := boundB dd) HX.o (by simp [boundB, HV.o, hdep.o, hd])]), HE1.o.trans ((hE.trans hE1).trans hE2)⟩
  ·have e : k = n := by omega
   subst e; have hall : subs.all (boundB dd) = true := by have h := HA.o; rwa [List.take_of_length_le (by rw [HN.o]; omega)] at h
   have HAL := hid hall; clear hall; have hEE := hid (HE1.o.trans hE); by_cases hsz : arr.size = 1
   ·obtain ⟨b, rfl⟩ := jVB hsz
    clear hsz ha; cases hA : Op.bytesLess [b] [65] with
    | true =>
     go_wp2; go_ret; exact ⟨jZ2 (by simp [accB, arrB, hA]), hEE.o⟩
    | false =>
     cases hB : (Op.bytesLess [b] [68] || b == 68) with
     | false =>
      have hB' : ¬ (Op.bytesLess [b] [68] = true \/ b = 68) := by simpa using hB
      go_wp2; go_ret; exact ⟨jZ2 (by simp only [accB, arrB, hA, hB]; simp), hEE.o⟩
     | true =>
      have hB' : Op.bytesLess [b] [68] = true \/ b = 68 := by simpa using hB
      have HAR : Hid (accB ⟨#[b]⟩ subs dd = decide (1 <= k /\ k <= 2)) := hid (by simp only [accB, HAL.o, arrB, hA, hB, HN.o]; simp); by_cases h1 : 1 <= k
      ·have hb1 : decide ((1 : Int) <= k) = true := by simp; omega
       by_cases h2 : k <= 2
       ·have hb2 : decide ((k : Int) <= 2) = true := by simp; omega
        go_wp2; go_ret; exact ⟨jZ2 (by rw [HAR.o]; simp [h1, h2]), hEE.o⟩
       ·have hb2 : decide ((k : Int) <= 2) = false := by simp; omega
        go_wp2; go_ret; exact ⟨jZ2 (by rw [HAR.o]; simp [h1, h2]), hEE.o⟩
      ·have hb1 : decide ((1 : Int) <= k) = false := by simp; omega
       go_wp2; go_ret; exact ⟨jZ2 (by rw [HAR.o]; simp [h1]), hEE.o⟩
   ·have hb : ((arr.size : Int) == 1) = false := by simp; omega
    go_wp2; go_ret; exact ⟨jZ2 (by simp [accB, jY17 hsz]), hEE.o⟩
end
section
open Go.RowKit
def emptyB (arr : ByteArray) (subs : List Aff) : Bool := decide (arr.toList = []) && decide (subs.length = 0)
def noneB (a : Aff) : Bool := decide (a.1.length = 0) && decide (a.2 = 0)
def kidsN (kind : Int) : Int := if kind = 1 \/ kind = 2 \/ kind = 3 then 0 else if kind = 4 \/ kind = 5 \/ kind = 6 then 2 else -1
theorem jV3 (kind : Int) (w : World) : Calls Tryz.prog 265 #[.int .i64 kind] w fun e w' => e = .returned (.int .i64 (kidsN kind)) /\ w = w' := by
 by_cases h1 : kind = 1
 ·subst h1; go_enter Tryz.func265, Tryz.ntmps265
  go_wp2; go_ret; exact ⟨rfl, rfl⟩
 by_cases h2 : kind = 2
 ·subst h2; go_enter Tryz.func265, Tryz.ntmps265
  go_wp2; go_ret; exact ⟨rfl, rfl⟩
 by_cases h3 : kind = 3
 ·subst h3; go_enter Tryz.func265, Tryz.ntmps265
  go_wp2; go_ret; exact ⟨rfl, rfl⟩
 by_cases h4 : kind = 4
 ·subst h4; go_enter Tryz.func265, Tryz.ntmps265
  go_wp2; go_ret; exact ⟨rfl, rfl⟩
 by_cases h5 : kind = 5
 ·subst h5; go_enter Tryz.func265, Tryz.ntmps265
  go_wp2; go_ret; exact ⟨rfl, rfl⟩
 by_cases h6 : kind = 6
 ·subst h6; go_enter Tryz.func265, Tryz.ntmps265
  go_wp2; go_ret; exact ⟨rfl, rfl⟩
 have hk : Hid (kidsN kind = -1) := hid (by simp [kidsN, h1, h2, h3, h4, h5, h6])
 have b1 : (kind == 1) = false := by simp [h1]
 have b2 : (kind == 2) = false := by simp [h2]
 have b3 : (kind == 3) = false := by simp [h3]
 have b4 : (kind == 4) = false := by simp [h4]
 have b5 : (kind == 5) = false := by simp [h5]
 have b6 : (kind == 6) = false := by simp [h6]
 clear h1 h2 h3 h4 h5 h6
 go_enter Tryz.func265, Tryz.ntmps265
 go_wp2
 go_ret
 exact ⟨by rw [hk.out]; rfl, rfl⟩
theorem jXg (s : Value) (xs : List Int) (k : Int) (w : World) (hs : IntsAt w s xs) :
  Calls Tryz.prog 302 #[.agg #[s, .int .i64 k]] w fun e w' => e = .returned (.bool (noneB (xs, k))) /\ Ext w w' := by
 obtain ⟨p, c, rfl, hm, -⟩ := hs
 by_cases h0 : xs.length = 0
 ·have hb : ((xs.length : Int) == 0) = true := beq_iff_eq.2 (by omega)
  by_cases hk : k = 0
  ·subst hk
   have HR : Hid (noneB (xs, 0) = true) := hid (by simp only [noneB]; rw [h0]; rfl); clear h0
   go_enter Tryz.func302, Tryz.ntmps302
   go_wp2; go_ret; exact ⟨jZ2 HR.o.symm, (Ext.refl w).alloc _⟩
  ·have hkb : (k == 0) = false := by simp [hk]
   have HR : Hid (noneB (xs, k) = false) := hid (by simp [noneB, hk]); clear h0 hk
   go_enter Tryz.func302, Tryz.ntmps302
   go_wp2; go_ret; exact ⟨jZ2 HR.o.symm, (Ext.refl w).alloc _⟩
 ·have hb : ((xs.length : Int) == 0) = false := beq_eq_false_iff_ne.2 (by omega)
  have HR : Hid (noneB (xs, k) = false) := hid (by simp only [noneB]; rw [decide_eq_false h0]; rfl); clear h0
  go_enter Tryz.func302, Tryz.ntmps302
  go_wp2; go_ret; exact ⟨jZ2 HR.o.symm, (Ext.refl w).alloc _⟩
theorem jX5 (arr : ByteArray) (s : Value) (subs : List Aff) (w : World) (hs : AffsAt w s subs) :
  Calls Tryz.prog 301 #[.agg #[.string arr, s]] w fun e w' => e = .returned (.bool (emptyB arr subs)) /\ Ext w w' := by
 obtain ⟨p, c, rfl, hm⟩ := hs.form
 by_cases ha : arr.toList = []
 ·by_cases h0 : subs.length = 0
  ·have hb : ((subs.length : Int) == 0) = true := beq_iff_eq.2 (by omega)
   have HR : Hid (emptyB arr subs = true) := hid (by simp only [emptyB]; rw [h0, decide_eq_true ha]; rfl); clear h0
   go_enter Tryz.func301, Tryz.ntmps301
   go_wp2; go_ret; exact ⟨jZ2 HR.o.symm, (Ext.refl w).alloc _⟩
  ·have hb : ((subs.length : Int) == 0) = false := beq_eq_false_iff_ne.2 (by omega)
   have HR : Hid (emptyB arr subs = false) := hid (by simp only [emptyB]; rw [decide_eq_false h0]; simp); clear h0
   go_enter Tryz.func301, Tryz.ntmps301
   go_wp2; go_ret; exact ⟨jZ2 HR.o.symm, (Ext.refl w).alloc _⟩
 ·have HR : Hid (emptyB arr subs = false) := hid (by simp only [emptyB]; rw [decide_eq_false ha]; rfl)
  have hb : arr.toList.isEmpty = false := by simpa using ha
  go_enter Tryz.func301, Tryz.ntmps301
  go_wp2; go_ret; exact ⟨jZ2 HR.o.symm, (Ext.refl w).alloc _⟩
end
section
open Go.RowKit
def ownF (kind num : Int) (ix : Aff) (arr : ByteArray) (subs : List Aff) (d : Int) : Bool :=
 if kind = 2 then decide (num = 0) && (emptyB arr subs && (jZ5 ix.1 ix.2 && decide (depR ix.1 ix.2 <= d)))
 else if kind = 3 then decide (num = 0) && (noneB ix && accB arr subs d)
 else if kind = 1 then decide (0 <= num) && (decide (num <= 99) && (noneB ix && emptyB arr subs))
 else decide (num = 0) && (noneB ix && emptyB arr subs)
theorem jY1Q (kind num k : Int) (u s v : Value) (xs : List Int) (arr : ByteArray) (subs : List Aff) (dd : Int) (w : World) (hu : IntsAt w u xs) (ha : arr.size <= 9223372036854775807) (hs : AffsAt w s subs) (hv : ∃ p n c, v = .slice p n c) :
  Calls Tryz.prog 266 #[.agg #[.int .i64 kind, .int .i64 num, u, .int .i64 k, .string arr, s, v], .int .i64 dd] w fun e w' => e = .returned (.bool (ownF kind num (xs, k) arr subs dd)) /\ Ext w w' := by
 obtain ⟨pv, nv, cv, rfl⟩ := hv
 obtain ⟨pu, cu, rfl, hmu, -⟩ := id hu
 obtain ⟨ps, cs, rfl, hms⟩ := hs.form
 have HU := hid hu; have HS := hid hs; clear hu hs
 by_cases h2 : kind = 2
 ·subst h2
  by_cases hn : num = 0
  ·subst hn
   have EA : Hid (Ext w (w.alloc (.cells #[.int .i64 2, .int .i64 0, .slice pu xs.length cu, .int .i64 k, .string arr, .slice ps subs.length cs, .slice pv nv cv] 179))) := hid ((Ext.refl w).alloc _); have BA : Hid ((w.alloc (.cells #[.int .i64 2, .int .i64 0, .slice pu xs.length cu, .int .i64 k, .string arr, .slice ps subs.length cs, .slice pv nv cv] 179)).heap[w.heap.size]? = some (.cells #[.int .i64 2, .int .i64 0, .slice pu xs.length cu, .int .i64 k, .string arr, .slice ps subs.length cs, .slice pv nv cv] 179 (0, 0))) := hid (blk_at rfl); obtain ⟨y0, y1, y2, y3, y4, y5, y6⟩ := blk7 BA.o
   go_enter Tryz.func266, Tryz.ntmps266
   cases hq1 : emptyB arr subs with
   | false =>
    have HQ1 := hid hq1; clear hq1; go_wp2_with (fail); refine (jX5 arr _ subs _ (HS.o.ext EA.o)).mono ?_; rw [HQ1.o]; rintro r W1 ⟨rfl, hE1⟩; have E1 : Hid (Ext w W1) := hid (EA.o.trans hE1); have B1 := hid (hE1.blk BA.o); clear y0 y1 y2 y3 y4 y5 y6; clear hE1; go_wp2; go_ret; exact ⟨jZ2 (by simp [ownF, HQ1.o]), E1.o⟩
   | true =>
    have HQ1 := hid hq1; clear hq1; go_wp2_with (fail); refine (jX5 arr _ subs _ (HS.o.ext EA.o)).mono ?_; rw [HQ1.o]; rintro r W1 ⟨rfl, hE1⟩; have E1 : Hid (Ext w W1) := hid (EA.o.trans hE1); have B1 := hid (hE1.blk BA.o); clear y0 y1 y2 y3 y4 y5 y6; obtain ⟨y0, y1, y2, y3, y4, y5, y6⟩ := blk7 B1.o; clear hE1; cases hq2 : jZ5 xs k with
    | false =>
     have HQ2 := hid hq2; clear hq2; go_wp2_with (fail); refine (jZv _ xs k _ (HU.o.ext E1.o)).mono ?_; rw [HQ2.o]; rintro r W2 ⟨rfl, hE2⟩; have E2 : Hid (Ext w W2) := hid (E1.o.trans hE2); have B2 := hid (hE2.blk B1.o); clear y0 y1 y2 y3 y4 y5 y6; clear hE2; go_wp2; go_ret; exact ⟨jZ2 (by simp [ownF, HQ2.o, HQ1.o]), E2.o⟩
    | true =>
     have HQ2 := hid hq2; clear hq2; go_wp2_with (fail); refine (jZv _ xs k _ (HU.o.ext E1.o)).mono ?_; rw [HQ2.o]; rintro r W2 ⟨rfl, hE2⟩; have E2 : Hid (Ext w W2) := hid (E1.o.trans hE2); have B2 := hid (hE2.blk B1.o); clear y0 y1 y2 y3 y4 y5 y6; obtain ⟨y0, y1, y2, y3, y4, y5, y6⟩ := blk7 B2.o; clear hE2; obtain ⟨a, b', c', d, rfl, -⟩ := jZj HQ2.o; have hdep : Hid (depR [a, b', c', d] k = dep4 a b' c' d) := jVJ HQ2.o; go_wp2_with (fail); refine (jXU _ a b' c' d k _ (HU.o.ext E2.o)).mono ?_; rintro r W9 ⟨rfl, hE9⟩; have E9 : Hid (Ext w W9) := hid (E2.o.trans hE9); clear y0 y1 y2 y3 y4 y5 y6 hE9; generalize dep4 a b' c' d = D at *; by_cases hd : D <= dd
     ·have hdd : decide (D <= dd) = true := by simpa using hd
      have HF : Hid (ownF 2 0 ([a, b', c', d], k) arr subs dd = true) := hid (by simp [ownF, HQ1.o, HQ2.o, hdep.o, hd]); go_wp2; go_ret; exact ⟨jZ2 HF.o.symm, E9.o⟩
     ·have hdd : decide (D <= dd) = false := by simpa using hd
      have HF : Hid (ownF 2 0 ([a, b', c', d], k) arr subs dd = false) := hid (by simp only [ownF, hdep.o, hdd]; simp); go_wp2; go_ret; exact ⟨jZ2 HF.o.symm, E9.o⟩
  ·have hnb : (num == 0) = false := by simp [hn]
   have HN := hid hn; clear hn; have EA : Hid (Ext w (w.alloc (.cells #[.int .i64 2, .int .i64 num, .slice pu xs.length cu, .int .i64 k, .string arr, .slice ps subs.length cs, .slice pv nv cv] 179))) := hid ((Ext.refl w).alloc _); have BA : Hid ((w.alloc (.cells #[.int .i64 2, .int .i64 num, .slice pu xs.length cu, .int .i64 k, .string arr, .slice ps subs.length cs, .slice pv nv cv] 179)).heap[w.heap.size]? = some (.cells #[.int .i64 2, .int .i64 num, .slice pu xs.length cu, .int .i64 k, .string arr, .slice ps subs.length cs, .slice pv nv cv] 179 (0, 0))) := hid (blk_at rfl); obtain ⟨y0, y1, y2, y3, y4, y5, y6⟩ := blk7 BA.o
   go_enter Tryz.func266, Tryz.ntmps266
   clear y0 y1 y2 y3 y4 y5 y6; go_wp2; go_ret; exact ⟨jZ2 (by simp [ownF, HN.o]), EA.o⟩
 have hk2 : (kind == 2) = false := by simp [h2]
 by_cases h3 : kind = 3
 ·subst h3
  clear hk2 h2; by_cases hn : num = 0
  ·subst hn
   have EA : Hid (Ext w (w.alloc (.cells #[.int .i64 3, .int .i64 0, .slice pu xs.length cu, .int .i64 k, .string arr, .slice ps subs.length cs, .slice pv nv cv] 179))) := hid ((Ext.refl w).alloc _); have BA : Hid ((w.alloc (.cells #[.int .i64 3, .int .i64 0, .slice pu xs.length cu, .int .i64 k, .string arr, .slice ps subs.length cs, .slice pv nv cv] 179)).heap[w.heap.size]? = some (.cells #[.int .i64 3, .int .i64 0, .slice pu xs.length cu, .int .i64 k, .string arr, .slice ps subs.length cs, .slice pv nv cv] 179 (0, 0))) := hid (blk_at rfl); obtain ⟨y0, y1, y2, y3, y4, y5, y6⟩ := blk7 BA.o
   go_enter Tryz.func266, Tryz.ntmps266
   cases hq3 : noneB (xs, k) with
   | false =>
    have HQ3 := hid hq3; clear hq3; go_wp2_with (fail); refine (jXg _ xs k _ (HU.o.ext EA.o)).mono ?_; rw [HQ3.o]; rintro r W3 ⟨rfl, hE3⟩; have E3 : Hid (Ext w W3) := hid (EA.o.trans hE3); have B3 := hid (hE3.blk BA.o); clear y0 y1 y2 y3 y4 y5 y6; clear hE3; go_wp2; go_ret; exact ⟨jZ2 (by simp [ownF, HQ3.o]), E3.o⟩
   | true =>
    have HQ3 := hid hq3; clear hq3; go_wp2_with (fail); refine (jXg _ xs k _ (HU.o.ext EA.o)).mono ?_; rw [HQ3.o]; rintro r W3 ⟨rfl, hE3⟩; have E3 : Hid (Ext w W3) := hid (EA.o.trans hE3); have B3 := hid (hE3.blk BA.o); clear y0 y1 y2 y3 y4 y5 y6; obtain ⟨y0, y1, y2, y3, y4, y5, y6⟩ := blk7 B3.o; clear hE3; cases hq4 : accB arr subs dd with
    | false =>
     have HQ4 := hid hq4; clear hq4; go_wp2_with (fail); refine (jXs arr _ subs dd _ ha (HS.o.ext E3.o)).mono ?_; rw [HQ4.o]; rintro r W4 ⟨rfl, hE4⟩; have E4 : Hid (Ext w W4) := hid (E3.o.trans hE4); have B4 := hid (hE4.blk B3.o); clear y0 y1 y2 y3 y4 y5 y6; clear hE4; go_wp2; go_ret; exact ⟨jZ2 (by simp [ownF, HQ4.o, HQ3.o]), E4.o⟩
    | true =>
     have HQ4 := hid hq4; clear hq4; go_wp2_with (fail); refine (jXs arr _ subs dd _ ha (HS.o.ext E3.o)).mono ?_; rw [HQ4.o]; rintro r W4 ⟨rfl, hE4⟩; have E4 : Hid (Ext w W4) := hid (E3.o.trans hE4); have B4 := hid (hE4.blk B3.o); clear y0 y1 y2 y3 y4 y5 y6; obtain ⟨y0, y1, y2, y3, y4, y5, y6⟩ := blk7 B4.o; clear hE4; clear y0 y1 y2 y3 y4 y5 y6; go_wp2; go_ret; exact ⟨jZ2 (by simp [ownF, HQ3.o, HQ4.o]), E4.o⟩
  ·have hnb : (num == 0) = false := by simp [hn]
   have HN := hid hn; clear hn; have EA : Hid (Ext w (w.alloc (.cells #[.int .i64 3, .int .i64 num, .slice pu xs.length cu, .int .i64 k, .string arr, .slice ps subs.length cs, .slice pv nv cv] 179))) := hid ((Ext.refl w).alloc _); have BA : Hid ((w.alloc (.cells #[.int .i64 3, .int .i64 num, .slice pu xs.length cu, .int .i64 k, .string arr, .slice ps subs.length cs, .slice pv nv cv] 179)).heap[w.heap.size]? = some (.cells #[.int .i64 3, .int .i64 num, .slice pu xs.length cu, .int .i64 k, .string arr, .slice ps subs.length cs, .slice pv nv cv] 179 (0, 0))) := hid (blk_at rfl); obtain ⟨y0, y1, y2, y3, y4, y5, y6⟩ := blk7 BA.o
   go_enter Tryz.func266, Tryz.ntmps266
   clear y0 y1 y2 y3 y4 y5 y6; go_wp2; go_ret; exact ⟨jZ2 (by simp [ownF, HN.o]), EA.o⟩
 have hk3 : (kind == 3) = false := by simp [h3]
 by_cases h1 : kind = 1
 ·subst h1
  clear hk2 h2 hk3 h3; by_cases hn0 : 0 <= num
  ·have hb0 : decide (0 <= num) = true := by simpa using hn0
   by_cases hn1 : num <= 99
   ·have hb1 : decide (num <= 99) = true := by simpa using hn1
    have HN := hid (And.intro hn0 hn1); clear hn0 hn1; have EA : Hid (Ext w (w.alloc (.cells #[.int .i64 1, .int .i64 num, .slice pu xs.length cu, .int .i64 k, .string arr, .slice ps subs.length cs, .slice pv nv cv] 179))) := hid ((Ext.refl w).alloc _); have BA : Hid ((w.alloc (.cells #[.int .i64 1, .int .i64 num, .slice pu xs.length cu, .int .i64 k, .string arr, .slice ps subs.length cs, .slice pv nv cv] 179)).heap[w.heap.size]? = some (.cells #[.int .i64 1, .int .i64 num, .slice pu xs.length cu, .int .i64 k, .string arr, .slice ps subs.length cs, .slice pv nv cv] 179 (0, 0))) := hid (blk_at rfl); obtain ⟨y0, y1, y2, y3, y4, y5, y6⟩ := blk7 BA.o
    go_enter Tryz.func266, Tryz.ntmps266
    cases hq5 : noneB (xs, k) with
    | false =>
     have HQ5 := hid hq5; clear hq5; go_wp2_with (fail); refine (jXg _ xs k _ (HU.o.ext EA.o)).mono ?_; rw [HQ5.o]; rintro r W5 ⟨rfl, hE5⟩; have E5 : Hid (Ext w W5) := hid (EA.o.trans hE5); have B5 := hid (hE5.blk BA.o); clear y0 y1 y2 y3 y4 y5 y6; clear hE5; go_wp2; go_ret; exact ⟨jZ2 (by simp [ownF, HQ5.o]), E5.o⟩
    | true =>
     have HQ5 := hid hq5; clear hq5; go_wp2_with (fail); refine (jXg _ xs k _ (HU.o.ext EA.o)).mono ?_; rw [HQ5.o]; rintro r W5 ⟨rfl, hE5⟩; have E5 : Hid (Ext w W5) := hid (EA.o.trans hE5); have B5 := hid (hE5.blk BA.o); clear y0 y1 y2 y3 y4 y5 y6; obtain ⟨y0, y1, y2, y3, y4, y5, y6⟩ := blk7 B5.o; clear hE5; cases hq6 : emptyB arr subs with
     | false =>
      have HQ6 := hid hq6; clear hq6; go_wp2_with (fail); refine (jX5 arr _ subs _ (HS.o.ext E5.o)).mono ?_; rw [HQ6.o]; rintro r W6 ⟨rfl, hE6⟩; have E6 : Hid (Ext w W6) := hid (E5.o.trans hE6); have B6 := hid (hE6.blk B5.o); clear y0 y1 y2 y3 y4 y5 y6; clear hE6; go_wp2; go_ret; exact ⟨jZ2 (by simp [ownF, HQ6.o, HQ5.o]), E6.o⟩
     | true =>
      have HQ6 := hid hq6; clear hq6; go_wp2_with (fail); refine (jX5 arr _ subs _ (HS.o.ext E5.o)).mono ?_; rw [HQ6.o]; rintro r W6 ⟨rfl, hE6⟩; have E6 : Hid (Ext w W6) := hid (E5.o.trans hE6); have B6 := hid (hE6.blk B5.o); clear y0 y1 y2 y3 y4 y5 y6; obtain ⟨y0, y1, y2, y3, y4, y5, y6⟩ := blk7 B6.o; clear hE6; clear y0 y1 y2 y3 y4 y5 y6; go_wp2; go_ret; exact ⟨jZ2 (by simp [ownF, HQ5.o, HQ6.o, HN.o.1, HN.o.2]), E6.o⟩
   ·have hb1 : decide (num <= 99) = false := by simpa using hn1
    have HN := hid hn1; clear hn0 hn1; have EA : Hid (Ext w (w.alloc (.cells #[.int .i64 1, .int .i64 num, .slice pu xs.length cu, .int .i64 k, .string arr, .slice ps subs.length cs, .slice pv nv cv] 179))) := hid ((Ext.refl w).alloc _); have BA : Hid ((w.alloc (.cells #[.int .i64 1, .int .i64 num, .slice pu xs.length cu, .int .i64 k, .string arr, .slice ps subs.length cs, .slice pv nv cv] 179)).heap[w.heap.size]? = some (.cells #[.int .i64 1, .int .i64 num, .slice pu xs.length cu, .int .i64 k, .string arr, .slice ps subs.length cs, .slice pv nv cv] 179 (0, 0))) := hid (blk_at rfl); obtain ⟨y0, y1, y2, y3, y4, y5, y6⟩ := blk7 BA.o
    go_enter Tryz.func266, Tryz.ntmps266
    clear y0 y1 y2 y3 y4 y5 y6; go_wp2; go_ret; exact ⟨jZ2 (by have := HN.o; simp [ownF]; intros; omega), EA.o⟩
  ·have hb0 : decide (0 <= num) = false := by simpa using hn0
   have HN := hid hn0; clear hn0; have EA : Hid (Ext w (w.alloc (.cells #[.int .i64 1, .int .i64 num, .slice pu xs.length cu, .int .i64 k, .string arr, .slice ps subs.length cs, .slice pv nv cv] 179))) := hid ((Ext.refl w).alloc _); have BA : Hid ((w.alloc (.cells #[.int .i64 1, .int .i64 num, .slice pu xs.length cu, .int .i64 k, .string arr, .slice ps subs.length cs, .slice pv nv cv] 179)).heap[w.heap.size]? = some (.cells #[.int .i64 1, .int .i64 num, .slice pu xs.length cu, .int .i64 k, .string arr, .slice ps subs.length cs, .slice pv nv cv] 179 (0, 0))) := hid (blk_at rfl); obtain ⟨y0, y1, y2, y3, y4, y5, y6⟩ := blk7 BA.o
   go_enter Tryz.func266, Tryz.ntmps266
   clear y0 y1 y2 y3 y4 y5 y6; go_wp2; go_ret; exact ⟨jZ2 (by have := HN.o; simp [ownF]; intros; omega), EA.o⟩
 have hk1 : (kind == 1) = false := by simp [h1]
 have H123 : Hid (kind ≠ 2 /\ kind ≠ 3 /\ kind ≠ 1) := hid ⟨h2, h3, h1⟩
 clear h1 h2 h3
 by_cases hn : num = 0
 ·subst hn
  have EA : Hid (Ext w (w.alloc (.cells #[.int .i64 kind, .int .i64 0, .slice pu xs.length cu, .int .i64 k, .string arr, .slice ps subs.length cs, .slice pv nv cv] 179))) := hid ((Ext.refl w).alloc _); have BA : Hid ((w.alloc (.cells #[.int .i64 kind, .int .i64 0, .slice pu xs.length cu, .int .i64 k, .string arr, .slice ps subs.length cs, .slice pv nv cv] 179)).heap[w.heap.size]? = some (.cells #[.int .i64 kind, .int .i64 0, .slice pu xs.length cu, .int .i64 k, .string arr, .slice ps subs.length cs, .slice pv nv cv] 179 (0, 0))) := hid (blk_at rfl); obtain ⟨y0, y1, y2, y3, y4, y5, y6⟩ := blk7 BA.o
  go_enter Tryz.func266, Tryz.ntmps266
  cases hq7 : noneB (xs, k) with
  | false =>
   have HQ7 := hid hq7; clear hq7; go_wp2_with (fail); refine (jXg _ xs k _ (HU.o.ext EA.o)).mono ?_; rw [HQ7.o]; rintro r W7 ⟨rfl, hE7⟩; have E7 : Hid (Ext w W7) := hid (EA.o.trans hE7); have B7 := hid (hE7.blk BA.o); clear y0 y1 y2 y3 y4 y5 y6; clear hE7; go_wp2; go_ret; exact ⟨jZ2 (by simp [ownF, HQ7.o, H123.o.1, H123.o.2.1, H123.o.2.2]), E7.o⟩
  | true =>
   have HQ7 := hid hq7; clear hq7; go_wp2_with (fail); refine (jXg _ xs k _ (HU.o.ext EA.o)).mono ?_; rw [HQ7.o]; rintro r W7 ⟨rfl, hE7⟩; have E7 : Hid (Ext w W7) := hid (EA.o.trans hE7); have B7 := hid (hE7.blk BA.o); clear y0 y1 y2 y3 y4 y5 y6; obtain ⟨y0, y1, y2, y3, y4, y5, y6⟩ := blk7 B7.o; clear hE7; cases hq8 : emptyB arr subs with
   | false =>
    have HQ8 := hid hq8; clear hq8; go_wp2_with (fail); refine (jX5 arr _ subs _ (HS.o.ext E7.o)).mono ?_; rw [HQ8.o]; rintro r W8 ⟨rfl, hE8⟩; have E8 : Hid (Ext w W8) := hid (E7.o.trans hE8); have B8 := hid (hE8.blk B7.o); clear y0 y1 y2 y3 y4 y5 y6; clear hE8; go_wp2; go_ret; exact ⟨jZ2 (by simp [ownF, HQ8.o, HQ7.o, H123.o.1, H123.o.2.1, H123.o.2.2]), E8.o⟩
   | true =>
    have HQ8 := hid hq8; clear hq8; go_wp2_with (fail); refine (jX5 arr _ subs _ (HS.o.ext E7.o)).mono ?_; rw [HQ8.o]; rintro r W8 ⟨rfl, hE8⟩; have E8 : Hid (Ext w W8) := hid (E7.o.trans hE8); have B8 := hid (hE8.blk B7.o); clear y0 y1 y2 y3 y4 y5 y6; obtain ⟨y0, y1, y2, y3, y4, y5, y6⟩ := blk7 B8.o; clear hE8; clear y0 y1 y2 y3 y4 y5 y6; go_wp2; go_ret; exact ⟨jZ2 (by simp [ownF, HQ7.o, HQ8.o, H123.o.1, H123.o.2.1, H123.o.2.2]), E8.o⟩
 ·have hnb : (num == 0) = false := by simp [hn]
  have HN := hid hn; clear hn; have EA : Hid (Ext w (w.alloc (.cells #[.int .i64 kind, .int .i64 num, .slice pu xs.length cu, .int .i64 k, .string arr, .slice ps subs.length cs, .slice pv nv cv] 179))) := hid ((Ext.refl w).alloc _); have BA : Hid ((w.alloc (.cells #[.int .i64 kind, .int .i64 num, .slice pu xs.length cu, .int .i64 k, .string arr, .slice ps subs.length cs, .slice pv nv cv] 179)).heap[w.heap.size]? = some (.cells #[.int .i64 kind, .int .i64 num, .slice pu xs.length cu, .int .i64 k, .string arr, .slice ps subs.length cs, .slice pv nv cv] 179 (0, 0))) := hid (blk_at rfl); obtain ⟨y0, y1, y2, y3, y4, y5, y6⟩ := blk7 BA.o
  go_enter Tryz.func266, Tryz.ntmps266
  clear y0 y1 y2 y3 y4 y5 y6; go_wp2; go_ret; exact ⟨jZ2 (by simp [ownF, HN.o, H123.o.1, H123.o.2.1, H123.o.2.2]), EA.o⟩
end
end Go.Proofs.YtklehkkclojccaaGreat
