/- The texts G5, joined. No statement is proved here. -/
import Derived.Test.YtklehkkclojccaaGreatQL20
import Derived.Test.YtklehkkclojccaaGreatQL21
import Derived.BigQuiet
import Derived.Deep.QuietTactic
set_option maxRecDepth 100000
set_option maxHeartbeats 8000000
set_option linter.unusedVariables false
set_option linter.unusedSimpArgs false
namespace Go.Proofs.YtklehkkclojccaaGreat
open Go.Lib (hid)
open Go.RowKit
theorem jY3d (b c : UInt8) : Op.bytesLess [b] [c] = decide (b.toNat < c.toNat) := by
 simp [Op.bytesLess, UInt8.lt_iff_toNat_lt]
theorem jY2l (p : Option Addr) (n c : Nat) (ars : List Arr) (w : World) (hn : ars.length = n) (hs : ArrsAt w (.slice p n c) ars) :
  Calls Tryz.prog 91 #[.slice p n c] w fun e w' => e = .returned (.bool (arrsB ars)) /\ Ext w w' := by
 have hm : n <= 9223372036854775807 := by obtain ⟨_, _, _, hm⟩ := hs.form; rw [<- hn]; exact hm
 have HS := hid hs; have HN := hid hn; clear hs hn
 go_enter Tryz.func91, Tryz.ntmps91
 go_wp2
 go_loopw [3] (fun i wr => ∃ k : Nat, k <= n /\ i = .int .i64 k /\ arrsTo ars k /\ Ext w wr) (fun i _ => n - (intOf i).toNat)
 case atStart => exact ⟨0, by omega, rfl, ⟨by simp, rfl⟩, Ext.refl w⟩
 case round =>
  obtain ⟨k, hk, rfl, hto, hE⟩ := hrel; have HT := hid hto; have HE := hid hE; clear hto hE; by_cases hlt : k < n
  ·obtain ⟨x, hx⟩ := jZ0 (xs := ars) (k := k) (by rw [HN.o]; exact hlt)
   obtain ⟨b, off, q, m, rfl, c0, c1, hb, hsz, hr⟩ := (HS.o.ext HE.o).elem hx; obtain ⟨nm, ds⟩ := x; dsimp only at *; have hdl : ds.length <= 9223372036854775807 := by obtain ⟨_, _, _, h, _⟩ := id hr; exact h
   have HX := hid hx; have HR := hid hr; clear hx hr; by_cases h1 : nm.size = 1
   ·obtain ⟨b1, rfl⟩ := jVB h1
    have hb1 : (((⟨#[b1]⟩ : ByteArray).size : Int) != 1) = false := rfl; clear h1 hsz; cases hA : Op.bytesLess [b1] [65] with
    | true =>
     have HRF : Hid (arrsB ars = false) := hid (jZY HX.o (by simp [arrOkB, arrB, hA])); go_wp2
     go_quiet (fail)
     go_wp2; go_ret; exact ⟨jZ2 HRF.o.symm, (HE.o.alloc _).drewN _⟩
    | false =>
     cases hB : (Op.bytesLess [b1] [68] || b1 == 68) with
     | false =>
      have HRF : Hid (arrsB ars = false) := hid (jZY HX.o (by simp only [arrOkB, arrB, hA, hB]; simp)); have hB' : (!Op.bytesLess [b1] [68] && !b1 == 68) = true := by simpa using hB
      clear hB; go_wp2
      go_quiet (fail)
      go_wp2; go_ret; exact ⟨jZ2 HRF.o.symm, (HE.o.alloc _).drewN _⟩
     | true =>
      have hB' : (!Op.bytesLess [b1] [68] && !b1 == 68) = false := by rw [<- Bool.not_or, hB]; rfl
      have HAR : Hid (arrB ⟨#[b1]⟩ = true) := hid (by simp only [arrB, hA, hB]; rfl); clear hB; rcases Nat.eq_zero_or_pos k with hk0 | hk0
      ·have hq0 : decide (0 < k) = false := by simp; omega
       have HPV : Hid (∀ j y, k = j + 1 -> ars[j]? = some y -> nmN y.1 < nmN (⟨#[b1]⟩ : ByteArray)) := hid (fun j y h _ => by omega); have hk1 : k <= 0 := Nat.le_of_eq hk0; have HK0 := hid hk1; clear hk0 hk1; by_cases hl1 : 1 <= ds.length
       ·have hq1 : decide ((ds.length : Int) < 1) = false := by simp; omega
        by_cases hl2 : ds.length <= 2
        ·have hq2 : decide ((2 : Int) < (ds.length : Int)) = false := by simp; omega
         go_wp2
         go_quiet (fail)
         go_wp2; obtain ⟨W1, hW1⟩ : ∃ W1, (wr.alloc (.cells #[.string ⟨#[b1]⟩, .slice q ds.length m] 147)).drewN nq = W1 := ⟨_, rfl⟩; have BW : Hid (W1.heap[wr.heap.size]? = some (.cells #[.string ⟨#[b1]⟩, .slice q ds.length m] 147 (0, 0))) := hid (by rw [<- hW1]; exact ((Ext.refl _).drewN nq).blk (blk_at rfl)); have EW : Hid (Ext wr W1) := hid (by rw [<- hW1]; exact ((Ext.refl wr).alloc _).drewN _); rw [hW1]; clear hW1; generalize hln : ds.length = ln at *; have HLN := hid hln; clear hln
         go_loopw [5] (fun i wq => ∃ j : Nat, j <= ln /\ i = .int .i64 j /\ (∀ d ∈ ds.take j, 1 <= d /\ d <= 6) /\ Ext W1 wq) (fun i _ => ln - (intOf i).toNat)
         case atStart => exact ⟨0, by omega, rfl, by simp, Ext.refl W1⟩
         case round =>
          obtain ⟨j, hj, rfl, hall, hE1⟩ := hrel; have HA := hid hall; have HE1 := hid hE1; obtain ⟨y0, y1, -, -⟩ := blk2 (hE1.blk BW.o); clear hall hE1; by_cases hjl : j < ln
          ·obtain ⟨d, hd⟩ := jZ0 (xs := ds) (k := j) (by rw [HLN.o]; exact hjl)
           obtain ⟨q', m', e', -, hdc⟩ := (HR.o.ext (EW.o.trans HE1.o)).get; simp only [Value.slice.injEq] at e'; obtain ⟨rfl, -, rfl⟩ := e'; obtain ⟨bd, od, rfl, cd, hbd⟩ := hdc j d hd; have HD := hid hd; clear hd hdc; by_cases hd1 : d < 1
           ·have hq1 : decide (d < 1) = true := by simpa using hd1
            have HRF : Hid (arrsB ars = false) := hid (jZY HX.o (by simp only [arrOkB]; rw [jZa (p := fun d => decide (1 <= d /\ d <= 6)) HD.o (by simp; omega)]; simp)); go_wp2; go_ret; exact ⟨jZ2 HRF.o.symm, (HE.o.trans EW.o).trans HE1.o⟩
           ·have hq1 : decide (d < 1) = false := by simpa using hd1
            by_cases hd2 : 6 < d
            ·have hq2 : decide (6 < d) = true := by simpa using hd2
             have HRF : Hid (arrsB ars = false) := hid (jZY HX.o (by simp only [arrOkB]; rw [jZa (p := fun d => decide (1 <= d /\ d <= 6)) HD.o (by simp; omega)]; simp)); go_wp2; go_ret; exact ⟨jZ2 HRF.o.symm, (HE.o.trans EW.o).trans HE1.o⟩
            ·have hq2 : decide (6 < d) = false := by simpa using hd2
             have HA2 := hid (jZh HD.o HA.o (show 1 <= d /\ d <= 6 by omega)); go_wp2; go_roundw
             case rel => exact ⟨j + 1, by omega, by go_num, HA2.o, HE1.o⟩
             case measure => simp [intOf]; omega
          ·obtain rfl : j = ln := by omega
           have HOK : Hid (arrOkB (⟨#[b1]⟩, ds) = true) := hid (by
            have h := HA.o; rw [List.take_of_length_le (by rw [HLN.o]; omega)] at h; simp only [arrOkB, HAR.o, Bool.true_and, Bool.and_eq_true, decide_eq_true_eq, List.all_eq_true]
            exact ⟨by rw [HLN.o]; omega, h⟩)
           have HT2 := hid (jXL HT.o HX.o HOK.o HPV.o); have HEE := hid ((HE.o.trans EW.o).trans HE1.o); go_wp2; go_roundw
           case rel => exact ⟨k + 1, by omega, by go_num, HT2.o, HEE.o⟩
           case measure => simp [intOf]; omega
        ·have hq2 : decide ((2 : Int) < (ds.length : Int)) = true := by simp; omega
         have HRF : Hid (arrsB ars = false) := hid (jZY HX.o (by simp only [arrOkB]; rw [decide_eq_false (show ¬ (1 <= ds.length /\ ds.length <= 2) by omega)]; simp)); go_wp2
         go_quiet (fail)
         go_wp2; go_ret; exact ⟨jZ2 HRF.o.symm, (HE.o.alloc _).drewN _⟩
       ·have hq1 : decide ((ds.length : Int) < 1) = true := by simp; omega
        have HRF : Hid (arrsB ars = false) := hid (jZY HX.o (by simp only [arrOkB]; rw [decide_eq_false (show ¬ (1 <= ds.length /\ ds.length <= 2) by omega)]; simp)); go_wp2
        go_quiet (fail)
        go_wp2; go_ret; exact ⟨jZ2 HRF.o.symm, (HE.o.alloc _).drewN _⟩
      ·have hq0 : decide ((0 : Int) < (k : Int)) = true := by simp; omega
       obtain ⟨j0, hj0⟩ : ∃ j0, k = j0 + 1 := ⟨k - 1, by omega⟩; obtain ⟨y, hy⟩ := jZ0 (xs := ars) (k := j0) (by rw [HN.o]; omega); obtain ⟨b2, off2, q2, m2, he2, v0, v1, -, -, -⟩ := (HS.o.ext HE.o).elem hy; simp only [Option.some.injEq, Addr.mk.injEq, and_true] at he2; obtain ⟨rfl, rfl⟩ := he2
       have hyo : arrOkB y = true := HT.o.1 y (by
        obtain ⟨hlt', he⟩ := List.getElem?_eq_some_iff.1 hy
        exact List.mem_of_getElem? (i := j0) (by rw [List.getElem?_take, if_pos (by omega)]; exact hy))
       obtain ⟨by1, hyb, -⟩ := jXK (jZA hyo).1; rw [hyb] at v0; have hkj : (k : Int) - 1 = (j0 : Int) := by omega
       have hwj : IntKind.i64.wrap (j0 : Int) = (j0 : Int) := by rw [IntKind.wrap_i64]; omega
       have hjn : (j0 : Int) < (n : Int) := by omega
       have HY := hid hy; have HYB := hid hyb; have HJ0 := hid hj0; clear hy hyb hj0 hyo v1; cases hL : Op.bytesLess [by1] [b1] with
       | false =>
        have HRF : Hid (arrsB ars = false) := hid (jY2i (j := j0) HY.o (by have h := HX.o; rw [HJ0.o] at h; exact h) (by
         rw [HYB.o]; rw [jY3d] at hL
         exact of_decide_eq_false hL))
        go_wp2
        go_quiet (fail)
        go_wp2; go_ret; exact ⟨jZ2 HRF.o.symm, (HE.o.alloc _).drewN _⟩
       | true =>
        have HPV : Hid (∀ j y, k = j + 1 -> ars[j]? = some y -> nmN y.1 < nmN (⟨#[b1]⟩ : ByteArray)) := hid (fun j y' h h2 => by
         have e : j = j0 := by have := HJ0.o; omega
         rw [e, HY.o] at h2; cases h2
         rw [HYB.o]; rw [jY3d] at hL
         exact of_decide_eq_true hL)
        by_cases hl1 : 1 <= ds.length
        ·have hq1 : decide ((ds.length : Int) < 1) = false := by simp; omega
         by_cases hl2 : ds.length <= 2
         ·have hq2 : decide ((2 : Int) < (ds.length : Int)) = false := by simp; omega
          go_wp2
          go_quiet (fail)
          go_wp2; obtain ⟨W1, hW1⟩ : ∃ W1, (wr.alloc (.cells #[.string ⟨#[b1]⟩, .slice q ds.length m] 147)).drewN nq = W1 := ⟨_, rfl⟩; have BW : Hid (W1.heap[wr.heap.size]? = some (.cells #[.string ⟨#[b1]⟩, .slice q ds.length m] 147 (0, 0))) := hid (by rw [<- hW1]; exact ((Ext.refl _).drewN nq).blk (blk_at rfl)); have EW : Hid (Ext wr W1) := hid (by rw [<- hW1]; exact ((Ext.refl wr).alloc _).drewN _); rw [hW1]; clear hW1; generalize hln : ds.length = ln at *; have HLN := hid hln; clear hln
          go_loopw [5] (fun i wq => ∃ j : Nat, j <= ln /\ i = .int .i64 j /\ (∀ d ∈ ds.take j, 1 <= d /\ d <= 6) /\ Ext W1 wq) (fun i _ => ln - (intOf i).toNat)
          case atStart => exact ⟨0, by omega, rfl, by simp, Ext.refl W1⟩
          case round =>
           obtain ⟨j, hj, rfl, hall, hE1⟩ := hrel; have HA := hid hall; have HE1 := hid hE1; obtain ⟨y0, y1, -, -⟩ := blk2 (hE1.blk BW.o); clear hall hE1; by_cases hjl : j < ln
           ·obtain ⟨d, hd⟩ := jZ0 (xs := ds) (k := j) (by rw [HLN.o]; exact hjl)
            obtain ⟨q', m', e', -, hdc⟩ := (HR.o.ext (EW.o.trans HE1.o)).get; simp only [Value.slice.injEq] at e'; obtain ⟨rfl, -, rfl⟩ := e'; obtain ⟨bd, od, rfl, cd, hbd⟩ := hdc j d hd; have HD := hid hd; clear hd hdc; by_cases hd1 : d < 1
            ·have hq1 : decide (d < 1) = true := by simpa using hd1
             have HRF : Hid (arrsB ars = false) := hid (jZY HX.o (by simp only [arrOkB]; rw [jZa (p := fun d => decide (1 <= d /\ d <= 6)) HD.o (by simp; omega)]; simp)); go_wp2; go_ret; exact ⟨jZ2 HRF.o.symm, (HE.o.trans EW.o).trans HE1.o⟩
            ·have hq1 : decide (d < 1) = false := by simpa using hd1
             by_cases hd2 : 6 < d
             ·have hq2 : decide (6 < d) = true := by simpa using hd2
              have HRF : Hid (arrsB ars = false) := hid (jZY HX.o (by simp only [arrOkB]; rw [jZa (p := fun d => decide (1 <= d /\ d <= 6)) HD.o (by simp; omega)]; simp)); go_wp2; go_ret; exact ⟨jZ2 HRF.o.symm, (HE.o.trans EW.o).trans HE1.o⟩
             ·have hq2 : decide (6 < d) = false := by simpa using hd2
              have HA2 := hid (jZh HD.o HA.o (show 1 <= d /\ d <= 6 by omega)); go_wp2; go_roundw
              case rel => exact ⟨j + 1, by omega, by go_num, HA2.o, HE1.o⟩
              case measure => simp [intOf]; omega
           ·obtain rfl : j = ln := by omega
            have HOK : Hid (arrOkB (⟨#[b1]⟩, ds) = true) := hid (by
             have h := HA.o; rw [List.take_of_length_le (by rw [HLN.o]; omega)] at h; simp only [arrOkB, HAR.o, Bool.true_and, Bool.and_eq_true, decide_eq_true_eq, List.all_eq_true]
             exact ⟨by rw [HLN.o]; omega, h⟩)
            have HT2 := hid (jXL HT.o HX.o HOK.o HPV.o); have HEE := hid ((HE.o.trans EW.o).trans HE1.o); go_wp2; go_roundw
            case rel => exact ⟨k + 1, by omega, by go_num, HT2.o, HEE.o⟩
            case measure => simp [intOf]; omega
         ·have hq2 : decide ((2 : Int) < (ds.length : Int)) = true := by simp; omega
          have HRF : Hid (arrsB ars = false) := hid (jZY HX.o (by simp only [arrOkB]; rw [decide_eq_false (show ¬ (1 <= ds.length /\ ds.length <= 2) by omega)]; simp)); go_wp2
          go_quiet (fail)
          go_wp2; go_ret; exact ⟨jZ2 HRF.o.symm, (HE.o.alloc _).drewN _⟩
        ·have hq1 : decide ((ds.length : Int) < 1) = true := by simp; omega
         have HRF : Hid (arrsB ars = false) := hid (jZY HX.o (by simp only [arrOkB]; rw [decide_eq_false (show ¬ (1 <= ds.length /\ ds.length <= 2) by omega)]; simp)); go_wp2
         go_quiet (fail)
         go_wp2; go_ret; exact ⟨jZ2 HRF.o.symm, (HE.o.alloc _).drewN _⟩
   ·have hb1 : ((nm.size : Int) != 1) = true := by simp; omega
    have HRF : Hid (arrsB ars = false) := hid (jZY HX.o (by simp [arrOkB, jY17 h1])); go_wp2
    go_quiet (fail)
    go_wp2; go_ret; exact ⟨jZ2 HRF.o.symm, (HE.o.alloc _).drewN _⟩
  ·obtain rfl : k = n := by omega
   have HRT : Hid (arrsB ars = true) := hid (jY0G (by rw [HN.o]; exact HT.o)); have h4 : k <= 4 := by have := jWQ HRT.o; rw [HN.o] at this; exact this
   have hq4 : decide ((k : Int) <= 4) = true := by simp; omega
   go_wp2; go_ret; exact ⟨jZ2 HRT.o.symm, HE.o⟩
end Go.Proofs.YtklehkkclojccaaGreat
