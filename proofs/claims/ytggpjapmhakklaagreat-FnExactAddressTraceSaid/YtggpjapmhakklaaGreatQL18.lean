/- The texts G5, joined. No statement is proved here. -/
import Derived.Test.YtggpjapmhakklaaGreatQL22
import Derived.Test.YtggpjapmhakklaaGreatQL25
import Derived.BigQuiet
import Derived.Deep.QuietTactic
set_option maxRecDepth 100000
set_option maxHeartbeats 8000000
set_option linter.unusedVariables false
set_option linter.unusedSimpArgs false
namespace Go.Proofs.YtggpjapmhakklaaGreat
open Go.Lib (hid)
open Go.RowKit
theorem bytes_lt (b c : UInt8) : Op.bytesLess [b] [c] = decide (b.toNat < c.toNat) := by
 simp [Op.bytesLess, UInt8.lt_iff_toNat_lt]
theorem l4Arrays_any (p : Option Addr) (n c : Nat) (ars : List Arr) (w : World) (hn : ars.length = n) (hs : ArrsAt w (.slice p n c) ars) :
  Calls Tryz.prog 37 #[.slice p n c] w fun e w' => e = .returned (.bool (arrsB ars)) ∧ Ext w w' := by
 have hm : n ≤ 9223372036854775807 := by obtain ⟨_, _, _, hm⟩ := hs.form; rw [← hn]; exact hm
 have HS := hid hs; have HN := hid hn; clear hs hn
 go_enter Tryz.func37, Tryz.ntmps37
 go_wp2
 go_loopw [3] (fun i wr => ∃ k : Nat, k ≤ n ∧ i = .int .i64 k ∧ arrsTo ars k ∧ Ext w wr) (fun i _ => n - (intOf i).toNat)
 case atStart => exact ⟨0, by omega, rfl, ⟨by simp, rfl⟩, Ext.refl w⟩
 case round =>
  obtain ⟨k, hk, rfl, hto, hE⟩ := hrel
  have HT := hid hto; have HE := hid hE; clear hto hE
  by_cases hlt : k < n
  ·obtain ⟨x, hx⟩ := get_some (xs := ars) (k := k) (by rw [HN.out]; exact hlt)
   obtain ⟨b, off, q, m, rfl, c0, c1, hb, hsz, hr⟩ := (HS.out.ext HE.out).elem hx
   obtain ⟨nm, ds⟩ := x
   dsimp only at *
   have hdl : ds.length ≤ 9223372036854775807 := by obtain ⟨_, _, _, h, _⟩ := id hr; exact h
   have HX := hid hx; have HR := hid hr; clear hx hr
   by_cases h1 : nm.size = 1
   ·obtain ⟨b1, rfl⟩ := one_byte h1
    have hb1 : (((⟨#[b1]⟩ : ByteArray).size : Int) != 1) = false := rfl
    clear h1 hsz
    cases hA : Op.bytesLess [b1] [65] with
    | true =>
     have HRF : Hid (arrsB ars = false) := hid (arrsB_no HX.out (by simp [arrOkB, arrB, hA]))
     go_wp2
     go_quiet (fail)
     go_wp2
     go_ret
     exact ⟨ret_bool HRF.out.symm, (HE.out.alloc _).drewN _⟩
    | false =>
     cases hB : (Op.bytesLess [b1] [68] || b1 == 68) with
     | false =>
      have HRF : Hid (arrsB ars = false) := hid (arrsB_no HX.out (by simp only [arrOkB, arrB, hA, hB]; simp))
      have hB' : (!Op.bytesLess [b1] [68] && !b1 == 68) = true := by simpa using hB
      clear hB
      go_wp2
      go_quiet (fail)
      go_wp2
      go_ret
      exact ⟨ret_bool HRF.out.symm, (HE.out.alloc _).drewN _⟩
     | true =>
      have hB' : (!Op.bytesLess [b1] [68] && !b1 == 68) = false := by rw [← Bool.not_or, hB]; rfl
      have HAR : Hid (arrB ⟨#[b1]⟩ = true) := hid (by simp only [arrB, hA, hB]; rfl)
      clear hB
      rcases Nat.eq_zero_or_pos k with hk0 | hk0
      ·have hq0 : decide (0 < k) = false := by simp; omega
       have HPV : Hid (∀ j y, k = j + 1 → ars[j]? = some y → nmN y.1 < nmN (⟨#[b1]⟩ : ByteArray)) := hid (fun j y h _ => by omega)
       have hk1 : k ≤ 0 := Nat.le_of_eq hk0
       have HK0 := hid hk1; clear hk0 hk1
       by_cases hl1 : 1 ≤ ds.length
       ·have hq1 : decide ((ds.length : Int) < 1) = false := by simp; omega
        by_cases hl2 : ds.length ≤ 2
        ·have hq2 : decide ((2 : Int) < (ds.length : Int)) = false := by simp; omega
         go_wp2
         go_quiet (fail)
         go_wp2
         obtain ⟨W1, hW1⟩ : ∃ W1, (wr.alloc (.cells #[.string ⟨#[b1]⟩, .slice q ds.length m] 106)).drewN nq = W1 := ⟨_, rfl⟩
         have BW : Hid (W1.heap[wr.heap.size]? = some (.cells #[.string ⟨#[b1]⟩, .slice q ds.length m] 106 (0, 0))) := hid (by rw [← hW1]; exact ((Ext.refl _).drewN nq).blk (blk_at rfl))
         have EW : Hid (Ext wr W1) := hid (by rw [← hW1]; exact ((Ext.refl wr).alloc _).drewN _)
         rw [hW1]
         clear hW1
         generalize hln : ds.length = ln at *
         have HLN := hid hln; clear hln
         go_loopw [5] (fun i wq => ∃ j : Nat, j ≤ ln ∧ i = .int .i64 j ∧ (∀ d ∈ ds.take j, 1 ≤ d ∧ d ≤ 6) ∧ Ext W1 wq) (fun i _ => ln - (intOf i).toNat)
         case atStart => exact ⟨0, by omega, rfl, by simp, Ext.refl W1⟩
         case round =>
          obtain ⟨j, hj, rfl, hall, hE1⟩ := hrel
          have HA := hid hall; have HE1 := hid hE1
          obtain ⟨y0, y1, -, -⟩ := blk2 (hE1.blk BW.out)
          clear hall hE1
          by_cases hjl : j < ln
          ·obtain ⟨d, hd⟩ := get_some (xs := ds) (k := j) (by rw [HLN.out]; exact hjl)
           obtain ⟨q', m', e', -, hdc⟩ := (HR.out.ext (EW.out.trans HE1.out)).get
           simp only [Value.slice.injEq] at e'
           obtain ⟨rfl, -, rfl⟩ := e'
           obtain ⟨bd, od, rfl, cd, hbd⟩ := hdc j d hd
           have HD := hid hd
           clear hd hdc
           by_cases hd1 : d < 1
           ·have hq1 : decide (d < 1) = true := by simpa using hd1
            have HRF : Hid (arrsB ars = false) := hid (arrsB_no HX.out (by simp only [arrOkB]; rw [all_false_of (p := fun d => decide (1 ≤ d ∧ d ≤ 6)) HD.out (by simp; omega)]; simp))
            go_wp2
            go_ret
            exact ⟨ret_bool HRF.out.symm, (HE.out.trans EW.out).trans HE1.out⟩
           ·have hq1 : decide (d < 1) = false := by simpa using hd1
            by_cases hd2 : 6 < d
            ·have hq2 : decide (6 < d) = true := by simpa using hd2
             have HRF : Hid (arrsB ars = false) := hid (arrsB_no HX.out (by simp only [arrOkB]; rw [all_false_of (p := fun d => decide (1 ≤ d ∧ d ≤ 6)) HD.out (by simp; omega)]; simp))
             go_wp2
             go_ret
             exact ⟨ret_bool HRF.out.symm, (HE.out.trans EW.out).trans HE1.out⟩
            ·have hq2 : decide (6 < d) = false := by simpa using hd2
             have HA2 := hid (mem_take_next HD.out HA.out (show 1 ≤ d ∧ d ≤ 6 by omega))
             go_wp2
             go_roundw
             case rel => exact ⟨j + 1, by omega, by go_num, HA2.out, HE1.out⟩
             case measure => simp [intOf]; omega
          ·obtain rfl : j = ln := by omega
           have HOK : Hid (arrOkB (⟨#[b1]⟩, ds) = true) := hid (by
            have h := HA.out
            rw [List.take_of_length_le (by rw [HLN.out]; omega)] at h
            simp only [arrOkB, HAR.out, Bool.true_and, Bool.and_eq_true, decide_eq_true_eq, List.all_eq_true]
            exact ⟨by rw [HLN.out]; omega, h⟩)
           have HT2 := hid (arrsTo_next HT.out HX.out HOK.out HPV.out)
           have HEE := hid ((HE.out.trans EW.out).trans HE1.out)
           go_wp2
           go_roundw
           case rel => exact ⟨k + 1, by omega, by go_num, HT2.out, HEE.out⟩
           case measure => simp [intOf]; omega
        ·have hq2 : decide ((2 : Int) < (ds.length : Int)) = true := by simp; omega
         have HRF : Hid (arrsB ars = false) := hid (arrsB_no HX.out (by simp only [arrOkB]; rw [decide_eq_false (show ¬ (1 ≤ ds.length ∧ ds.length ≤ 2) by omega)]; simp))
         go_wp2
         go_quiet (fail)
         go_wp2
         go_ret
         exact ⟨ret_bool HRF.out.symm, (HE.out.alloc _).drewN _⟩
       ·have hq1 : decide ((ds.length : Int) < 1) = true := by simp; omega
        have HRF : Hid (arrsB ars = false) := hid (arrsB_no HX.out (by simp only [arrOkB]; rw [decide_eq_false (show ¬ (1 ≤ ds.length ∧ ds.length ≤ 2) by omega)]; simp))
        go_wp2
        go_quiet (fail)
        go_wp2
        go_ret
        exact ⟨ret_bool HRF.out.symm, (HE.out.alloc _).drewN _⟩
      ·have hq0 : decide ((0 : Int) < (k : Int)) = true := by simp; omega
       obtain ⟨j0, hj0⟩ : ∃ j0, k = j0 + 1 := ⟨k - 1, by omega⟩
       obtain ⟨y, hy⟩ := get_some (xs := ars) (k := j0) (by rw [HN.out]; omega)
       obtain ⟨b2, off2, q2, m2, he2, v0, v1, -, -, -⟩ := (HS.out.ext HE.out).elem hy
       simp only [Option.some.injEq, Addr.mk.injEq, and_true] at he2
       obtain ⟨rfl, rfl⟩ := he2
       have hyo : arrOkB y = true := HT.out.1 y (by
        obtain ⟨hlt', he⟩ := List.getElem?_eq_some_iff.1 hy
        exact List.mem_of_getElem? (i := j0) (by rw [List.getElem?_take, if_pos (by omega)]; exact hy))
       obtain ⟨by1, hyb, -⟩ := arr_byte (arrOk_parts hyo).1
       rw [hyb] at v0
       have hkj : (k : Int) - 1 = (j0 : Int) := by omega
       have hwj : IntKind.i64.wrap (j0 : Int) = (j0 : Int) := by rw [IntKind.wrap_i64]; omega
       have hjn : (j0 : Int) < (n : Int) := by omega
       have HY := hid hy; have HYB := hid hyb; have HJ0 := hid hj0
       clear hy hyb hj0 hyo v1
       cases hL : Op.bytesLess [by1] [b1] with
       | false =>
        have HRF : Hid (arrsB ars = false) := hid (arrsB_no2 (j := j0) HY.out (by have h := HX.out; rw [HJ0.out] at h; exact h) (by
         rw [HYB.out]
         rw [bytes_lt] at hL
         exact of_decide_eq_false hL))
        go_wp2
        go_quiet (fail)
        go_wp2
        go_ret
        exact ⟨ret_bool HRF.out.symm, (HE.out.alloc _).drewN _⟩
       | true =>
        have HPV : Hid (∀ j y, k = j + 1 → ars[j]? = some y → nmN y.1 < nmN (⟨#[b1]⟩ : ByteArray)) := hid (fun j y' h h2 => by
         have e : j = j0 := by have := HJ0.out; omega
         rw [e, HY.out] at h2
         cases h2
         rw [HYB.out]
         rw [bytes_lt] at hL
         exact of_decide_eq_true hL)
        by_cases hl1 : 1 ≤ ds.length
        ·have hq1 : decide ((ds.length : Int) < 1) = false := by simp; omega
         by_cases hl2 : ds.length ≤ 2
         ·have hq2 : decide ((2 : Int) < (ds.length : Int)) = false := by simp; omega
          go_wp2
          go_quiet (fail)
          go_wp2
          obtain ⟨W1, hW1⟩ : ∃ W1, (wr.alloc (.cells #[.string ⟨#[b1]⟩, .slice q ds.length m] 106)).drewN nq = W1 := ⟨_, rfl⟩
          have BW : Hid (W1.heap[wr.heap.size]? = some (.cells #[.string ⟨#[b1]⟩, .slice q ds.length m] 106 (0, 0))) := hid (by rw [← hW1]; exact ((Ext.refl _).drewN nq).blk (blk_at rfl))
          have EW : Hid (Ext wr W1) := hid (by rw [← hW1]; exact ((Ext.refl wr).alloc _).drewN _)
          rw [hW1]
          clear hW1
          generalize hln : ds.length = ln at *
          have HLN := hid hln; clear hln
          go_loopw [5] (fun i wq => ∃ j : Nat, j ≤ ln ∧ i = .int .i64 j ∧ (∀ d ∈ ds.take j, 1 ≤ d ∧ d ≤ 6) ∧ Ext W1 wq) (fun i _ => ln - (intOf i).toNat)
          case atStart => exact ⟨0, by omega, rfl, by simp, Ext.refl W1⟩
          case round =>
           obtain ⟨j, hj, rfl, hall, hE1⟩ := hrel
           have HA := hid hall; have HE1 := hid hE1
           obtain ⟨y0, y1, -, -⟩ := blk2 (hE1.blk BW.out)
           clear hall hE1
           by_cases hjl : j < ln
           ·obtain ⟨d, hd⟩ := get_some (xs := ds) (k := j) (by rw [HLN.out]; exact hjl)
            obtain ⟨q', m', e', -, hdc⟩ := (HR.out.ext (EW.out.trans HE1.out)).get
            simp only [Value.slice.injEq] at e'
            obtain ⟨rfl, -, rfl⟩ := e'
            obtain ⟨bd, od, rfl, cd, hbd⟩ := hdc j d hd
            have HD := hid hd
            clear hd hdc
            by_cases hd1 : d < 1
            ·have hq1 : decide (d < 1) = true := by simpa using hd1
             have HRF : Hid (arrsB ars = false) := hid (arrsB_no HX.out (by simp only [arrOkB]; rw [all_false_of (p := fun d => decide (1 ≤ d ∧ d ≤ 6)) HD.out (by simp; omega)]; simp))
             go_wp2
             go_ret
             exact ⟨ret_bool HRF.out.symm, (HE.out.trans EW.out).trans HE1.out⟩
            ·have hq1 : decide (d < 1) = false := by simpa using hd1
             by_cases hd2 : 6 < d
             ·have hq2 : decide (6 < d) = true := by simpa using hd2
              have HRF : Hid (arrsB ars = false) := hid (arrsB_no HX.out (by simp only [arrOkB]; rw [all_false_of (p := fun d => decide (1 ≤ d ∧ d ≤ 6)) HD.out (by simp; omega)]; simp))
              go_wp2
              go_ret
              exact ⟨ret_bool HRF.out.symm, (HE.out.trans EW.out).trans HE1.out⟩
             ·have hq2 : decide (6 < d) = false := by simpa using hd2
              have HA2 := hid (mem_take_next HD.out HA.out (show 1 ≤ d ∧ d ≤ 6 by omega))
              go_wp2
              go_roundw
              case rel => exact ⟨j + 1, by omega, by go_num, HA2.out, HE1.out⟩
              case measure => simp [intOf]; omega
           ·obtain rfl : j = ln := by omega
            have HOK : Hid (arrOkB (⟨#[b1]⟩, ds) = true) := hid (by
             have h := HA.out
             rw [List.take_of_length_le (by rw [HLN.out]; omega)] at h
             simp only [arrOkB, HAR.out, Bool.true_and, Bool.and_eq_true, decide_eq_true_eq, List.all_eq_true]
             exact ⟨by rw [HLN.out]; omega, h⟩)
            have HT2 := hid (arrsTo_next HT.out HX.out HOK.out HPV.out)
            have HEE := hid ((HE.out.trans EW.out).trans HE1.out)
            go_wp2
            go_roundw
            case rel => exact ⟨k + 1, by omega, by go_num, HT2.out, HEE.out⟩
            case measure => simp [intOf]; omega
         ·have hq2 : decide ((2 : Int) < (ds.length : Int)) = true := by simp; omega
          have HRF : Hid (arrsB ars = false) := hid (arrsB_no HX.out (by simp only [arrOkB]; rw [decide_eq_false (show ¬ (1 ≤ ds.length ∧ ds.length ≤ 2) by omega)]; simp))
          go_wp2
          go_quiet (fail)
          go_wp2
          go_ret
          exact ⟨ret_bool HRF.out.symm, (HE.out.alloc _).drewN _⟩
        ·have hq1 : decide ((ds.length : Int) < 1) = true := by simp; omega
         have HRF : Hid (arrsB ars = false) := hid (arrsB_no HX.out (by simp only [arrOkB]; rw [decide_eq_false (show ¬ (1 ≤ ds.length ∧ ds.length ≤ 2) by omega)]; simp))
         go_wp2
         go_quiet (fail)
         go_wp2
         go_ret
         exact ⟨ret_bool HRF.out.symm, (HE.out.alloc _).drewN _⟩
   ·have hb1 : ((nm.size : Int) != 1) = true := by simp; omega
    have HRF : Hid (arrsB ars = false) := hid (arrsB_no HX.out (by simp [arrOkB, arrB_no h1]))
    go_wp2
    go_quiet (fail)
    go_wp2
    go_ret
    exact ⟨ret_bool HRF.out.symm, (HE.out.alloc _).drewN _⟩
  ·obtain rfl : k = n := by omega
   have HRT : Hid (arrsB ars = true) := hid (arrsTo_all (by rw [HN.out]; exact HT.out))
   have h4 : k ≤ 4 := by have := arrs_len HRT.out; rw [HN.out] at this; exact this
   have hq4 : decide ((k : Int) ≤ 4) = true := by simp; omega
   go_wp2
   go_ret
   exact ⟨ret_bool HRT.out.symm, HE.out⟩
end Go.Proofs.YtggpjapmhakklaaGreat
