/- The texts G29, joined. No statement is proved here. -/
import Derived.Test.YtmhldhjpfeageabGreatK42
import Derived.Test.YtmhldhjpfeageabGreatK55
/- Memories: MemoryValid of the model; the program's check of values. No statement is proved here. -/
namespace Go.Proofs.YtmhldhjpfeageabGreat
open Go.RowKit Go.Maps
def memB (ars : List Arr) (ps : List Pt) (xs : List Int) : Bool := valsB xs && (progB ars ps && decide ((xs.length : Int) = totN ars))
set_option linter.unusedVariables false in
set_option linter.unusedSimpArgs false in
set_option maxRecDepth 100000 in
set_option maxHeartbeats 2000000 in
theorem specMemoryValid_any (v : Value) (ars : List Arr) (ps : List Pt) (p : Option Addr) (n c : Nat) (xs : List Int) (w : World) (hp : PrR w v ars ps) (hn : xs.length = n) (hs : IntsAt w (.slice p n c) xs) :
  Calls Tryz.prog 29 #[v, .slice p n c] w fun e w' => e = .returned (.bool (memB ars ps xs)) ∧ Ext w w' := by
 obtain ⟨qa, ca, qp, cp, rfl, -, -, -, -⟩ := hp.parts
 obtain ⟨na, hna⟩ : ∃ n, ars.length = n := ⟨_, rfl⟩
 obtain ⟨np, hnp⟩ : ∃ n, ps.length = n := ⟨_, rfl⟩
 rw [hna, hnp] at hp ⊢
 obtain ⟨hm, hc⟩ := hs.cl
 have HP := Lib.hid hp; have HN := Lib.hid hn; have HC := Lib.hid hc
 obtain ⟨ans, hans⟩ : ∃ a, memB ars ps xs = a := ⟨_, rfl⟩
 rw [hans]
 obtain ⟨pb, hpb⟩ : ∃ a, progB ars ps = a := ⟨_, rfl⟩
 have HANS := Lib.hid hans; have HPB := Lib.hid hpb
 clear hp hn hs hna hnp hans hpb hc
 go_enter Tryz.func29, Tryz.ntmps29
 go_wp2
 obtain ⟨W0, hW0⟩ : ∃ W0, w.alloc (.cells #[.slice qa na ca, .slice qp np cp] 32) = W0 := ⟨_, rfl⟩
 have E0 : Hid (Ext w W0) := Lib.hid (by rw [← hW0]; exact (Ext.refl w).alloc _)
 have B0 := Lib.hid (show W0.heap[w.heap.size]? = some (.cells #[.slice qa na ca, .slice qp np cp] 32 (0, 0)) by rw [← hW0]; exact blk_at rfl)
 rw [hW0]
 clear hW0
 go_loopw [5] (fun i wr => ∃ k : Nat, k ≤ n ∧ i = .int .i64 k ∧ valsB (xs.take k) = true ∧ Ext W0 wr) (fun i _ => n - (intOf i).toNat)
 case atStart => exact ⟨0, by omega, rfl, by simp [valsB], Ext.refl _⟩
 case round =>
  obtain ⟨k, hk, rfl, hv, hE⟩ := hrel
  have HV := Lib.hid hv; have HE := Lib.hid hE; have HEW := Lib.hid (E0.out.trans hE)
  clear hv hE
  by_cases hlt : k < n
  ·obtain ⟨x, hx⟩ := get_some (xs := xs) (k := k) (by rw [HN.out]; exact hlt)
   obtain ⟨b, off, rfl, hcell⟩ := HC.out k x hx
   have hcl := HEW.out.keep hcell
   have HX := Lib.hid hx
   clear hx hcell
   by_cases h0 : x < 0
   ·have hb : decide (x < 0) = true := by simpa using h0
    have HR : Hid (ans = false) := Lib.hid (by rw [← HANS.out]; unfold memB; rw [vals_no HX.out (by omega)]; rfl)
    go_wp2
    go_ret
    exact ⟨ret_bool HR.out.symm, HEW.out⟩
   ·have hb : decide (x < 0) = false := by simpa using h0
    by_cases h1 : 999 < x
    ·have hb1 : decide (999 < x) = true := by simpa using h1
     have HR : Hid (ans = false) := Lib.hid (by rw [← HANS.out]; unfold memB; rw [vals_no HX.out (by omega)]; rfl)
     go_wp2
     go_ret
     exact ⟨ret_bool HR.out.symm, HEW.out⟩
    ·have hb1 : decide (999 < x) = false := by simpa using h1
     have HV2 := Lib.hid (vals_next HX.out HV.out ⟨by omega, by omega⟩)
     clear h0 h1
     go_wp2
     go_roundw
     case rel => exact ⟨k + 1, by omega, by go_num, HV2.out, HE.out⟩
     case measure => simp [intOf]; omega
  ·obtain rfl : k = n := by omega
   have HVA : Hid (valsB xs = true) := Lib.hid (by have h := HV.out; rw [List.take_of_length_le (by rw [HN.out]; omega)] at h; exact h)
   obtain ⟨y0, y1, -, -⟩ := blk2 (HE.out.blk B0.out)
   go_wp2_with (fail)
   refine (specProgramValid_any _ ars ps _ (HP.out.ext HEW.out)).mono ?_
   rw [HPB.out]
   rintro e w1 ⟨rfl, hE1⟩
   have E1 := Lib.hid (HEW.out.trans hE1); have B1 := Lib.hid ((HE.out.trans hE1).blk B0.out)
   clear hE1 y0 y1
   cases pb with
   | false =>
    have HR : Hid (ans = false) := Lib.hid (by rw [← HANS.out]; unfold memB; rw [HPB.out]; simp)
    go_wp2
    go_ret
    exact ⟨ret_bool HR.out.symm, E1.out⟩
   | true =>
    obtain ⟨y0, y1, -, -⟩ := blk2 B1.out
    go_wp2_with (fail)
    refine (l4Total_any _ ars ps _ (HP.out.ext E1.out) (progB_arrs HPB.out)).mono ?_
    rintro e w2 ⟨rfl, hE2⟩
    have E2 := Lib.hid (E1.out.trans hE2)
    obtain ⟨T, hT⟩ : ∃ T, totN ars = T := ⟨_, rfl⟩
    rw [hT]
    have HT := Lib.hid hT
    clear hE2 y0 y1 hT
    by_cases hq : (k : Int) = T
    ·have hb : ((k : Int) == T) = true := by simpa using hq
     have HR : Hid (ans = true) := Lib.hid (by rw [← HANS.out]; unfold memB; rw [HVA.out, HPB.out, HN.out, HT.out, decide_eq_true hq]; rfl)
     clear hq
     go_wp2
     go_ret
     exact ⟨ret_bool HR.out.symm, E2.out⟩
    ·have hb : ((k : Int) == T) = false := by simpa using hq
     have HR : Hid (ans = false) := Lib.hid (by rw [← HANS.out]; unfold memB; rw [HVA.out, HPB.out, HN.out, HT.out, decide_eq_false hq]; rfl)
     clear hq
     go_wp2
     go_ret
     exact ⟨ret_bool HR.out.symm, E2.out⟩
set_option linter.unusedVariables false in
set_option linter.unusedSimpArgs false in
set_option maxRecDepth 100000 in
set_option maxHeartbeats 2000000 in
theorem memValid_any (p : Option Addr) (n c : Nat) (T : Int) (xs : List Int) (w : World) (hn : xs.length = n) (hs : IntsAt w (.slice p n c) xs) :
  Calls Tryz.prog 96 #[.slice p n c, .int .i64 T] w fun e w' => e = .returned (.bool (valsB xs && decide ((xs.length : Int) = T))) ∧ Ext w w' := by
 obtain ⟨hm, hc⟩ := hs.cl
 have HN := Lib.hid hn; have HC := Lib.hid hc
 obtain ⟨ans, hans⟩ : ∃ a, (valsB xs && decide ((xs.length : Int) = T)) = a := ⟨_, rfl⟩
 rw [hans]
 have HANS := Lib.hid hans
 clear hn hs hans hc
 by_cases hq : (n : Int) = T
 ·have hb : ((n : Int) != T) = false := by simpa using hq
  have HQ := Lib.hid hq
  clear hq
  go_enter Tryz.func96, Tryz.ntmps96
  go_wp2
  go_loopw [13] (fun i wr => ∃ k : Nat, k ≤ n ∧ i = .int .i64 k ∧ valsB (xs.take k) = true ∧ Ext w wr) (fun i _ => n - (intOf i).toNat)
  case atStart => exact ⟨0, by omega, rfl, by simp [valsB], Ext.refl _⟩
  case round =>
   obtain ⟨k, hk, rfl, hv, hE⟩ := hrel
   have HV := Lib.hid hv; have HE := Lib.hid hE
   clear hv hE
   by_cases hlt : k < n
   ·obtain ⟨x, hx⟩ := get_some (xs := xs) (k := k) (by rw [HN.out]; exact hlt)
    obtain ⟨b, off, rfl, hcell⟩ := HC.out k x hx
    have hcl := HE.out.keep hcell
    have HX := Lib.hid hx
    clear hx hcell
    by_cases h0 : x < 0
    ·have hb : decide (x < 0) = true := by simpa using h0
     have HR : Hid (ans = false) := Lib.hid (by rw [← HANS.out, vals_no HX.out (by omega)]; rfl)
     go_wp2
     go_ret
     exact ⟨ret_bool HR.out.symm, HE.out⟩
    ·have hb : decide (x < 0) = false := by simpa using h0
     by_cases h1 : 999 < x
     ·have hb1 : decide (999 < x) = true := by simpa using h1
      have HR : Hid (ans = false) := Lib.hid (by rw [← HANS.out, vals_no HX.out (by omega)]; rfl)
      go_wp2
      go_ret
      exact ⟨ret_bool HR.out.symm, HE.out⟩
     ·have hb1 : decide (999 < x) = false := by simpa using h1
      have HV2 := Lib.hid (vals_next HX.out HV.out ⟨by omega, by omega⟩)
      clear h0 h1
      go_wp2
      go_roundw
      case rel => exact ⟨k + 1, by omega, by go_num, HV2.out, HE.out⟩
      case measure => simp [intOf]; omega
   ·obtain rfl : k = n := by omega
    have HR : Hid (ans = true) := Lib.hid (by have h := HV.out; rw [List.take_of_length_le (by rw [HN.out]; omega)] at h; rw [← HANS.out, h, HN.out, decide_eq_true HQ.out]; rfl)
    go_wp2
    go_ret
    exact ⟨ret_bool HR.out.symm, HE.out⟩
 ·have hb : ((n : Int) != T) = true := by simpa using hq
  have HR : Hid (ans = false) := Lib.hid (by rw [← HANS.out, HN.out, decide_eq_false hq, Bool.and_false])
  clear hq
  go_enter Tryz.func96, Tryz.ntmps96
  go_wp2
  go_ret
  exact ⟨ret_bool HR.out.symm, Ext.refl _⟩
end Go.Proofs.YtmhldhjpfeageabGreat
