/- The texts G12 G3, joined. No statement is proved here. -/
import Derived.Test.YtggpjapmhakklaaGreatQL20
import Derived.Test.YtggpjapmhakklaaGreatQL26
import Derived.Test.YtggpjapmhakklaaGreatQL35
set_option maxRecDepth 100000
set_option maxHeartbeats 8000000
set_option linter.unusedVariables false
set_option linter.unusedSimpArgs false
namespace Go.Proofs.YtggpjapmhakklaaGreat
open Go.Lib (hid)
open Go.RowKit
theorem progB_no1 {ars : List Arr} {ps : List Pt} (h : arrsB ars = false) : progB ars ps = false := by simp [progB, h]
theorem progB_no2 {ars : List Arr} {ps : List Pt} (h : ¬ ps.length ≤ 4) : progB ars ps = false := by unfold progB; rw [decide_eq_false h]; simp
theorem progB_no3 {ars : List Arr} {ps : List Pt} {i : Nat} {x : Pt} (hx : ps[i]? = some x) (h : partB ars x = false) : progB ars ps = false := by unfold progB; rw [all_false_of (p := partB ars) hx h]; simp
theorem instN_take {ps : List Pt} {i : Nat} {x : Pt} (hx : ps[i]? = some x) : instN (ps.take (i + 1)) = instN (ps.take i) + partN x := by
 unfold instN; rw [take_next hx, List.map_append, List.sum_append]; simp
theorem partN_bd {x : Pt} (h4 : x.2.length ≤ 4) : partN x ≤ 480 := by
 have h1 : (nptsL x.1).length ≤ 120 := nptsL_len
 unfold partN
 exact Nat.mul_le_mul h1 h4
theorem partB_len {ars : List Arr} {x : Pt} (h : partB ars x = true) : 1 ≤ x.2.length ∧ x.2.length ≤ 4 := by
 simp only [partB, Bool.and_eq_true, decide_eq_true_eq] at h
 exact h.2.1
theorem specProgramValid_any (v : Value) (ars : List Arr) (ps : List Pt) (w : World) (hp : PrR w v ars ps) :
  Calls Tryz.prog 19 #[v] w fun e w' => e = .returned (.bool (progB ars ps)) ∧ Ext w w' := by
 obtain ⟨qa, ca, qp, cp, rfl, hla, hlp, ha, hps⟩ := hp.parts
 obtain ⟨n, hn⟩ : ∃ n, ars.length = n := ⟨_, rfl⟩
 obtain ⟨m, hm⟩ : ∃ m, ps.length = m := ⟨_, rfl⟩
 rw [hn] at ha hla ⊢
 rw [hm] at hps hlp ⊢
 have HA := hid ha; have HPS := hid hps; have HN := hid hn; have HM := hid hm
 clear hp ha hps hn hm
 obtain ⟨ab, hab⟩ : ∃ ab, arrsB ars = ab := ⟨_, rfl⟩
 have HAB := hid hab; clear hab
 go_enter Tryz.func19, Tryz.ntmps19
 go_wp2_with (fail)
 obtain ⟨W0, hW0⟩ : ∃ W0, w.alloc (.cells #[.slice qa n ca, .slice qp m cp] 32) = W0 := ⟨_, rfl⟩
 have E0 : Hid (Ext w W0) := hid (by rw [← hW0]; exact (Ext.refl w).alloc _)
 have B0 := hid (show W0.heap[w.heap.size]? = some (.cells #[.slice qa n ca, .slice qp m cp] 32 (0, 0)) by rw [← hW0]; exact blk_at rfl)
 rw [hW0]
 clear hW0
 refine (l4Arrays_any qa n ca ars _ HN.out (HA.out.ext E0.out)).mono ?_
 rw [HAB.out]
 rintro e W1 ⟨rfl, hE1⟩
 have B1 := hid (hE1.blk B0.out); have E1 := hid (E0.out.trans hE1)
 clear hE1
 obtain ⟨y0, y1, -, -⟩ := blk2 B1.out
 cases ab with
 | false =>
  have HRF : Hid (progB ars ps = false) := hid (progB_no1 HAB.out)
  go_wp2
  go_ret
  exact ⟨ret_bool HRF.out.symm, E1.out⟩
 | true =>
  have hn4 : n ≤ 4 := by have := arrs_len HAB.out; rw [HN.out] at this; exact this
  have HOK : Hid (∀ a ∈ ars, arrOkB a = true) := hid (by have h := HAB.out; simp only [arrsB, Bool.and_eq_true, List.all_eq_true] at h; exact h.1)
  by_cases hm4 : m ≤ 4
  ·have hq4 : decide ((4 : Int) < (m : Int)) = false := by simp; omega
   go_wp2
   clear y0 y1
   go_loopw [3, 4] (fun tv iv wr => ∃ (i : Nat) (T : Nat), i ≤ m ∧ iv = .int .i64 i ∧ tv = .int .i64 (T : Int) ∧ T ≤ 480 * i ∧ instN (ps.take i) = T ∧ (ps.take i).all (partB ars) = true ∧ Ext W1 wr) (fun _ iv _ => m - (intOf iv).toNat)
   case atStart => exact ⟨0, 0, by omega, rfl, rfl, by omega, by simp [instN], by simp, Ext.refl W1⟩
   case round =>
    obtain ⟨i, T, hi, rfl, rfl, hT, hsum, hall, hE⟩ := hrel
    have HSUM := hid hsum; have HALL := hid hall; have HE := hid hE; have HEW := hid (E1.out.trans hE)
    obtain ⟨y0, y1, -, -⟩ := blk2 (hE.blk B1.out)
    clear hsum hall hE
    by_cases him : i < m
    ·obtain ⟨x, hx⟩ := get_some (xs := ps) (k := i) (by rw [HM.out]; exact him)
     obtain ⟨b, off, q1, m1, q2, m2, rfl, c0, c1, hb, hr, hr'⟩ := (HPS.out.ext HEW.out).elem hx
     have HX := hid hx; have HR := hid hr; have HR' := hid hr'
     have hiI : (i : Int) < (m : Int) := by omega
     clear hx hr hr'
     obtain ⟨pb, hpb⟩ : ∃ pb, partB ars x = pb := ⟨_, rfl⟩
     obtain ⟨PN, hPN⟩ : ∃ PN, pNum ars x = PN := ⟨_, rfl⟩
     have HPB := hid hpb; have HPN := hid hPN; clear hpb hPN
     go_wp2_with (fail)
     go_region_held3 (fun W => W.cell? ⟨w.heap.size, 0, none⟩ = some (.slice qa n ca) ∧ W.cell? ⟨w.heap.size, 1, none⟩ = some (.slice (some ⟨b, off, none⟩) m cp) ∧ W.cell? ⟨b, off + i * 2, none⟩ = some (.slice q1 x.1.length m1) ∧ W.cell? ⟨b, off + i * 2 + 1, none⟩ = some (.slice q2 x.2.length m2))
      (first | exact ⟨y0, y1, c0, c1⟩ | exact ⟨g3.keep y0, g3.keep y1, g3.keep c0, g3.keep c1⟩ | fail)
      (first | (go_at_call 38; (with_reducible refine (l4Part_any qa n ca ars _ _ x _ HN.out ((HA.out.ext HEW.out).ext (Ext.refl wr).drew) HOK.out hn4 (HR.out.ext (Ext.refl wr).drew) (HR'.out.ext (Ext.refl wr).drew)).mono ?_); rw [HPB.out, HPN.out]; rintro e w3 ⟨rfl, hE3⟩; have g3 := (Ext.refl wr).drew.trans hE3) | fail)
     have HE3 := hid (HE.out.trans g3); have HEW3 := hid (HEW.out.trans g3)
     clear y0 y1 c0 c1 g3
     cases pb with
     | false =>
      have HRF : Hid (progB ars ps = false) := hid (progB_no3 HX.out HPB.out)
      go_wp2
      go_ret
      exact ⟨ret_bool HRF.out.symm, HEW3.out⟩
     | true =>
      have hlen := partB_len HPB.out
      obtain ⟨N, hN⟩ : ∃ N, partN x = N := ⟨_, rfl⟩
      have hNb : N ≤ 480 := by rw [← hN]; exact partN_bd hlen.2
      obtain rfl : PN = (N : Int) := by rw [← HPN.out, pNum_yes HPB.out, hN]
      have HSUM2 : Hid (instN (ps.take (i + 1)) = T + N) := hid (by rw [instN_take HX.out, HSUM.out, hN])
      have HALL2 := hid (all_take_next (p := partB ars) HX.out HALL.out HPB.out)
      clear hN hlen
      go_wp2
      go_roundw
      case rel => exact ⟨i + 1, T + N, by omega, by go_num, by go_num, by omega, HSUM2.out, HALL2.out, HE3.out⟩
      case measure => simp [intOf]; omega
    ·obtain rfl : i = m := by omega
     have HRR : Hid (progB ars ps = decide (T ≤ 120)) := hid (by
      have h := HALL.out
      have h2 := HSUM.out
      rw [List.take_of_length_le (by rw [HM.out]; omega)] at h h2
      unfold progB
      rw [HAB.out, h, h2, decide_eq_true (by rw [HM.out]; exact hm4)]; rfl)
     by_cases hT1 : T ≤ 120
     ·have hq : decide (T ≤ 120) = true := by simpa using hT1
      have hq' : decide ((T : Int) ≤ 120) = true := by simp; omega
      have HRT := hid (HRR.out.trans hq)
      go_wp2
      go_ret
      exact ⟨ret_bool HRT.out.symm, HEW.out⟩
     ·have hq : decide (T ≤ 120) = false := by simpa using hT1
      have hq' : decide ((T : Int) ≤ 120) = false := by simp; omega
      have HRT := hid (HRR.out.trans hq)
      go_wp2
      go_ret
      exact ⟨ret_bool HRT.out.symm, HEW.out⟩
  ·have hq4 : decide ((4 : Int) < (m : Int)) = true := by simp; omega
   have HRF : Hid (progB ars ps = false) := hid (progB_no2 (by rw [HM.out]; exact hm4))
   go_wp2
   go_ret
   exact ⟨ret_bool HRF.out.symm, E1.out⟩
end Go.Proofs.YtggpjapmhakklaaGreat
namespace Go.Proofs.YtggpjapmhakklaaGreat
open Go.Lib (hid)
open Go.RowKit
theorem eqStmtS_same (p q : Option Addr) (n c d : Nat) (es : List St) (w : World) (hn : es.length = n) (hs : StmtsAt w (.slice p n c) es) (ht : StmtsAt w (.slice q n d) es) :
  Calls Tryz.prog 81 #[.slice p n c, .slice q n d] w fun e w' => e = .returned (.bool true) ∧ Ext w w' := by
 have hm : n ≤ 9223372036854775807 := by obtain ⟨_, _, _, hm⟩ := hs.form; rw [← hn]; exact hm
 have HS := hid hs; have HT := hid ht; have HN := hid hn; clear hs ht hn
 go_enter Tryz.func81, Tryz.ntmps81
 go_wp2
 go_loopw [5] (fun i wr => ∃ k : Nat, k ≤ n ∧ i = .int .i64 k ∧ Ext w wr) (fun i _ => n - (intOf i).toNat)
 case atStart => exact ⟨0, by omega, rfl, Ext.refl w⟩
 case round =>
  obtain ⟨k, hk, rfl, hE⟩ := hrel
  by_cases hlt : k < n
  ·obtain ⟨x, hx⟩ := get_some (xs := es) (k := k) (by rw [HN.out]; exact hlt)
   obtain ⟨b, off, q1, d1, q2, d2, q3, d3, q4, d4, rfl, c0, c1, c2, c3, c4, c5, c6, c7, c8, hb, hr, -⟩ := (HS.out.ext hE).elem' hx
   obtain ⟨b', off', p1, e1, p2, e2, p3, e3, p4, e4, rfl, z0, z1, z2, z3, z4, z5, z6, z7, z8, hb', hr', -⟩ := (HT.out.ext hE).elem' hx
   have HE := hid hE; have HR := hid hr; have HR' := hid hr'
   clear hx hE hr hr'
   go_wp2_with (fail)
   go_region_held3 (fun W => W.cell? ⟨b, off + k * 9, none⟩ = some (.string x.1) ∧ W.cell? ⟨b, off + k * 9 + 1, none⟩ = some (.slice q1 x.2.1.length d1) ∧ W.cell? ⟨b, off + k * 9 + 2, none⟩ = some (.int .i64 x.2.2.kind) ∧ W.cell? ⟨b, off + k * 9 + 3, none⟩ = some (.int .i64 x.2.2.num) ∧ W.cell? ⟨b, off + k * 9 + 4, none⟩ = some (.slice q2 x.2.2.ix.1.length d2) ∧ W.cell? ⟨b, off + k * 9 + 5, none⟩ = some (.int .i64 x.2.2.ix.2) ∧ W.cell? ⟨b, off + k * 9 + 6, none⟩ = some (.string x.2.2.arr) ∧ W.cell? ⟨b, off + k * 9 + 7, none⟩ = some (.slice q3 x.2.2.subs.length d3) ∧ W.cell? ⟨b, off + k * 9 + 8, none⟩ = some (.slice q4 x.2.2.kids.length d4) ∧ W.cell? ⟨b', off' + k * 9, none⟩ = some (.string x.1) ∧ W.cell? ⟨b', off' + k * 9 + 1, none⟩ = some (.slice p1 x.2.1.length e1) ∧ W.cell? ⟨b', off' + k * 9 + 2, none⟩ = some (.int .i64 x.2.2.kind) ∧ W.cell? ⟨b', off' + k * 9 + 3, none⟩ = some (.int .i64 x.2.2.num) ∧ W.cell? ⟨b', off' + k * 9 + 4, none⟩ = some (.slice p2 x.2.2.ix.1.length e2) ∧ W.cell? ⟨b', off' + k * 9 + 5, none⟩ = some (.int .i64 x.2.2.ix.2) ∧ W.cell? ⟨b', off' + k * 9 + 6, none⟩ = some (.string x.2.2.arr) ∧ W.cell? ⟨b', off' + k * 9 + 7, none⟩ = some (.slice p3 x.2.2.subs.length e3) ∧ W.cell? ⟨b', off' + k * 9 + 8, none⟩ = some (.slice p4 x.2.2.kids.length e4))
    (first | exact ⟨c0, c1, c2, c3, c4, c5, c6, c7, c8, z0, z1, z2, z3, z4, z5, z6, z7, z8⟩ | exact ⟨g3.keep c0, g3.keep c1, g3.keep c2, g3.keep c3, g3.keep c4, g3.keep c5, g3.keep c6, g3.keep c7, g3.keep c8, g3.keep z0, g3.keep z1, g3.keep z2, g3.keep z3, g3.keep z4, g3.keep z5, g3.keep z6, g3.keep z7, g3.keep z8⟩ | fail)
    (first | (go_at_call 114; (with_reducible refine (eqStmt_same _ _ x.1 x.2.1 x.2.2 _ (HR.out.ext (Ext.refl wr).drew) (HR'.out.ext (Ext.refl wr).drew)).mono ?_); rintro e w3 ⟨rfl, hE3⟩; have g3 := (Ext.refl wr).drew.trans hE3) | fail)
   go_wp2
   go_roundw
   case rel => exact ⟨k + 1, by omega, by go_num, HE.out.trans g3⟩
   case measure => simp [intOf]; omega
  ·go_wp2
   go_ret
   exact ⟨rfl, hE⟩
theorem eqArray_same (x : Arr) (s t : Value) (w : World) (hs : IntsAt w s x.2) (ht : IntsAt w t x.2) :
  Calls Tryz.prog 48 #[.agg #[.string x.1, s], .agg #[.string x.1, t]] w fun e w' => e = .returned (.bool true) ∧ Ext w w' := by
 obtain ⟨p, c, rfl, hm, -⟩ := id hs
 obtain ⟨q, d, rfl, -, -⟩ := id ht
 have HS := hid hs; have HT := hid ht; clear hs ht
 go_enter Tryz.func48, Tryz.ntmps48
 go_wp2_with (fail)
 refine (eqIntS_any _ _ x.2 x.2 _ (HS.out.ext (((Ext.refl w).alloc _).alloc _)) (HT.out.ext (((Ext.refl w).alloc _).alloc _))).mono ?_
 rw [show eqB x.2 x.2 = true by simp [eqB]]
 rintro e W1 ⟨rfl, hE⟩
 have E1 := hid ((((Ext.refl w).alloc _).alloc _).trans hE)
 clear hE
 go_wp2
 go_ret
 exact ⟨rfl, E1.out⟩
theorem eqArrayS_same (p q : Option Addr) (n c d : Nat) (es : List Arr) (w : World) (hn : es.length = n) (hs : ArrsAt w (.slice p n c) es) (ht : ArrsAt w (.slice q n d) es) :
  Calls Tryz.prog 25 #[.slice p n c, .slice q n d] w fun e w' => e = .returned (.bool true) ∧ Ext w w' := by
 have hm : n ≤ 9223372036854775807 := by obtain ⟨_, _, _, hm⟩ := hs.form; rw [← hn]; exact hm
 have HS := hid hs; have HT := hid ht; have HN := hid hn; clear hs ht hn
 go_enter Tryz.func25, Tryz.ntmps25
 go_wp2
 go_loopw [5] (fun i wr => ∃ k : Nat, k ≤ n ∧ i = .int .i64 k ∧ Ext w wr) (fun i _ => n - (intOf i).toNat)
 case atStart => exact ⟨0, by omega, rfl, Ext.refl w⟩
 case round =>
  obtain ⟨k, hk, rfl, hE⟩ := hrel
  by_cases hlt : k < n
  ·obtain ⟨x, hx⟩ := get_some (xs := es) (k := k) (by rw [HN.out]; exact hlt)
   obtain ⟨b, off, q1, m1, rfl, c0, c1, hb, hr, hr'⟩ := (HS.out.ext hE).elem hx
   obtain ⟨b', off', q2, m2, rfl, z0, z1, hb', hz, hz'⟩ := (HT.out.ext hE).elem hx
   have HE := hid hE; have HR := hid hr; have HR' := hid hr'; have HZ := hid hz; have HZ' := hid hz'
   clear hx hE hr hr' hz hz'
   go_wp2_with (fail)
   go_region_held3 (fun W => W.cell? ⟨b, off + k * 2, none⟩ = some (.string x.1) ∧ W.cell? ⟨b, off + k * 2 + 1, none⟩ = some (.slice q1 x.2.length m1) ∧ W.cell? ⟨b', off' + k * 2, none⟩ = some (.string x.1) ∧ W.cell? ⟨b', off' + k * 2 + 1, none⟩ = some (.slice q2 x.2.length m2))
    (first | exact ⟨c0, c1, z0, z1⟩ | exact ⟨g3.keep c0, g3.keep c1, g3.keep z0, g3.keep z1⟩ | fail)
    (first | (go_at_call 48; (with_reducible refine (eqArray_same x _ _ _ (HR'.out.ext (Ext.refl wr).drew) (HZ'.out.ext (Ext.refl wr).drew)).mono ?_); rintro e w3 ⟨rfl, hE3⟩; have g3 := (Ext.refl wr).drew.trans hE3) | fail)
   go_wp2
   go_roundw
   case rel => exact ⟨k + 1, by omega, by go_num, HE.out.trans g3⟩
   case measure => simp [intOf]; omega
  ·go_wp2
   go_ret
   exact ⟨rfl, hE⟩
theorem eqPart_same (s t s' t' : Value) (x : List Lp × List St) (w : World) (hs : LoopsAt w s x.1) (ht : StmtsAt w t x.2) (hs' : LoopsAt w s' x.1) (ht' : StmtsAt w t' x.2) :
  Calls Tryz.prog 49 #[.agg #[s, t], .agg #[s', t']] w fun e w' => e = .returned (.bool true) ∧ Ext w w' := by
 obtain ⟨p, c, rfl, hm⟩ := hs.form
 obtain ⟨q, d, rfl, hm2⟩ := ht.form
 obtain ⟨p', c', rfl, -⟩ := hs'.form
 obtain ⟨q', d', rfl, -⟩ := ht'.form
 have HS := hid hs; have HT := hid ht; have HS' := hid hs'; have HT' := hid ht'; clear hs ht hs' ht'
 go_enter Tryz.func49, Tryz.ntmps49
 go_wp2_with (fail)
 refine (eqLoopS_any p _ c p' _ c' x.1 x.1 _ rfl rfl (HS.out.ext (((Ext.refl w).alloc _).alloc _)) (HS'.out.ext (((Ext.refl w).alloc _).alloc _))).mono ?_; rw [lEqB_self]
 rintro e W1 ⟨rfl, hE⟩
 have E1 : Hid (Ext w W1) := hid ((((Ext.refl w).alloc _).alloc _).trans hE)
 obtain ⟨-, x1, -, -⟩ := blk2 (hE.blk (g := w.heap.size) (blk_old (blk_at rfl)))
 obtain ⟨-, y1, -, -⟩ := blk2 (hE.blk (g := w.heap.size + 1) (blk_at (by simp)))
 clear hE
 go_wp2_with (fail)
 refine (eqStmtS_same q q' _ d d' x.2 _ rfl (HT.out.ext E1.out) (HT'.out.ext E1.out)).mono ?_
 rintro e W2 ⟨rfl, hE⟩
 have E2 : Hid (Ext w W2) := hid (E1.out.trans hE)
 clear hE x1 y1
 go_wp2
 go_ret
 exact ⟨rfl, E2.out⟩
theorem eqPartS_same (p q : Option Addr) (n c d : Nat) (es : List Pt) (w : World) (hn : es.length = n) (hs : PartsAt w (.slice p n c) es) (ht : PartsAt w (.slice q n d) es) :
  Calls Tryz.prog 26 #[.slice p n c, .slice q n d] w fun e w' => e = .returned (.bool true) ∧ Ext w w' := by
 have hm : n ≤ 9223372036854775807 := by obtain ⟨_, _, _, hm⟩ := hs.form; rw [← hn]; exact hm
 have HS := hid hs; have HT := hid ht; have HN := hid hn; clear hs ht hn
 go_enter Tryz.func26, Tryz.ntmps26
 go_wp2
 go_loopw [5] (fun i wr => ∃ k : Nat, k ≤ n ∧ i = .int .i64 k ∧ Ext w wr) (fun i _ => n - (intOf i).toNat)
 case atStart => exact ⟨0, by omega, rfl, Ext.refl w⟩
 case round =>
  obtain ⟨k, hk, rfl, hE⟩ := hrel
  by_cases hlt : k < n
  ·obtain ⟨x, hx⟩ := get_some (xs := es) (k := k) (by rw [HN.out]; exact hlt)
   obtain ⟨b, off, q1, m1, q2, m2, rfl, c0, c1, hb, hr, hr'⟩ := (HS.out.ext hE).elem hx
   obtain ⟨b', off', p1, e1, p2, e2, rfl, z0, z1, hb', hz, hz'⟩ := (HT.out.ext hE).elem hx
   have HE := hid hE; have HR := hid hr; have HR' := hid hr'; have HZ := hid hz; have HZ' := hid hz'
   clear hx hE hr hr' hz hz'
   go_wp2_with (fail)
   go_region_held3 (fun W => W.cell? ⟨b, off + k * 2, none⟩ = some (.slice q1 x.1.length m1) ∧ W.cell? ⟨b, off + k * 2 + 1, none⟩ = some (.slice q2 x.2.length m2) ∧ W.cell? ⟨b', off' + k * 2, none⟩ = some (.slice p1 x.1.length e1) ∧ W.cell? ⟨b', off' + k * 2 + 1, none⟩ = some (.slice p2 x.2.length e2))
    (first | exact ⟨c0, c1, z0, z1⟩ | exact ⟨g3.keep c0, g3.keep c1, g3.keep z0, g3.keep z1⟩ | fail)
    (first | (go_at_call 49; (with_reducible refine (eqPart_same _ _ _ _ x _ (HR.out.ext (Ext.refl wr).drew) (HR'.out.ext (Ext.refl wr).drew) (HZ.out.ext (Ext.refl wr).drew) (HZ'.out.ext (Ext.refl wr).drew)).mono ?_); rintro e w3 ⟨rfl, hE3⟩; have g3 := (Ext.refl wr).drew.trans hE3) | fail)
   go_wp2
   go_roundw
   case rel => exact ⟨k + 1, by omega, by go_num, HE.out.trans g3⟩
   case measure => simp [intOf]; omega
  ·go_wp2
   go_ret
   exact ⟨rfl, hE⟩
theorem eqProgram'_same (s t s' t' : Value) (x : List Arr × List Pt) (w : World) (hs : ArrsAt w s x.1) (ht : PartsAt w t x.2) (hs' : ArrsAt w s' x.1) (ht' : PartsAt w t' x.2) :
  Calls Tryz.prog 10 #[.agg #[s, t], .agg #[s', t']] w fun e w' => e = .returned (.bool true) ∧ Ext w w' := by
 obtain ⟨p, c, rfl, hm⟩ := hs.form
 obtain ⟨q, d, rfl, hm2⟩ := ht.form
 obtain ⟨p', c', rfl, -⟩ := hs'.form
 obtain ⟨q', d', rfl, -⟩ := ht'.form
 have HS := hid hs; have HT := hid ht; have HS' := hid hs'; have HT' := hid ht'; clear hs ht hs' ht'
 go_enter Tryz.func10, Tryz.ntmps10
 go_wp2_with (fail)
 refine (eqArrayS_same p p' _ c c' x.1 _ rfl (HS.out.ext (((Ext.refl w).alloc _).alloc _)) (HS'.out.ext (((Ext.refl w).alloc _).alloc _))).mono ?_
 rintro e W1 ⟨rfl, hE⟩
 have E1 : Hid (Ext w W1) := hid ((((Ext.refl w).alloc _).alloc _).trans hE)
 obtain ⟨-, x1, -, -⟩ := blk2 (hE.blk (g := w.heap.size) (blk_old (blk_at rfl)))
 obtain ⟨-, y1, -, -⟩ := blk2 (hE.blk (g := w.heap.size + 1) (blk_at (by simp)))
 clear hE
 go_wp2_with (fail)
 refine (eqPartS_same q q' _ d d' x.2 _ rfl (HT.out.ext E1.out) (HT'.out.ext E1.out)).mono ?_
 rintro e W2 ⟨rfl, hE⟩
 have E2 : Hid (Ext w W2) := hid (E1.out.trans hE)
 clear hE x1 y1
 go_wp2
 go_ret
 exact ⟨rfl, E2.out⟩
theorem eqProgram_same (v v' : Value) (ars : List Arr) (ps : List Pt) (w : World) (h : PrR w v ars ps) (h' : PrR w v' ars ps) :
  Calls Tryz.prog 10 #[v, v'] w fun e w' => e = .returned (.bool true) ∧ Ext w w' := by
 obtain ⟨u0, u1, rfl, ha, hp⟩ := h
 obtain ⟨u0', u1', rfl, ha', hp'⟩ := h'
 exact eqProgram'_same u0 u1 u0' u1' (ars, ps) w ha hp ha' hp'
end Go.Proofs.YtggpjapmhakklaaGreat
