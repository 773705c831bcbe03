/- The texts I3 I5, joined. No statement is proved here. -/
import Derived.Test.YtmhldhjpfeageabGreatK43
import Derived.Test.YtmhldhjpfeageabGreatK21
import Derived.Test.YtmhldhjpfeageabGreatK52
import Derived.BigQuiet
import Derived.Deep.QuietTactic
import Derived.Test.YtmhldhjpfeageabGreatK44
import Derived.Test.YtmhldhjpfeageabGreatK53
/- The program's find and InstanceCells. No statement is proved here. -/
namespace Go.Proofs.YtmhldhjpfeageabGreat
open Go.RowKit Go.Maps
theorem eqB_iff2 {xs ys : List Int} : eqB xs ys = true ↔ xs = ys := by simp [eqB]
def evEq (x : Ev) (i j : Int) (pt : List Int) : Bool := (((x.1.1 : Int) == i) && ((x.1.2.1 : Int) == j)) && eqB x.1.2.2 pt
theorem evEq_iff {x : Ev} {i j : Int} {pt : List Int} : evEq x i j pt = true ↔ (x.1.1 : Int) = i ∧ (x.1.2.1 : Int) = j ∧ x.1.2.2 = pt := by
 unfold evEq
 rw [Bool.and_eq_true, Bool.and_eq_true, eqB_iff2, beq_iff_eq, beq_iff_eq, and_assoc]
set_option maxHeartbeats 1000000 in
theorem same_any (i j i2 j2 : Int) (s t : Value) (xs ys : List Int) (w : World) (hs : IntsAt w s xs) (ht : IntsAt w t ys) :
  Calls Tryz.prog 94 #[.agg #[.int .i64 i, .int .i64 j, s], .agg #[.int .i64 i2, .int .i64 j2, t]] w fun e w' => e = .returned (.bool (((i == i2) && (j == j2)) && eqB xs ys)) ∧ Ext w w' := by
 obtain ⟨p, c, rfl, -, -⟩ := id hs
 obtain ⟨q, d, rfl, -, -⟩ := id ht
 have HS := Lib.hid hs; have HT := Lib.hid ht; clear hs ht
 cases h1 : (i == i2) with
 | false =>
  go_enter Tryz.func94, Tryz.ntmps94
  go_wp2
  go_ret
  exact ⟨ret_bool (by simp), ((Ext.refl w).alloc _).alloc _⟩
 | true =>
  cases h2 : (j == j2) with
  | false =>
   go_enter Tryz.func94, Tryz.ntmps94
   go_wp2
   go_ret
   exact ⟨ret_bool (by simp), ((Ext.refl w).alloc _).alloc _⟩
  | true =>
   go_enter Tryz.func94, Tryz.ntmps94
   go_wp2_with (fail)
   refine (slicesEqual_any _ _ xs ys _ (HS.out.ext (((Ext.refl w).alloc _).alloc _)) (HT.out.ext (((Ext.refl w).alloc _).alloc _))).mono ?_
   obtain ⟨eb, heb⟩ : ∃ b, eqB xs ys = b := ⟨_, rfl⟩
   rw [heb]
   rintro e W1 ⟨rfl, hE⟩
   have E1 := Lib.hid ((((Ext.refl w).alloc _).alloc _).trans hE)
   have HEB := Lib.hid heb
   clear hE heb
   go_wp2
   go_ret
   exact ⟨ret_bool (by rw [HEB.out]; rfl), E1.out⟩
set_option maxHeartbeats 1000000 in
theorem find1_any (g : Nat) (i j i2 j2 wv : Int) (s t u3 : Value) (xs ys : List Int) (w : World) (hb : w.heap[g]? = some (.cells #[.int .i64 i2, .int .i64 j2, t] 45 (0, 0))) (hs : IntsAt w s xs) (ht : IntsAt w t ys) :
  Calls Tryz.prog 93 #[.agg #[.int .i64 i, .int .i64 j, s, u3, .int .i64 wv], .pointer (some ⟨g, 0, none⟩)] w fun e w' => e = .returned (.bool (((i == i2) && (j == j2)) && eqB xs ys)) ∧ Ext w w' := by
 have HS := Lib.hid hs; have HT := Lib.hid ht; clear hs ht
 obtain ⟨z0, z1, z2⟩ := blk3 hb
 have hl := lt_of_block hb
 have HB := Lib.hid hb
 clear hb
 go_enter Tryz.func93, Tryz.ntmps93
 go_wp2_with (fail)
 refine (same_any i j i2 j2 _ _ xs ys _ (HS.out.ext ((Ext.refl w).alloc _)) (HT.out.ext ((Ext.refl w).alloc _))).mono ?_
 rintro e W1 ⟨rfl, hE⟩
 have E1 := Lib.hid (((Ext.refl w).alloc _).trans hE)
 clear hE
 go_wp2
 go_ret
 exact ⟨rfl, E1.out⟩
set_option maxHeartbeats 2000000 in
theorem indexFunc_any (B : Nat) (q : Option Addr) (M c g : Nat) (es : List Ev) (i j : Int) (t : Value) (pt : List Int) (w : World) (hM : es.length = M) (hM4 : M ≤ 1000) (hev : EvsOwn B w (.slice q M c) es) (hb : w.heap[g]? = some (.cells #[.int .i64 i, .int .i64 j, t] 45 (0, 0))) (ht : IntsAt w t pt) :
  Calls Tryz.prog 92 #[.slice q M c, .func (.func 93) #[] #[.pointer (some ⟨g, 0, none⟩)]] w fun e w' =>
   ((∃ (k : Nat) (x : Ev), e = .returned (.int .i64 k) ∧ es[k]? = some x ∧ evEq x i j pt = true) ∨ (e = .returned (.int .i64 (-1)) ∧ ∀ x ∈ es, evEq x i j pt = false)) ∧ Ext w w' := by
 have HM := Lib.hid hM; have HEV := Lib.hid hev; have HB := Lib.hid hb; have HT := Lib.hid ht
 clear hM hev hb ht
 go_enter Tryz.func92, Tryz.ntmps92
 go_wp2
 go_loopw [8] (fun iv wr => ∃ k : Nat, k ≤ M ∧ iv = .int .i64 k ∧ (∀ m x, m < k → es[m]? = some x → evEq x i j pt = false) ∧ Ext w wr) (fun iv _ => M - (intOf iv).toNat)
 case atStart => exact ⟨0, by omega, rfl, fun m x h => absurd h (by omega), Ext.refl w⟩
 case round =>
  obtain ⟨k, hk, rfl, hall, hE⟩ := hrel
  have HA := Lib.hid hall; have HE := Lib.hid hE
  clear hall hE
  by_cases hlt : k < M
  ·obtain ⟨x, hx⟩ := get_some (xs := es) (k := k) (by rw [HM.out]; exact hlt)
   obtain ⟨o, gp, d1, r, kk, rfl, hol, c0, c1, c2, c3, c4, hpt, -⟩ := (HEV.out.ext HE.out).elem hx
   have HX := Lib.hid hx; have HP := Lib.hid hpt.at
   obtain ⟨bq, hbq⟩ : ∃ b, evEq x i j pt = b := ⟨_, rfl⟩
   have HBQ := Lib.hid hbq
   have hkI : (k : Int) < (M : Int) := by omega
   clear hx hpt hbq
   go_wp2_with (fail)
   refine (find1_any g x.1.1 x.1.2.1 i j x.2.2 _ t _ x.1.2.2 pt _ (HE.out.blk HB.out) HP.out (HT.out.ext HE.out)).mono ?_
   rw [show ((((x.1.1 : Int) == i) && ((x.1.2.1 : Int) == j)) && eqB x.1.2.2 pt) = bq from HBQ.out]
   rintro e w1 ⟨rfl, hE1⟩
   have E1 := Lib.hid (HE.out.trans hE1)
   clear hE1 c0 c1 c2 c3 c4
   cases bq with
   | true =>
    go_wp2
    go_ret
    exact ⟨.inl ⟨k, x, rfl, HX.out, HBQ.out⟩, E1.out⟩
   | false =>
    go_wp2
    go_roundw
    case rel =>
     refine ⟨k + 1, by omega, by go_num, fun m y hm hy => ?_, E1.out⟩
     by_cases e : m = k
     ·subst e; rw [HX.out] at hy; cases hy; exact HBQ.out
     ·exact HA.out m y (by omega) hy
    case measure => simp [intOf]; omega
  ·obtain rfl : k = M := by omega
   go_wp2
   go_ret
   refine ⟨.inr ⟨rfl, fun x hx => ?_⟩, HE.out⟩
   obtain ⟨m, hm⟩ := List.mem_iff_getElem?.1 hx
   exact HA.out m x (by have := (List.getElem?_eq_some_iff.1 hm).1; have := HM.out; omega) hm
def EvV (B : Nat) (w : World) (v : Value) (x : Ev) : Prop := ∃ (g c1 : Nat) (r : Option Addr) (k : Nat), v = .agg #[.int .i64 (x.1.1 : Int), .int .i64 (x.1.2.1 : Int), .slice (some ⟨g, 0, none⟩) x.1.2.2.length c1, .slice r x.2.1.length k, .int .i64 x.2.2] ∧ IntsOwn B w (.slice (some ⟨g, 0, none⟩) x.1.2.2.length c1) x.1.2.2 ∧ IntsOwn B w (.slice r x.2.1.length k) x.2.1
def noEv : Value := .agg #[.int .i64 0, .int .i64 0, .slice none 0 0, .slice none 0 0, .int .i64 0]
set_option maxRecDepth 100000 in
set_option maxHeartbeats 2000000 in
theorem find_any (B : Nat) (mo : Option Nat) (T : Int) (q1 : Option Addr) (n1 c1 : Nat) (q : Option Addr) (M c : Nat) (es : List Ev) (i j : Int) (pp : Option Addr) (n d : Nat) (pt : List Int) (w : World) (hM : es.length = M) (hM4 : M ≤ 1000) (hev : EvsOwn B w (.slice q M c) es) (ht : IntsAt w (.slice pp n d) pt) :
  Calls Tryz.prog 57 #[.agg #[.map mo, .int .i64 T, .slice q1 n1 c1, .slice q M c], .agg #[.int .i64 i, .int .i64 j, .slice pp n d]] w fun e w' =>
   ((∃ (v : Value) (x : Ev), e = .returned (.tuple #[v, .bool true]) ∧ x ∈ es ∧ evEq x i j pt = true ∧ EvV B w' v x) ∨ (e = .returned (.tuple #[noEv, .bool false]) ∧ ∀ x ∈ es, evEq x i j pt = false)) ∧ Ext w w' := by
 have HM := Lib.hid hM; have HEV := Lib.hid hev; have HT := Lib.hid ht
 clear hM hev ht
 go_enter Tryz.func57, Tryz.ntmps57
 go_wp2_with (fail)
 obtain ⟨W0, hW0⟩ : ∃ W0, (((w.alloc (.cells #[.map mo, .int .i64 T, .slice q1 n1 c1, .slice q M c] 75)).alloc (.cells #[.int .i64 i, .int .i64 j, .slice pp n d] 45)).alloc (.cells #[.int .i64 0, .int .i64 0, .slice none 0 0, .slice none 0 0, .int .i64 0] 79)) = W0 := ⟨_, rfl⟩
 have E0 : Hid (Ext w W0) := Lib.hid (by rw [← hW0]; exact (((Ext.refl w).alloc _).alloc _).alloc _)
 have A0 := Lib.hid (show W0.heap[w.heap.size]? = some (.cells #[.map mo, .int .i64 T, .slice q1 n1 c1, .slice q M c] 75 (0, 0)) by rw [← hW0]; exact blk_old (blk_old (blk_at rfl)))
 have C0 := Lib.hid (show W0.heap[w.heap.size + 1]? = some (.cells #[.int .i64 i, .int .i64 j, .slice pp n d] 45 (0, 0)) by rw [← hW0]; exact blk_old (blk_at (by simp)))
 have R0 := Lib.hid (show W0.heap[w.heap.size + 1 + 1]? = some (.cells #[.int .i64 0, .int .i64 0, .slice none 0 0, .slice none 0 0, .int .i64 0] 79 (0, 0)) by rw [← hW0]; exact blk_at (by simp))
 try rw [hW0]
 clear hW0
 refine (indexFunc_any B q M c (w.heap.size + 1) es i j _ pt _ HM.out hM4 (HEV.out.ext E0.out) C0.out (HT.out.ext E0.out)).mono ?_
 rintro e w1 ⟨hcase, hE⟩
 have E1 := Lib.hid (E0.out.trans hE); have A1 := Lib.hid (hE.blk A0.out); have R1 := Lib.hid (hE.blk R0.out)
 clear hE
 rcases hcase with ⟨k, x, rfl, hx, hq⟩ | ⟨rfl, hall⟩
 ·obtain ⟨o, gp, d1, r, kk, rfl, hol, c0, c1', c2', c3, c4, hpt, hrd⟩ := HEV.out.elem hx
  replace c0 := E1.out.keep c0; replace c1' := E1.out.keep c1'; replace c2' := E1.out.keep c2'; replace c3 := E1.out.keep c3; replace c4 := E1.out.keep c4
  have hol1 : o < w1.heap.size := Nat.lt_of_lt_of_le hol E1.out.size_le
  have hkM : (k : Int) < (M : Int) := by have := (List.getElem?_eq_some_iff.1 hx).1; have := HM.out; omega
  have hk0 : decide ((k : Int) < 0) = false := by simp
  obtain ⟨y0, y1, y2, y3, -⟩ := blk4f A1.out
  obtain ⟨r0, r1, r2, r3, r4, rf⟩ := blk5e R1.out
  have hl1 := lt_of_block R1.out
  have rf0 := rf 0; have rf1 := rf 1; have rf2 := rf 2; have rf3 := rf 3; have rf4 := rf 4
  have HX := Lib.hid hx; have HQ := Lib.hid hq; have HP := Lib.hid hpt; have HR := Lib.hid hrd
  clear hx hq hpt hrd rf
  go_wp2
  obtain ⟨WF, hWF⟩ : ∃ WF, (((((w1.setCell ⟨w.heap.size + 1 + 1, 0, none⟩ (.int .i64 (x.1.1 : Int))).setCell ⟨w.heap.size + 1 + 1, 1, none⟩ (.int .i64 (x.1.2.1 : Int))).setCell ⟨w.heap.size + 1 + 1, 2, none⟩ (.slice (some ⟨gp, 0, none⟩) x.1.2.2.length d1)).setCell ⟨w.heap.size + 1 + 1, 3, none⟩ (.slice r x.2.1.length kk)).setCell ⟨w.heap.size + 1 + 1, 4, none⟩ (.int .i64 x.2.2)) = WF := ⟨_, rfl⟩
  have EF : Ext w WF := by
   rw [← hWF]
   repeat (refine Ext.setCell ?_ (by simp <;> omega) _)
   exact E1.out
  obtain ⟨s0, s1, s2, s3, s4, -⟩ := blk5e (W := WF) (g := w.heap.size + 1 + 1) (by rw [← hWF]; exact blk5_set R1.out)
  rw [hWF]
  clear hWF
  exact bodyPost_ret (v := .tuple #[.agg #[.int .i64 (x.1.1 : Int), .int .i64 (x.1.2.1 : Int), .slice (some ⟨gp, 0, none⟩) x.1.2.2.length d1, .slice r x.2.1.length kk, .int .i64 x.2.2], .bool true]) (by simp [results, Tryz.results57, go_sem, s0, s1, s2, s3, s4]) rfl ⟨.inl ⟨_, x, rfl, List.mem_of_getElem? HX.out, HQ.out, ⟨gp, d1, r, kk, rfl, HP.out.ext EF, HR.out.ext EF⟩⟩, EF⟩
 ·obtain ⟨r0, r1, r2, r3, r4, rf⟩ := blk5e R1.out
  have hl1 := lt_of_block R1.out
  have rf0 := rf 0; have rf1 := rf 1; have rf2 := rf 2; have rf3 := rf 3; have rf4 := rf 4
  have HA := Lib.hid hall
  clear hall rf
  go_wp2
  obtain ⟨WF, hWF⟩ : ∃ WF, (((((w1.setCell ⟨w.heap.size + 1 + 1, 0, none⟩ (.int .i64 0)).setCell ⟨w.heap.size + 1 + 1, 1, none⟩ (.int .i64 0)).setCell ⟨w.heap.size + 1 + 1, 2, none⟩ (.slice none 0 0)).setCell ⟨w.heap.size + 1 + 1, 3, none⟩ (.slice none 0 0)).setCell ⟨w.heap.size + 1 + 1, 4, none⟩ (.int .i64 0)) = WF := ⟨_, rfl⟩
  have EF : Ext w WF := by
   rw [← hWF]
   repeat (refine Ext.setCell ?_ (by simp <;> omega) _)
   exact E1.out
  obtain ⟨s0, s1, s2, s3, s4, -⟩ := blk5e (W := WF) (g := w.heap.size + 1 + 1) (by rw [← hWF]; exact blk5_set R1.out)
  rw [hWF]
  clear hWF
  exact bodyPost_ret (v := .tuple #[noEv, .bool false]) (by simp [results, Tryz.results57, go_sem, noEv, s0, s1, s2, s3, s4]) rfl ⟨.inr ⟨rfl, HA.out⟩, EF⟩
end Go.Proofs.YtmhldhjpfeageabGreat
/- The program's InstanceValue: a machine's value of an event. No statement is proved here. -/
namespace Go.Proofs.YtmhldhjpfeageabGreat
open Go.RowKit Go.Maps
theorem FfL.at2 {C : Nat → Prop} {B : Nat} {w1 : World} {mo : Option Nat} {T : Int} {B' : Nat} {W : World} {v : Value} {ss : List St} {j : Nat} {s : St} (h : FfL C B w1 mo T B' W v ss) (hj : ss[j]? = some s) :
  ∃ g c f, v = .slice (some ⟨g, 0, none⟩) ss.length c ∧ g < W.heap.size ∧ W.cell? ⟨g, j, none⟩ = some f ∧ FnR C B w1 mo T W f s.2.2 := by
 obtain ⟨vs, ho, he⟩ := h
 obtain ⟨f, h1, h2⟩ := he j s hj
 have ho2 := ho.2
 rcases ho2 with ⟨e, hz⟩ | ⟨g, cap, cur, e, _, hg, _⟩
 ·have := (List.getElem?_eq_some_iff.1 hj).1; omega
 ·subst e
  have h := World.ownsRow.cells ho (g := g) rfl j f h1
  have hadd : (⟨g, 0, none⟩ : Addr).add j = ⟨g, j, none⟩ := by unfold Addr.add; split <;> simp_all
  rw [hadd] at h
  exact ⟨g, _, f, rfl, lt_of_block hg, h, h2⟩
theorem FsL.at2 {C : Nat → Prop} {B : Nat} {w1 : World} {mo : Option Nat} {T : Int} {B' : Nat} {W : World} {p : Option Addr} {n c : Nat} {ps : List Pt} {i j : Nat} {x : Pt} {s : St} (h : FsL C B w1 mo T B' W (.slice p n c) ps) (hi : ps[i]? = some x) (hj : x.2[j]? = some s) :
  ∃ g g2 c2 f, p = some ⟨g, 0, none⟩ ∧ g < W.heap.size ∧ W.cell? ⟨g, i, none⟩ = some (.slice (some ⟨g2, 0, none⟩) x.2.length c2) ∧ g2 < W.heap.size ∧ W.cell? ⟨g2, j, none⟩ = some f ∧ FnR C B w1 mo T W f s.2.2 := by
 obtain ⟨vs, ho, he⟩ := h
 obtain ⟨r, h1, h2, -⟩ := he i x hi
 obtain ⟨g2, c2, f, rfl, h4, h5, h6⟩ := h2.at2 hj
 have ho2 := ho.2
 rcases ho2 with ⟨e, hz⟩ | ⟨g, cap, cur, e, _, hg, _⟩
 ·have := (List.getElem?_eq_some_iff.1 hi).1; omega
 ·cases e
  have h := World.ownsRow.cells ho (g := g) rfl i _ h1
  have hadd : (⟨g, 0, none⟩ : Addr).add i = ⟨g, i, none⟩ := by unfold Addr.add; split <;> simp_all
  rw [hadd] at h
  exact ⟨g, g2, c2, f, rfl, lt_of_block hg, h, h4, h5, h6⟩
set_option linter.unusedVariables false in
set_option linter.unusedSimpArgs false in
set_option maxRecDepth 100000 in
set_option maxHeartbeats 4000000 in
theorem value_any {L : Nat} {W : World} {v : Value} {ars : List Arr} {ps : List Pt} {xs : List Int} (hM : MachR L W v ars ps xs) (hmb : memB ars ps xs = true) {y : InsM} (hy : y ∈ insM ps) (g d1 : Nat) (r : Option Addr) (nr kk : Nat) (wv : Int) (hpt : IntsAt W (.slice (some ⟨g, 0, none⟩) y.1.2.2.length d1) y.1.2.2) :
  Calls Tryz.prog 61 #[v, .agg #[.int .i64 (y.1.1 : Int), .int .i64 (y.1.2.1 : Int), .slice (some ⟨g, 0, none⟩) y.1.2.2.length d1, .slice r nr kk, .int .i64 wv]] W fun e w' => e = .returned (.int .i64 (evX ars xs y.1.2.2 5 y.2.2.2)) ∧ Ext W w' := by
 obtain ⟨Z, B, M0, Lo, Bm, D, q1, c1, q2, c2, pm, cm, pf, cf, rfl, hom, hmi, hev, hZ, hLM, hZM, hmem, hml, hfs⟩ := hM
 obtain ⟨hvals, hprog, hlen⟩ := memB_parts hmb
 obtain ⟨p, hp1, hp2, hp3⟩ := insM_mem.1 hy
 obtain ⟨hab, -, hpo, -⟩ := progB_inv hprog
 have hpB := hpo p (List.mem_of_getElem? hp1)
 simp only [partB, Bool.and_eq_true, decide_eq_true_eq, List.all_eq_true, stOkB] at hpB
 obtain ⟨hnpB, ⟨hb1, hb4⟩, hall⟩ := hpB
 have hst := hall y.2 (List.mem_of_getElem? hp3)
 have hcell := (hst.2 _ hp2).1
 have hok : ∀ a ∈ ars, arrOkB a = true := by have h := hab; simp only [arrsB, Bool.and_eq_true, List.all_eq_true] at h; exact h.1
 obtain ⟨gf, g2, e2, f, rfl, hgf, k0, hg2, k1, hfn⟩ := hfs.at2 hp1 hp3
 obtain ⟨n, hn⟩ : ∃ n, xs.length = n := ⟨_, rfl⟩
 obtain ⟨np, hnp⟩ : ∃ n, ps.length = n := ⟨_, rfl⟩
 obtain ⟨nb, hnb⟩ : ∃ n, p.2.length = n := ⟨_, rfl⟩
 have HC : Hid (∀ W', Ext W W' → FnC ars (.slice pm n cm) (.slice (some ⟨g, 0, none⟩) y.1.2.2.length d1) xs y.1.2.2 5 f y.2.2.2 W') := Lib.hid (fun W' hW =>
  fn_any (p.1.length : Int) Z D ars pm n cm xs _ y.1.2.2 hab (Ext.refl Z) hmi hom hn hvals (hst.2 _ hp2).2 5 f y.2.2.2 W' (validB_shape hst.1) (rdOk_of hok hcell (by rw [← hlen, hn])) (hZ.trans hW) (hfn.ext hW) (by have h := (hmem.at).ext hW; rwa [hn] at h) (hpt.ext hW))
 obtain ⟨kf, cap, rfl, hent, -⟩ := HC.out W (Ext.refl W)
 have HCC : Hid (∀ W', Ext W W' → Calls Tryz.prog kf (#[.slice pm n cm, .slice (some ⟨g, 0, none⟩) y.1.2.2.length d1] ++ cap) W' fun r W'' => r = .returned (.int .i64 (evX ars xs y.1.2.2 5 y.2.2.2)) ∧ Ext W' W'') := Lib.hid (fun W' hW => by
  obtain ⟨k2, c2, he, -, h2⟩ := HC.out W' hW
  cases he
  exact h2)
 have hen : ∀ (a : Array Value) (w : World), Sem.run Tryz.prog (callFunc kf a) w = .ok (.enter kf a) w := hent
 have hi1 : (y.1.1 : Int) < (np : Int) := by have := (List.getElem?_eq_some_iff.1 hp1).1; omega
 have hj1 : (y.1.2.1 : Int) < (nb : Int) := by have := (List.getElem?_eq_some_iff.1 hp3).1; omega
 rw [hnb] at k0
 rw [hn, hnp]
 obtain ⟨ne, hne⟩ : ∃ n, (evsOf ars ps).length = n := ⟨_, rfl⟩
 obtain ⟨T, hT⟩ : ∃ n, totN ars = n := ⟨_, rfl⟩
 rw [hne, hT]
 obtain ⟨z, hz⟩ : ∃ z, evX ars xs y.1.2.2 5 y.2.2.2 = z := ⟨_, rfl⟩
 rw [hz] at HCC ⊢
 obtain ⟨lp, hlp⟩ : ∃ n, y.1.2.2.length = n := ⟨_, rfl⟩
 rw [hlp] at HCC ⊢
 obtain ⟨ii, hii⟩ : ∃ n, y.1.1 = n := ⟨_, rfl⟩
 obtain ⟨jj, hjj⟩ : ∃ n, y.1.2.1 = n := ⟨_, rfl⟩
 rw [hii] at k0 hi1 ⊢
 rw [hjj] at k1 hj1 ⊢
 clear hom hmi hev hZ hLM hZM hmem hml hfs hmb hvals hprog hlen hp1 hp2 hp3 hab hpo hnpB hb1 hb4 hall hst hcell hok hfn hent HC hnb hnp hn hne hT hz hlp hii hjj hy hpt
 go_enter Tryz.func61, Tryz.ntmps61
 go_wp2
 obtain ⟨W1, hW1⟩ : ∃ W1, ((W.alloc (.cells #[.map (some Bm), .int .i64 T, .slice q1 np c1, .slice q2 ne c2, .slice pm n cm, .slice (some ⟨gf, 0, none⟩) np cf] 106)).alloc (.cells #[.int .i64 (ii : Int), .int .i64 (jj : Int), .slice (some ⟨g, 0, none⟩) lp d1, .slice r nr kk, .int .i64 wv] 79)) = W1 := ⟨_, rfl⟩
 have E1 : Hid (Ext W W1) := Lib.hid (by rw [← hW1]; exact ((Ext.refl W).alloc _).alloc _)
 have A1 := Lib.hid (show W1.heap[W.heap.size]? = some (.cells #[.map (some Bm), .int .i64 T, .slice q1 np c1, .slice q2 ne c2, .slice pm n cm, .slice (some ⟨gf, 0, none⟩) np cf] 106 (0, 0)) by rw [← hW1]; exact blk_old (blk_at rfl))
 have B1 := Lib.hid (show W1.heap[W.heap.size + 1]? = some (.cells #[.int .i64 (ii : Int), .int .i64 (jj : Int), .slice (some ⟨g, 0, none⟩) lp d1, .slice r nr kk, .int .i64 wv] 79 (0, 0)) by rw [← hW1]; exact blk_at (by simp))
 try rw [hW1]
 clear hW1
 obtain ⟨-, -, -, -, a4, a5, -⟩ := blk6 A1.out
 obtain ⟨b0, b1, b2, -⟩ := blk5e B1.out
 replace k0 := E1.out.keep k0
 replace k1 := E1.out.keep k1
 go_region_held3 (fun X => X.cell? ⟨W.heap.size, 4, none⟩ = some (.slice pm n cm) ∧ X.cell? ⟨W.heap.size, 5, none⟩ = some (.slice (some ⟨gf, 0, none⟩) np cf) ∧ X.cell? ⟨W.heap.size + 1, 0, none⟩ = some (.int .i64 (ii : Int)) ∧ X.cell? ⟨W.heap.size + 1, 1, none⟩ = some (.int .i64 (jj : Int)) ∧ X.cell? ⟨W.heap.size + 1, 2, none⟩ = some (.slice (some ⟨g, 0, none⟩) lp d1) ∧ X.cell? ⟨gf, ii, none⟩ = some (.slice (some ⟨g2, 0, none⟩) nb e2) ∧ X.cell? ⟨g2, jj, none⟩ = some (.func (.func kf) #[] cap))
  (first | exact ⟨a4, a5, b0, b1, b2, k0, k1⟩ | exact ⟨g3.keep a4, g3.keep a5, g3.keep b0, g3.keep b1, g3.keep b2, g3.keep k0, g3.keep k1⟩ | fail)
  (first | ((with_reducible refine (HCC.out _ (E1.out.trans (Ext.refl W1).drew)).mono ?_); rintro e w2 ⟨rfl, hE2⟩; have g3 := (Ext.refl W1).drew.trans hE2) | fail)
 have E2 := Lib.hid (E1.out.trans g3)
 clear g3 hE2
 go_wp2
 go_ret
 exact ⟨rfl, E2.out⟩
theorem iv_no {ars : List Arr} {ps : List Pt} {xs : List Int} {i j : Int} {pt : List Int} (h : ivOk ars ps xs i j pt = false) : ivV ars ps xs i j pt = 0 := by unfold ivV; rw [h]; rfl
theorem iv_at {ars : List Arr} {ps : List Pt} {xs : List Int} (hmb : memB ars ps xs = true) {i j : Int} {pt : List Int} {x : Ev} (hx : x ∈ evsOf ars ps) (hq : evEq x i j pt = true) :
  ∃ y ∈ insM ps, x.1 = y.1 ∧ ivOk ars ps xs i j pt = true ∧ ivV ars ps xs i j pt = evX ars xs y.1.2.2 5 y.2.2.2 := by
 obtain ⟨-, hprog, -⟩ := memB_parts hmb
 obtain ⟨y, hy, rfl⟩ := List.mem_map.1 hx
 obtain ⟨e1, e2, e3⟩ := evEq_iff.1 hq
 have hok : ivOk ars ps xs i j pt = true := by unfold ivOk; rw [hmb, (atB_iff hprog).2 ⟨y, hy, e1, e2, e3⟩]; rfl
 have hs : stAt ps i j = y.2 := by rw [← e1, ← e2]; exact stAt_ins hy
 exact ⟨y, hy, rfl, hok, by unfold ivV; rw [if_pos hok, hs, ← e3]; rfl⟩
theorem iv_not {ars : List Arr} {ps : List Pt} {xs : List Int} {i j : Int} {pt : List Int} (h : memB ars ps xs = true → ∀ x ∈ evsOf ars ps, evEq x i j pt = false) : ivOk ars ps xs i j pt = false := by
 cases hok : ivOk ars ps xs i j pt with
 | false => rfl
 | true =>
  have h0 := hok
  unfold ivOk at h0
  rw [Bool.and_eq_true] at h0
  obtain ⟨y, hy, e1, e2, e3⟩ := (atB_iff (memB_parts h0.1).2.1).1 h0.2
  have := h h0.1 (evOf ars y) (List.mem_map.2 ⟨y, hy, rfl⟩)
  rw [evEq_iff.2 ⟨e1, e2, e3⟩] at this
  cases this
theorem MachR.ext {L : Nat} {W W' : World} {v : Value} {ars : List Arr} {ps : List Pt} {xs : List Int} (h : MachR L W v ars ps xs) (hE : Ext W W') : MachR L W' v ars ps xs := by
 obtain ⟨Z, B, M0, Lo, Bm, D, q1, c1, q2, c2, pm, cm, pf, cf, hv, hom, hmi, hev, hZ, hLM, hZM, hmem, hml, hfs⟩ := h
 obtain ⟨vs, h1, h2⟩ := hfs
 exact ⟨Z, B, M0, Lo, Bm, D, q1, c1, q2, c2, pm, cm, pf, cf, hv, hom, hmi, hev, hZ.trans hE, hLM, hZM, hmem.ext hE, hml, ⟨vs, ownsRow_ext h1 hE, fun i x hi => by obtain ⟨f, a, b, c⟩ := h2 i x hi; exact ⟨f, a, b.ext hE, c⟩⟩⟩
set_option linter.unusedVariables false in
set_option linter.unusedSimpArgs false in
set_option maxRecDepth 100000 in
set_option maxHeartbeats 4000000 in
theorem InstanceValue_any (v : Value) (ars : List Arr) (ps : List Pt) (pm : Option Addr) (m cm : Nat) (xs : List Int) (i j : Int) (pp : Option Addr) (n c : Nat) (pt : List Int) (w : World) (hp : PrR w v ars ps) (hm : xs.length = m) (hs : IntsAt w (.slice pm m cm) xs) (hi : IntsAt w (.slice pp n c) pt) (_ : n ≤ c) :
  Calls Tryz.prog 33 #[v, .slice pm m cm, .agg #[.int .i64 i, .int .i64 j, .slice pp n c]] w fun e w' => e = .returned (.tuple #[.int .i64 (ivV ars ps xs i j pt), .bool (ivOk ars ps xs i j pt)]) ∧ Ext w w' := by
 obtain ⟨qa, ca, qp, cp, rfl, -, -, -, -⟩ := hp.parts
 have HP := Lib.hid hp; have HI := Lib.hid hi; have HM := Lib.hid hm; have HS := Lib.hid hs
 obtain ⟨ans, hans⟩ : ∃ a, ivV ars ps xs i j pt = a := ⟨_, rfl⟩
 obtain ⟨anb, hanb⟩ : ∃ a, ivOk ars ps xs i j pt = a := ⟨_, rfl⟩
 rw [hans, hanb]
 have HA := Lib.hid hans; have HB := Lib.hid hanb
 clear hp hi hm hs hans hanb
 go_enter Tryz.func33, Tryz.ntmps33
 go_wp2_with (fail)
 obtain ⟨W1, hW1⟩ : ∃ W1, ((w.alloc (.cells #[.slice qa ars.length ca, .slice qp ps.length cp] 32)).alloc (.cells #[.int .i64 i, .int .i64 j, .slice pp n c] 45)) = W1 := ⟨_, rfl⟩
 have E1 : Hid (Ext w W1) := Lib.hid (by rw [← hW1]; exact ((Ext.refl w).alloc _).alloc _)
 have C1 := Lib.hid (show W1.heap[w.heap.size + 1]? = some (.cells #[.int .i64 i, .int .i64 j, .slice pp n c] 45 (0, 0)) by rw [← hW1]; exact blk_at (by simp))
 try rw [hW1]
 clear hW1
 refine (machineOf_any _ ars ps pm m cm xs _ (HP.out.ext E1.out) HM.out (HS.out.ext E1.out)).mono ?_
 rintro e w1 ⟨⟨v, rfl, h0, h1⟩, hE⟩
 have E2 := Lib.hid (E1.out.trans hE); have C2 := Lib.hid (hE.blk C1.out)
 have hform : ∃ mo T q1 n1 c1 q2 M c2 q3 n3 c3 q4 n4 c4 B0, ∃ es : List Ev, v = .agg #[.map mo, .int .i64 T, .slice q1 n1 c1, .slice q2 M c2, .slice q3 n3 c3, .slice q4 n4 c4] ∧ es.length = M ∧ M ≤ 120 ∧ EvsOwn B0 w1 (.slice q2 M c2) es ∧ (∀ x ∈ es, memB ars ps xs = true ∧ x ∈ evsOf ars ps) ∧ (memB ars ps xs = true → es = evsOf ars ps) := by
  cases hb : memB ars ps xs with
  | false => exact ⟨_, _, _, _, _, _, _, _, _, _, _, _, _, _, 0, [], h0 hb, rfl, by omega, ⟨[], World.ownsRow_nil _ _ _ _, fun i x h => by simp at h⟩, by simp, fun h => by cases h⟩
  | true =>
   obtain ⟨Z, B, M0, Lo, Bm, D, q1, c1, q2, c2, pm, cm, pf, cf, hv, -, -, hev, hZ, -⟩ := h1 hb
   exact ⟨_, _, _, _, _, _, _, _, _, _, _, _, _, _, B, evsOf ars ps, hv, rfl, by have := insM_120 (memB_parts hb).2.1; simpa [evsOf] using this, hev.ext hZ, fun x hx => ⟨rfl, hx⟩, fun _ => rfl⟩
 obtain ⟨mo, T, q1, n1, c1, q2, M, c2, q3, n3, c3, q4, n4, c4, B0, es, rfl, hM, hM120, hev, hmem, hall⟩ := hform
 have HMR := Lib.hid h1; have HML := Lib.hid hM; have HEV := Lib.hid hev; have HME := Lib.hid hmem; have HALL := Lib.hid hall
 obtain ⟨mb, hmb⟩ : ∃ b, memB ars ps xs = b := ⟨_, rfl⟩
 rw [hmb]
 clear h0 h1 hE hM hev hmem hall hmb
 have hl2 := lt_of_block C2.out
 obtain ⟨z0, z1, z2⟩ := blk3 C2.out
 go_wp2_with (fail)
 refine (find_any B0 mo T q1 n1 c1 q2 M c2 es i j pp n c pt _ HML.out (by omega) (HEV.out.ext ((Ext.refl w1).alloc _)) (HI.out.ext (E2.out.alloc _))).mono ?_
 rintro e w3 ⟨hcase, hE⟩
 have X3 := Lib.hid (((Ext.refl w1).alloc (.cells #[.map mo, .int .i64 T, .slice q1 n1 c1, .slice q2 M c2, .slice q3 n3 c3, .slice q4 n4 c4] 106)).trans hE)
 have K3 := Lib.hid (hE.blk (blk_at (w := w1) (o := .cells #[.map mo, .int .i64 T, .slice q1 n1 c1, .slice q2 M c2, .slice q3 n3 c3, .slice q4 n4 c4] 106) rfl))
 clear hE z0 z1 z2 hl2
 rcases hcase with ⟨v, x, rfl, hx, hq, g, d1, r, kk, rfl, hpt, -⟩ | ⟨rfl, hno⟩
 ·obtain ⟨hmb, hxe⟩ := HME.out x hx
  obtain ⟨y, hy, hxy, h1, h2⟩ := iv_at hmb hxe hq
  rw [HB.out] at h1
  rw [HA.out] at h2
  rw [hxy] at hpt ⊢
  have HV := Lib.hid (fun W' (hW : Ext w3 W') => value_any ((HMR.out hmb).ext (X3.out.trans hW)) hmb hy g d1 r x.2.1.length kk x.2.2 (hpt.at.ext hW))
  subst h1
  rw [← h2] at HV
  obtain ⟨lr, hlr⟩ : ∃ n, x.2.1.length = n := ⟨_, rfl⟩
  obtain ⟨wv, hwv⟩ : ∃ n, x.2.2 = n := ⟨_, rfl⟩
  rw [hlr, hwv] at HV ⊢
  obtain ⟨lp, hlp⟩ : ∃ n, y.1.2.2.length = n := ⟨_, rfl⟩
  rw [hlp] at HV ⊢
  obtain ⟨ii, hii⟩ : ∃ n, y.1.1 = n := ⟨_, rfl⟩
  obtain ⟨jj, hjj⟩ : ∃ n, y.1.2.1 = n := ⟨_, rfl⟩
  rw [hii, hjj] at HV ⊢
  clear hmb hxe hx hq hy hxy h2 hpt hlr hwv hlp hii hjj
  have hl3 := lt_of_block K3.out
  obtain ⟨s0, s1, s2, s3, s4, s5, -⟩ := blk6 K3.out
  go_wp2_with (fail)
  refine (HV.out _ ((Ext.refl w3).alloc _)).mono ?_
  rintro e w4 ⟨rfl, hE4⟩
  have E4 := Lib.hid ((E2.out.trans (X3.out.alloc (.cells #[.int .i64 (ii : Int), .int .i64 (jj : Int), .slice (some ⟨g, 0, none⟩) lp d1, .slice r lr kk, .int .i64 wv] 79))).trans hE4)
  clear hE4
  go_wp2
  exact bodyPost_ret (v := .tuple #[.int .i64 ans, .bool true]) (by simp [results, Tryz.results33, go_sem]) rfl ⟨rfl, E4.out⟩
 ·have h1 := iv_not (ars := ars) (ps := ps) (xs := xs) (i := i) (j := j) (pt := pt) (fun h x hx => hno x (by rw [HALL.out h]; exact hx))
  have h2 := iv_no h1
  rw [HB.out] at h1
  rw [HA.out] at h2
  subst h1
  subst h2
  clear hno
  unfold noEv
  go_wp2
  exact bodyPost_ret (v := .tuple #[.int .i64 0, .bool false]) (by simp [results, Tryz.results33, go_sem]) rfl ⟨rfl, (E2.out.trans X3.out).alloc _⟩
end Go.Proofs.YtmhldhjpfeageabGreat
