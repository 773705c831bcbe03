/- The texts I4 I1, joined. No statement is proved here. -/
import Derived.Test.YtmhldhjpfeageabGreatK43
import Derived.Test.YtmhldhjpfeageabGreatK46
import Derived.Test.YtmhldhjpfeageabGreatK50
import Derived.Test.YtmhldhjpfeageabGreatK51
import Derived.Test.YtmhldhjpfeageabGreatK32
/- The model's InstanceValue. No statement is proved here. -/
namespace Go.Proofs.YtmhldhjpfeageabGreat
open Go.RowKit Go.Maps
def ivOk (ars : List Arr) (ps : List Pt) (xs : List Int) (i j : Int) (pt : List Int) : Bool := memB ars ps xs && atB ps i j pt
def ivV (ars : List Arr) (ps : List Pt) (xs : List Int) (i j : Int) (pt : List Int) : Int := if ivOk ars ps xs i j pt = true then evX ars xs pt 5 (stAt ps i j).2.2 else 0
theorem rdOk_of {ars : List Arr} {s : St} {pt : List Int} {m : Nat} (hok : ∀ a ∈ ars, arrOkB a = true) (h : cellsOk ars s pt = true) (hm : (m : Int) = totN ars) : rdOk ars m pt 5 s.2.2 := by
 intro a ha
 simp only [cellsOk, Bool.and_eq_true, List.all_eq_true, decide_eq_true_eq] at h
 have h0 := h.1 (cellI a.1 a.2 pt 0 ars) (List.mem_map.2 ⟨a, ha, rfl⟩)
 have h1 := cellI_bd a.1 a.2 pt (base := 0) hok
 omega
theorem validB_shape {arr : ByteArray} {subs : List Aff} {e : Ex} {d : Int} (h : validB arr subs e d = true) : shapeB 5 e d = true := by
 simp only [validB, Bool.and_eq_true] at h
 exact h.2.2.2.1
theorem memB_parts {ars : List Arr} {ps : List Pt} {xs : List Int} (h : memB ars ps xs = true) : valsB xs = true ∧ progB ars ps = true ∧ (xs.length : Int) = totN ars := by
 simp only [memB, Bool.and_eq_true, decide_eq_true_eq] at h
 exact h
set_option linter.unusedVariables false in
set_option linter.unusedSimpArgs false in
set_option maxRecDepth 100000 in
set_option maxHeartbeats 4000000 in
theorem specInstanceValue_any (v : Value) (ars : List Arr) (ps : List Pt) (pm : Option Addr) (m cm : Nat) (xs : List Int) (i j : Int) (pp : Option Addr) (n c : Nat) (pt : List Int) (w : World) (hp : PrR w v ars ps) (hm : xs.length = m) (hs : IntsAt w (.slice pm m cm) xs) (hi : IntsAt w (.slice pp n c) pt) (hc : n ≤ c) :
  Calls Tryz.prog 32 #[v, .slice pm m cm, .agg #[.int .i64 i, .int .i64 j, .slice pp n c]] w fun e w' => e = .returned (.tuple #[.int .i64 (ivV ars ps xs i j pt), .bool (ivOk ars ps xs i j pt)]) ∧ Ext w w' := by
 obtain ⟨q1, c1, q2, c2, rfl, la, lp, ha, hps⟩ := hp.parts
 have HP := Lib.hid hp; have HA := Lib.hid ha; have HPS := Lib.hid hps; have HI := Lib.hid hi; have HM := Lib.hid hm; have HS := Lib.hid hs
 obtain ⟨na, hna⟩ : ∃ m, ars.length = m := ⟨_, rfl⟩
 obtain ⟨np, hnp⟩ : ∃ m, ps.length = m := ⟨_, rfl⟩
 rw [hna] at la HA HP ⊢
 rw [hnp] at lp HPS HP ⊢
 have HNA := Lib.hid hna; have HNP := Lib.hid hnp
 obtain ⟨pb, hpb⟩ : ∃ b, memB ars ps xs = b := ⟨_, rfl⟩
 obtain ⟨ab, hab⟩ : ∃ b, atB ps i j pt = b := ⟨_, rfl⟩
 have HPB := Lib.hid hpb; have HAB := Lib.hid hab
 have HOKV : Hid (ivOk ars ps xs i j pt = (pb && ab)) := Lib.hid (by unfold ivOk; rw [hpb, hab])
 clear hp ha hps hi hna hnp hpb hab hm hs
 go_enter Tryz.func32, Tryz.ntmps32
 go_wp2_with (fail)
 obtain ⟨W1, hW1⟩ : ∃ W1, ((w.alloc (.cells #[.slice q1 na c1, .slice q2 np c2] 32)).alloc (.cells #[.int .i64 i, .int .i64 j, .slice pp n c] 45)) = W1 := ⟨_, rfl⟩
 have E1 : Hid (Ext w W1) := Lib.hid (by rw [← hW1]; exact ((Ext.refl w).alloc _).alloc _)
 have B1 := Lib.hid (show W1.heap[w.heap.size]? = some (.cells #[.slice q1 na c1, .slice q2 np c2] 32 (0, 0)) by rw [← hW1]; exact blk_old (blk_at rfl))
 have C1 := Lib.hid (show W1.heap[w.heap.size + 1]? = some (.cells #[.int .i64 i, .int .i64 j, .slice pp n c] 45 (0, 0)) by rw [← hW1]; exact blk_at (by simp))
 try rw [hW1]
 clear hW1
 refine (specMemoryValid_any _ ars ps pm m cm xs _ (HP.out.ext E1.out) HM.out (HS.out.ext E1.out)).mono ?_
 rw [HPB.out]
 rintro e w2 ⟨rfl, hE2⟩
 have E2 := Lib.hid (E1.out.trans hE2); have B2 := Lib.hid (hE2.blk B1.out); have C2 := Lib.hid (hE2.blk C1.out)
 clear hE2
 cases pb with
 | false =>
  have HR2 : Hid (ivV ars ps xs i j pt = 0) := Lib.hid (by unfold ivV; rw [HOKV.out]; rfl)
  go_wp2
  exact bodyPost_ret (v := .tuple #[.int .i64 0, .bool false]) (by simp [results, Tryz.results32, go_sem]) rfl ⟨by rw [HR2.out, HOKV.out]; rfl, E2.out⟩
 | true =>
  obtain ⟨y0, y1, -, -⟩ := blk2 B2.out
  obtain ⟨z0, z1, z2⟩ := blk3 C2.out
  go_wp2_with (fail)
  refine (l4In_any q1 na c1 q2 np c2 ps i j pp n c pt _ HNP.out lp (HPS.out.ext E2.out) (HI.out.ext E2.out) hc).mono ?_
  rw [HAB.out]
  rintro e w3 ⟨rfl, hE3⟩
  have E3 := Lib.hid (E2.out.trans hE3); have B3 := Lib.hid (hE3.blk B2.out); have C3 := Lib.hid (hE3.blk C2.out)
  clear hE3 y0 y1 z0 z1 z2
  cases ab with
  | false =>
   have HR2 : Hid (ivV ars ps xs i j pt = 0) := Lib.hid (by unfold ivV; rw [HOKV.out]; rfl)
   go_wp2
   exact bodyPost_ret (v := .tuple #[.int .i64 0, .bool false]) (by simp [results, Tryz.results32, go_sem]) rfl ⟨by rw [HR2.out, HOKV.out]; rfl, E3.out⟩
  | true =>
   obtain ⟨hvals, hprog, hlen⟩ := memB_parts HPB.out
   obtain ⟨y, hy, rfl, rfl, hpe⟩ := (atB_iff hprog).1 HAB.out
   obtain ⟨p, hp1, hp2, hp3⟩ := insM_mem.1 hy
   obtain ⟨hab, -, hpo, -⟩ := progB_inv hprog
   have hpB := hpo p (List.mem_of_getElem? hp1)
   simp only [partB, Bool.and_eq_true, decide_eq_true_eq, List.all_eq_true, stOkB] at hpB
   obtain ⟨hnpB, ⟨hb1, hb4⟩, hall⟩ := hpB
   have hst := hall y.2 (List.mem_of_getElem? hp3)
   rw [hpe] at hp2
   have hcell := (hst.2 pt hp2).1
   have HPT := Lib.hid (ptW_of (hst.2 pt hp2).2)
   have HST := Lib.hid (stAt_ins hy)
   have HVS := Lib.hid hvals; have HSH := Lib.hid (validB_shape hst.1)
   have HOK : Hid (∀ a ∈ ars, arrOkB a = true) := Lib.hid (by have h := hab; simp only [arrsB, Bool.and_eq_true, List.all_eq_true] at h; exact h.1)
   have HRD := Lib.hid (rdOk_of (m := m) HOK.out hcell (by rw [← hlen, HM.out]))
   have hn4 : na ≤ 4 := by have := arrs_len hab; have := HNA.out; omega
   have HR2 : Hid (ivV ars ps xs y.1.1 y.1.2.1 pt = evX ars xs pt 5 y.2.2.2) := Lib.hid (by unfold ivV; rw [HOKV.out, HST.out]; rfl)
   obtain ⟨b, off, p1, m1, p2, m2, rfl, d0, d1, hbb, hls, hss⟩ := (HPS.out.ext E3.out).elem hp1
   obtain ⟨b2, off2, r1, e1, r2, e2, r3, e3, r4, e4, hbe, s0, s1, s2, s3, s4, s5, s6, s7, s8, -, hstr, -⟩ := hss.elem' hp3
   obtain ⟨nb, hnb⟩ : ∃ m, p.2.length = m := ⟨_, rfl⟩
   rw [hnb] at d1 hss
   subst hbe
   have hi1 : (y.1.1 : Int) < (np : Int) := by have := (List.getElem?_eq_some_iff.1 hp1).1; have := HNP.out; omega
   have hj1 : (y.1.2.1 : Int) < (nb : Int) := by have := (List.getElem?_eq_some_iff.1 hp3).1; omega
   obtain ⟨y0, y1, -, -⟩ := blk2 B3.out
   obtain ⟨z0, z1, z2⟩ := blk3 C3.out
   obtain ⟨sv, cs, hse, -, -, hex⟩ := hstr
   have hcs : [Value.int .i64 y.2.2.2.kind, .int .i64 y.2.2.2.num, .slice r2 y.2.2.2.ix.1.length e2, .int .i64 y.2.2.2.ix.2, .string y.2.2.2.arr, .slice r3 y.2.2.2.subs.length e3, .slice r4 y.2.2.2.kids.length e4] = cs := by
    have h := congrArg (fun v => match v with | .agg a => a.toList | _ => []) hse
    simpa using (List.cons.inj (List.cons.inj h).2).2
   rw [← hcs] at hex
   have HEX := Lib.hid hex
   have HBS := Lib.hid hnb
   obtain ⟨ii, hii⟩ : ∃ m, y.1.1 = m := ⟨_, rfl⟩
   obtain ⟨jj, hjj⟩ : ∃ m, y.1.2.1 = m := ⟨_, rfl⟩
   rw [hii] at d0 d1 hi1 z0 C3
   rw [hjj] at s0 s1 s2 s3 s4 s5 s6 s7 s8 hj1 z1 C3
   rw [hii, hjj]
   clear hy hpe hp1 hp2 hp3 hab hpo hnpB hb1 hb4 hall hst hcell hls hss hse hcs hex hnb hii hjj hvals hprog hlen
   go_wp2
   go_region_held3 (fun X => X.cell? ⟨w.heap.size, 0, none⟩ = some (.slice q1 na c1) ∧ X.cell? ⟨w.heap.size, 1, none⟩ = some (.slice (some ⟨b, off, none⟩) np c2) ∧ X.cell? ⟨w.heap.size + 1, 0, none⟩ = some (.int .i64 (ii : Int)) ∧ X.cell? ⟨w.heap.size + 1, 1, none⟩ = some (.int .i64 (jj : Int)) ∧ X.cell? ⟨w.heap.size + 1, 2, none⟩ = some (.slice pp n c) ∧ X.cell? ⟨b, off + ii * 2 + 1, none⟩ = some (.slice (some ⟨b2, off2, none⟩) nb m2)
     ∧ X.cell? ⟨b2, off2 + jj * 9 + 2, none⟩ = some (.int .i64 y.2.2.2.kind) ∧ X.cell? ⟨b2, off2 + jj * 9 + 3, none⟩ = some (.int .i64 y.2.2.2.num) ∧ X.cell? ⟨b2, off2 + jj * 9 + 4, none⟩ = some (.slice r2 y.2.2.2.ix.1.length e2) ∧ X.cell? ⟨b2, off2 + jj * 9 + 5, none⟩ = some (.int .i64 y.2.2.2.ix.2) ∧ X.cell? ⟨b2, off2 + jj * 9 + 6, none⟩ = some (.string y.2.2.2.arr) ∧ X.cell? ⟨b2, off2 + jj * 9 + 7, none⟩ = some (.slice r3 y.2.2.2.subs.length e3) ∧ X.cell? ⟨b2, off2 + jj * 9 + 8, none⟩ = some (.slice r4 y.2.2.2.kids.length e4))
    (first | exact ⟨y0, y1, z0, z1, z2, d1, s2, s3, s4, s5, s6, s7, s8⟩ | exact ⟨g3.keep y0, g3.keep y1, g3.keep z0, g3.keep z1, g3.keep z2, g3.keep d1, g3.keep s2, g3.keep s3, g3.keep s4, g3.keep s5, g3.keep s6, g3.keep s7, g3.keep s8⟩ | fail)
    (first | (go_at_call 60; (with_reducible refine (l5Eval_any (p.1.length : Int) w3.drew q1 na c1 ars pm m cm xs _ pt HNA.out (HA.out.ext (E3.out.trans (Ext.refl w3).drew)) HOK.out hn4 HM.out (HS.out.ext (E3.out.trans (Ext.refl w3).drew)) HVS.out (HI.out.ext (E3.out.trans (Ext.refl w3).drew)) HPT.out 5 y.2.2.2 _ w3.drew HSH.out (HEX.out.ext (Ext.refl w3).drew) (Ext.refl _) HRD.out).mono ?_); rintro e w4 ⟨rfl, hE4⟩; have g3 := (Ext.refl w3).drew.trans hE4) | fail)
   have E4 := Lib.hid (E3.out.trans g3)
   clear g3 hE4
   go_wp2
   exact bodyPost_ret (v := .tuple #[.int .i64 (evX ars xs pt 5 y.2.2.2), .bool true]) (by simp [results, Tryz.results32, go_sem]) rfl ⟨by rw [HR2.out, HOKV.out]; rfl, E4.out⟩
end Go.Proofs.YtmhldhjpfeageabGreat
/- Instances as arguments: opened, copied, compared, measured, marked. No statement is proved here. -/
namespace Go.Proofs.YtmhldhjpfeageabGreat
open Go.RowKit Go.ChangeShapes Go.WideShapes Go.ChangeAt Go.Joins
def RInst (w : World) (v : Value) : Prop := ∃ (i j : Int) (u : Value) (pt : List Int), v = .agg #[.int .i64 i, .int .i64 j, u] ∧ i64 i ∧ i64 j ∧ IntsAt w u pt
set_option maxRecDepth 100000 in
theorem open_inst {H : Type} {enc : TypeId × Value → H} {W : World} {base : Nat} {v : Value} {d : DataW H} {p : List MemPlace} (hv : Value.okWide Tryz.prog W .any base 41 v) (h : DataW.Trod enc Tryz.prog W 0 (fun _ => true) true 41 v d p) : RInst W v := by
 obtain ⟨c0, c1, c2, y0, y1, y2, m, rfl, rfl, rfl, hy0, hy1, hy2⟩ := open_agg3 Tryz.underlying41 (by kernel_rfl) (by kernel_rfl) hv h
 obtain ⟨n0, e0, _, wn0⟩ := DataW.trod_int Tryz.underlying3 hy0
 obtain ⟨n1, e1, _, wn1⟩ := DataW.trod_int Tryz.underlying3 hy1
 obtain ⟨xs, h1, h2⟩ := ints_of_trod hy2
 simp only [List.cons.injEq, and_true] at e0 e1
 exact ⟨n0, n1, c2, xs, by rw [e0, e1], i64_of_wf wn0, i64_of_wf wn1, h1⟩
theorem blk3i {W : World} {g : Nat} {a b c : Value} {t : TypeId} (h : W.heap[g]? = some (.cells #[a, b, c] t (0, 0))) : W.cell? ⟨g, 0, none⟩ = some a ∧ W.cell? ⟨g, 1, none⟩ = some b ∧ W.cell? ⟨g, 2, none⟩ = some c := by
 simp [World.cell?, h]
theorem blk3is {W : World} {g : Nat} {a b c a' b' c' : Value} {t : TypeId} (h : W.heap[g]? = some (.cells #[a, b, c] t (0, 0))) :
  (((W.setCell ⟨g, 0, none⟩ a').setCell ⟨g, 1, none⟩ b').setCell ⟨g, 2, none⟩ c').heap[g]? = some (.cells #[a', b', c'] t (0, 0)) := by
 have h1 := heap_setCell_same W g 0 #[a, b, c] t a' h
 have h2 := heap_setCell_same _ g 1 _ t b' h1
 have h3 := heap_setCell_same _ g 2 _ t c' h2
 simpa using h3
theorem own_cap {B : Nat} {w : World} {p : Option Addr} {n c : Nat} {xs : List Int} (h : IntsOwn B w (.slice p n c) xs) (hn : xs.length = n) : n ≤ c := by
 have h' : w.ownsRow B 3 1 (.slice p n c) xs.length (xs.map (Value.int .i64)) := h
 rcases h'.2 with ⟨e, h0⟩ | ⟨g, cap, cur, e, -, -, hcap, -⟩
 ·cases e; exact Nat.le_refl _
 ·cases e; omega
set_option maxHeartbeats 400000 in
theorem szInstance_any (i j : Int) (p : Option Addr) (n c : Nat) (left : Int) (w : World) (hn : n ≤ 9223372036854775807) (h0 : 0 ≤ left) (h1 : left ≤ 1048576) :
  Calls Tryz.prog 20 #[.agg #[.int .i64 i, .int .i64 j, .slice p n c], .int .i64 left] w fun e w' => e = .returned (.int .i64 (szI left n)) ∧ Ext w w' := by
 have hb : -1 ≤ szI left n ∧ szI left n ≤ 1048576 := by unfold szI; split <;> omega
 have hneg : szI left n < 0 → szI left n = -1 := by unfold szI; split <;> omega
 have HB := Lib.hid hneg; clear hneg
 go_enter Tryz.func20, Tryz.ntmps20
 go_wp2_with (go_at_call 54; refine (szIntS_any p n c left _ hn h0 h1).mono ?_; rintro e w' ⟨rfl, rfl⟩)
 ·have h : szI left n < 0 := by assumption
  go_ret
  exact ⟨ret_int (HB.out h).symm, (Ext.refl w).alloc _⟩
 ·go_ret
  exact ⟨rfl, (Ext.refl w).alloc _⟩
set_option maxHeartbeats 800000 in
theorem toInstance_any (i j : Int) (s : Value) (xs : List Int) (w : World) (hs : IntsAt w s xs) (hn : xs.length ≤ 1048576) :
  Calls Tryz.prog 22 #[.agg #[.int .i64 i, .int .i64 j, s]] w fun e w' => ∃ q d, e = .returned (.agg #[.int .i64 i, .int .i64 j, .slice q xs.length d]) ∧ IntsOwn w.heap.size w' (.slice q xs.length d) xs ∧ Ext w w' := by
 obtain ⟨p, c, rfl, -, -⟩ := id hs
 have HS := Lib.hid hs; clear hs
 generalize hga : w.heap.size = ga at *
 have HGA := Lib.hid hga; clear hga
 go_enter Tryz.func22, Tryz.ntmps22
 go_wp2_with (fail)
 refine (toIntS_any _ xs _ (HS.out.ext ((((Ext.refl w).alloc _).alloc _).alloc _)) hn).mono ?_
 rintro e W1 ⟨q, d, rfl, hv, hE⟩
 have E1 : Hid (Ext w W1) := Lib.hid (((((Ext.refl w).alloc _).alloc _).alloc _).trans hE)
 have BR := hE.blk (g := ga + 1) (blk_old (blk_at (by simp [HGA.out])))
 have BO := hE.blk (g := ga + 1 + 1) (blk_at (by simp [HGA.out]))
 have hl := lt_of_block BO
 have HV := Lib.hid (hv.weak (B' := ga + 1 + 1 + 1) (by simp [HGA.out]))
 obtain ⟨o0, o1, o2⟩ := blk3i BO
 obtain ⟨r0, r1, r2⟩ := blk3i BR
 have f0 : W1.frozen? ⟨ga + 1 + 1, 2, none⟩ = false := by simp [World.frozen?, BO]
 have e0 : W1.frozen? ⟨ga + 1, 0, none⟩ = false := by simp [World.frozen?, BR]
 have e1 : W1.frozen? ⟨ga + 1, 1, none⟩ = false := by simp [World.frozen?, BR]
 have e2 : W1.frozen? ⟨ga + 1, 2, none⟩ = false := by simp [World.frozen?, BR]
 clear hE hv
 rw [HGA.out]
 go_wp2
 obtain ⟨WF, hWF⟩ : ∃ WF, ((((W1.setCell ⟨ga + 1 + 1, 2, none⟩ (.slice q xs.length d)).setCell ⟨ga + 1, 0, none⟩ (.int .i64 i)).setCell ⟨ga + 1, 1, none⟩ (.int .i64 j)).setCell ⟨ga + 1, 2, none⟩ (.slice q xs.length d)) = WF := ⟨_, rfl⟩
 have hV : IntsOwn ga WF (.slice q xs.length d) xs := by
  rw [← hWF]
  refine IntsOwn.weak (B := ga + 1 + 1 + 1) ?_ (by omega)
  repeat (refine IntsOwn.setOld ?_ (by simp <;> omega) _)
  exact HV.out
 have hX : Ext w WF := by
  rw [← hWF]
  repeat (refine Ext.setCell ?_ (by rw [HGA.out]; simp <;> omega) _)
  exact E1.out
 obtain ⟨k0, k1, k2⟩ := blk3i (W := WF) (g := ga + 1) (by rw [← hWF]; exact blk3is (blk_off BR (by omega) _))
 rw [hWF]
 clear hWF
 exact bodyPost_ret (v := .agg #[.int .i64 i, .int .i64 j, .slice q xs.length d]) (by simp [results, Tryz.results22, go_sem, k0, k1, k2]) rfl ⟨_, _, rfl, hV, hX⟩
theorem eqInstance_same (i j : Int) (s t : Value) (xs : List Int) (w : World) (hs : IntsAt w s xs) (ht : IntsAt w t xs) :
  Calls Tryz.prog 25 #[.agg #[.int .i64 i, .int .i64 j, s], .agg #[.int .i64 i, .int .i64 j, t]] w fun e w' => e = .returned (.bool true) ∧ Ext w w' := by
 obtain ⟨p, c, rfl, -, -⟩ := id hs
 obtain ⟨q, d, rfl, -, -⟩ := id ht
 have HS := Lib.hid hs; have HT := Lib.hid ht; clear hs ht
 go_enter Tryz.func25, Tryz.ntmps25
 go_wp2_with (fail)
 refine (eqIntS_any _ _ xs xs _ (HS.out.ext (((Ext.refl w).alloc _).alloc _)) (HT.out.ext (((Ext.refl w).alloc _).alloc _))).mono ?_
 rw [show eqB xs xs = true by simp [eqB]]
 rintro e W1 ⟨rfl, hE⟩
 have E1 := Lib.hid ((((Ext.refl w).alloc _).alloc _).trans hE)
 clear hE
 go_wp2
 go_ret
 exact ⟨rfl, E1.out⟩
theorem Sh.lv {B : Nat} {w0 w w' : World} {D : Nat → Prop} (h : Sh B w0 w) (hl : Lv D w w') (hD : ∀ g, B ≤ g → g < w0.heap.size → ¬ D g) : Sh B w0 w' := by
 have hb : ∀ g, B ≤ g → g < w0.heap.size → w'.heap[g]? = w.heap[g]? := fun g h1 h2 => hl.block g (Nat.lt_of_lt_of_le h2 h.size) (hD g h1 h2)
 refine ⟨Nat.le_trans h.size hl.size, fun g o u h1 h2 h3 => ?_, fun g o p n c h1 h2 h3 => ?_, fun g o h1 h2 h3 => ?_⟩
 ·rw [World.cell?_of_block (hb g h1 h2)]; exact h.cell g o u h1 h2 h3
 ·rw [World.cell?_of_block (hb g h1 h2)]; exact h.slc g o p n c h1 h2 h3
 ·rw [frozen_block (hb g h1 h2)]; exact h.frz g o h1 h2 h3
theorem markInstance_sh (B : Nat) (w0 : World) (i j : Int) (p : Option Addr) (n c : Nat) (xs : List Int) (k : Int) (w : World) (hn : xs.length = n) (h : IntsOwn B w0 (.slice p n c) xs) (hS : Sh B w0 w) (hk : 0 ≤ k) (hk1 : k + n ≤ 1000000000000) :
  Calls Tryz.prog 26 #[.agg #[.int .i64 i, .int .i64 j, .slice p n c], .int .i64 k] w fun e w' => e = .returned (.int .i64 (k + (n : Nat))) ∧ Mk B w0 w w' := by
 subst hn
 have HO := Lib.hid h; have HS := Lib.hid hS; clear h hS
 go_enter Tryz.func26, Tryz.ntmps26
 go_wp2_with (fail)
 refine (markIntS_sh B w0 _ xs k _ HO.out (HS.out.ext ((Ext.refl w).alloc _)) hk hk1).mono ?_
 rintro e W1 ⟨rfl, hM⟩
 have HM : Hid (Mk B w0 w W1) := Lib.hid (((Mk.refl HS.out).ext ((Ext.refl w).alloc _)).trans hM)
 clear hM
 go_wp2
 go_ret
 exact ⟨rfl, HM.out⟩
end Go.Proofs.YtmhldhjpfeageabGreat
