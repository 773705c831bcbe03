/- The texts G65 G54 G55 G56, joined. No statement is proved here. -/
import Derived.Test.YtklehkkclojccaaGreatH51
import Derived.Test.YtklehkkclojccaaGreatH49
import Derived.Test.YtklehkkclojccaaGreatH19
import Derived.Test.YtklehkkclojccaaGreatH45
namespace Go.Proofs.YtklehkkclojccaaGreat
open Go.Lib (hid)
open Go.RowKit Go.Maps
def dAt (ps : List Pt) (z : Int) (d : D3) : Option (List Int) := match (insM ps)[d.1]?, (insM ps)[d.2.1]? with
 | some a, some b => if (a.1.1 : Int) = z ∧ (b.1.1 : Int) = z then some (subL b.1.2.2 a.1.2.2) else none
 | _, _ => none
def dsM (ps : List Pt) (z : Int) (ds : List D3) : List (List Int) := ds.filterMap (dAt ps z)
def distB (ars : List Arr) (ps : List Pt) (z : Int) : List (List Int) := if progB ars ps = true then dstF (dsM ps z (depsB ars ps)) else []
theorem dsM_next (ps : List Pt) (z : Int) (ds : List D3) (d : D3) : dsM ps z (ds ++ [d]) = dsM ps z ds ++ (dAt ps z d).toList := by
 unfold dsM
 rw [List.filterMap_append]
 cases h : dAt ps z d <;> simp [h]
theorem dAt_is {ps : List Pt} {z : Int} {d : D3} {a b : InsM} (ha : (insM ps)[d.1]? = some a) (hb : (insM ps)[d.2.1]? = some b) : dAt ps z d = if (a.1.1 : Int) = z ∧ (b.1.1 : Int) = z then some (subL b.1.2.2 a.1.2.2) else none := by
 unfold dAt; rw [ha, hb]
theorem dsM_len (ps : List Pt) (z : Int) (ds : List D3) : (dsM ps z ds).length ≤ ds.length := List.length_filterMap_le _ _
theorem ins_pts {ars : List Arr} {ps : List Pt} (hb : progB ars ps = true) {a b : InsM} (ha : a ∈ insM ps) (hbm : b ∈ insM ps) :
  a.1.2.2.length ≤ 4 ∧ (∀ x ∈ a.1.2.2, -1000000 ≤ x ∧ x ≤ 1000000) ∧ (∀ x ∈ b.1.2.2, -1000000 ≤ x ∧ x ≤ 1000000) ∧ (a.1.1 = b.1.1 → b.1.2.2.length = a.1.2.2.length) := by
 obtain ⟨p, h1, -, h2, h3, -⟩ := insM_good hb ha
 obtain ⟨q, k1, -, k2, k3, -⟩ := insM_good hb hbm
 obtain ⟨w1, l1⟩ := nptsL_W h3 h2
 obtain ⟨w2, l2⟩ := nptsL_W k3 k2
 refine ⟨w1.1, fun x hx => by have := w1.2 x hx; omega, fun x hx => by have := w2.2 x hx; omega, fun e => ?_⟩
 rw [e, k1] at h1
 cases h1
 omega
set_option linter.unusedVariables false in
set_option linter.unusedSimpArgs false in
set_option maxRecDepth 100000 in
set_option maxHeartbeats 4000000 in
theorem l6Distances_any (v : Value) (ars : List Arr) (ps : List Pt) (z : Int) (w : World) (hp : PrR w v ars ps) (hb : progB ars ps = true) :
  Calls Tryz.prog 64 #[v, .int .i64 z] w fun e w' => (∃ v', e = .returned v' ∧ PtsOwn w.heap.size w' v' (dstF (dsM ps z (depsB ars ps)))) ∧ Ext w w' := by
 obtain ⟨qa, ca, qp, cp, rfl, hla, hlp, ha, hps⟩ := hp.parts
 obtain ⟨na, hna⟩ : ∃ n, ars.length = n := ⟨_, rfl⟩
 obtain ⟨np, hnp⟩ : ∃ n, ps.length = n := ⟨_, rfl⟩
 rw [hna, hnp] at hp ⊢
 have HP := hid hp; have HB := hid hb
 clear hp ha hps hna hnp hb
 go_enter Tryz.func64, Tryz.ntmps64
 go_wp2_with (fail)
 obtain ⟨W1, hW1⟩ : ∃ W1, w.alloc (.cells #[.slice qa na ca, .slice qp np cp] 32) = W1 := ⟨_, rfl⟩
 have E1 : Hid (Ext w W1) := hid (by rw [← hW1]; exact (Ext.refl w).alloc _)
 have B1 := hid (show W1.heap[w.heap.size]? = some (.cells #[.slice qa na ca, .slice qp np cp] 32 (0, 0)) by rw [← hW1]; exact blk_at rfl)
 have HSW1 : Hid (W1.heap.size = w.heap.size + 1) := hid (by rw [← hW1]; simp)
 obtain ⟨W2, hW2⟩ : ∃ W2, W1.alloc (.cells #[] 39) = W2 := ⟨_, rfl⟩
 have O2 : Hid (PtsOwn w.heap.size W2 (.slice (some ⟨w.heap.size + 1, 0, none⟩) 0 0) []) := hid ⟨[], by have h := World.ownsRow_made (e := 39) (size := 1) W1 #[] 0 (Nat.le_refl _) (Nat.zero_le _) rfl; rw [HSW1.out, hW2] at h; exact ownsRow_weak h (Nat.le_succ _), fun i x h => by simp at h⟩
 have E2 : Hid (Ext W1 W2) := hid (by rw [← hW2]; exact (Ext.refl W1).alloc _)
 try rw [hW1]
 try rw [hW2]
 clear hW1 hW2
 refine (l4Instances_any _ ars ps _ (HP.out.ext (E1.out.trans E2.out)) HB.out).mono ?_
 rintro e w3 ⟨⟨qi, ci, rfl, hins⟩, hE3⟩
 have hM120 := insM_120 HB.out
 obtain ⟨M, hM⟩ : ∃ M, (insM ps).length = M := ⟨_, rfl⟩
 rw [hM] at hM120 hins ⊢
 have HM := hid hM; have HI := hid hins; have E3 := hid (E2.out.trans hE3); have B3 := hid ((E2.out.trans hE3).blk B1.out); have O3 := hid (O2.out.ext hE3)
 clear hM hins hE3
 obtain ⟨y0, y1, -, -⟩ := blk2 B3.out
 go_wp2_with (fail)
 refine (l6Deps_any _ ars ps _ (HP.out.ext (E1.out.trans E3.out)) HB.out).mono ?_
 rintro e w4 ⟨⟨v4, rfl, hd⟩, hE4⟩
 obtain ⟨qd, cd, rfl⟩ := hd.form
 have hNb := depsB_len ars ps
 have hmem : ∀ d ∈ depsB ars ps, d.1 < M ∧ d.2.1 < M := fun d h => by
  have h1 := depsB_mem h
  have h2 : cntB ars ps = M := by unfold cntB; rw [if_pos HB.out, HM.out]
  omega
 obtain ⟨ds, hds⟩ : ∃ ds, depsB ars ps = ds := ⟨_, rfl⟩
 rw [hds] at hd hNb hmem ⊢
 obtain ⟨N, hN⟩ : ∃ N, ds.length = N := ⟨_, rfl⟩
 rw [hN] at hd hNb ⊢
 have HD := hid hd; have HN := hid hN; have HMEM := hid hmem; have HI4 := hid (HI.out.ext hE4); have O4 := hid (O3.out.ext hE4); have E4 := hid (E3.out.trans hE4)
 have HW4 : Hid (w.heap.size ≤ w4.heap.size) := hid (by have h1 := E1.out.size_le; have h2 := E3.out.size_le; have h3 := hE4.size_le; omega)
 have HDS := hid hds
 clear hd hds hN hmem hE4 y0 y1 O2 O3
 go_wp2
 go_loopw [5, 8] (fun ov iv wr => ∃ (k : Nat) (q : Option Addr) (m c : Nat), k ≤ N ∧ iv = .int .i64 k ∧ ov = .slice q m c ∧ (dstF (dsM ps z (ds.take k))).length = m ∧ PtsOwn w.heap.size wr (.slice q m c) (dstF (dsM ps z (ds.take k))) ∧ Ext w4 wr) (fun _ iv _ => N - (intOf iv).toNat)
 case atStart => exact ⟨0, _, 0, _, by omega, rfl, rfl, by simp [dsM, dstF], by simpa [dsM, dstF] using O4.out, Ext.refl w4⟩
 case round =>
  obtain ⟨k, q, m, c, hk, rfl, rfl, hm, hpt, hE⟩ := hrel
  have hm2 : m ≤ 14400 := by
   have h1 := dstF_len (dsM ps z (ds.take k))
   have h2 := dsM_len ps z (ds.take k)
   rw [List.length_take] at h2
   omega
  have HML := hid hm; have HPT := hid hpt; have HE := hid hE
  clear hm hpt hE O4
  by_cases hlt : k < N
  ·obtain ⟨d, hdk⟩ := get_some (xs := ds) (k := k) (by rw [HN.out]; exact hlt)
   obtain ⟨h1M, h2M⟩ := HMEM.out d (List.mem_of_getElem? hdk)
   obtain ⟨a, ha⟩ := get_some (xs := insM ps) (k := d.1) (by rw [HM.out]; exact h1M)
   obtain ⟨b, hb⟩ := get_some (xs := insM ps) (k := d.2.1) (by rw [HM.out]; exact h2M)
   obtain ⟨hl4, hba, hbb, hlen⟩ := ins_pts HB.out (List.mem_of_getElem? ha) (List.mem_of_getElem? hb)
   have HDA := hid (dAt_is (z := z) ha hb)
   have hxa : ((insM ps).map (fun x => x.1))[d.1]? = some a.1 := by rw [List.getElem?_map, ha]; rfl
   have hxb : ((insM ps).map (fun x => x.1))[d.2.1]? = some b.1 := by rw [List.getElem?_map, hb]; rfl
   obtain ⟨od, rfl, -, hodl, t0, t1, t2⟩ := (HD.out.ext HE.out).elem hdk
   obtain ⟨oi, ra, ka, rfl, hoil, a0, a1, a2, hpa⟩ := (HI4.out.ext HE.out).elem hxa
   obtain ⟨oi', rb, kb, hoi, -, b0, b1, b2, hpb⟩ := (HI4.out.ext HE.out).elem hxb
   obtain rfl : oi = oi' := by cases hoi; rfl
   have HDN : Hid (dsM ps z (ds.take (k + 1)) = dsM ps z (ds.take k) ++ (dAt ps z d).toList) := hid (by rw [take_next hdk, dsM_next])
   obtain ⟨i, hi⟩ : ∃ i, d.1 = i := ⟨_, rfl⟩
   obtain ⟨j, hj⟩ : ∃ i, d.2.1 = i := ⟨_, rfl⟩
   obtain ⟨pa, hpa1⟩ : ∃ i, a.1.1 = i := ⟨_, rfl⟩
   obtain ⟨pb, hpb1⟩ : ∃ i, b.1.1 = i := ⟨_, rfl⟩
   obtain ⟨sa, hsa1⟩ : ∃ i, a.1.2.1 = i := ⟨_, rfl⟩
   obtain ⟨sb, hsb1⟩ : ∃ i, b.1.2.1 = i := ⟨_, rfl⟩
   obtain ⟨xa, hxa1⟩ : ∃ i, a.1.2.2 = i := ⟨_, rfl⟩
   obtain ⟨xb, hxb1⟩ : ∃ i, b.1.2.2 = i := ⟨_, rfl⟩
   obtain ⟨la, hla1⟩ : ∃ i, xa.length = i := ⟨_, rfl⟩
   obtain ⟨lb, hlb1⟩ : ∃ i, xb.length = i := ⟨_, rfl⟩
   rw [hi] at t0 a0 a1 a2 h1M
   rw [hj] at t1 b0 b1 b2 h2M
   rw [hpa1] at a0 hlen HDA
   rw [hpb1] at b0 hlen HDA
   rw [hsa1] at a1
   rw [hsb1] at b1
   rw [hxa1, hla1] at a2 hpa hlen hl4
   rw [hxb1, hlb1] at b2 hpb hlen
   rw [hxa1] at hba
   rw [hxb1] at hbb
   rw [hxa1, hxb1] at HDA
   have HPA := hid hpa; have HPB := hid hpb; have HBA := hid hba; have HBB := hid hbb; have HLEN := hid hlen; have HLA := hid hla1; have HLB := hid hlb1
   have hkI : (k : Int) < (N : Int) := by omega
   have hiI : (i : Int) < (M : Int) := by omega
   have hjI : (j : Int) < (M : Int) := by omega
   clear hdk ha hb hxa hxb hoi hi hj hpa1 hpb1 hsa1 hsb1 hxa1 hxb1 hla1 hlb1 hpa hpb hba hbb hlen t2
   by_cases hA : (pa : Int) = z
   ·have hA1 : ((pa : Int) == z) = true := by simpa using hA
    by_cases hB : (pb : Int) = z
    ·have hB1 : ((pb : Int) == z) = true := by simpa using hB
     obtain rfl : lb = la := HLEN.out (by omega)
     have HNX : Hid (dstF (dsM ps z (ds.take (k + 1))) = addL (dstF (dsM ps z (ds.take k))) (subL xb xa)) := hid (by rw [HDN.out, HDA.out, if_pos ⟨hA, hB⟩]; exact dstF_next _ _)
     clear hA hB
     go_wp2_with (fail)
     obtain ⟨w5, hw5⟩ : ∃ w5, (wr.alloc (.cells #[.int .i64 (pa : Int), .int .i64 (sa : Int), .slice ra lb ka] 74)).alloc (.cells #[.int .i64 (pb : Int), .int .i64 (sb : Int), .slice rb lb kb] 74) = w5 := ⟨_, rfl⟩
     have E5 : Hid (Ext wr w5) := hid (by rw [← hw5]; exact ((Ext.refl wr).alloc _).alloc _)
     try rw [hw5]
     clear hw5 t0 t1 a0 a1 a2 b0 b1 b2
     refine (l6Minus_any rb ra lb kb ka xb xa _ HLB.out HLA.out (by omega) (HPB.out.at.ext E5.out) (HPA.out.at.ext E5.out) HBB.out HBA.out).mono ?_
     rintro e w6 ⟨⟨v6, rfl, hv6⟩, hE6⟩
     obtain ⟨p6, c6, rfl⟩ := ints_form hv6
     have E6 := hid (E5.out.trans hE6); have HV6 := hid hv6; have HW5 := hid E5.out.size_le
     clear hE6 hv6
     have hws : w.heap.size ≤ wr.heap.size := by have := HE.out.size_le; have := HW4.out; omega
     go_wp2_with (fail)
     refine (l6Add_any w.heap.size q m c p6 _ c6 _ (subL xb xa) _ HML.out (by omega) (HPT.out.ext E6.out) (by have := E6.out.size_le; omega) (HV6.out.weak (by have := HW5.out; omega))).mono ?_
     rintro e w7 ⟨⟨v7, rfl, hv7⟩, hE7⟩
     rw [← HNX.out] at hv7
     obtain ⟨q7, c7, rfl⟩ := hv7.slice
     have HV7 := hid hv7; have E7 := hid (HE.out.trans (E6.out.trans hE7))
     clear hE7 hv7
     go_wp2
     go_roundw
     case rel => exact ⟨k + 1, q7, _, c7, by omega, by go_num, rfl, rfl, HV7.out, E7.out⟩
     case measure => simp [intOf]; omega
    ·have hB1 : ((pb : Int) == z) = false := by simpa using hB
     have HNX : Hid (dstF (dsM ps z (ds.take (k + 1))) = dstF (dsM ps z (ds.take k))) := hid (by rw [HDN.out, HDA.out, if_neg (fun h => hB h.2)]; simp)
     have HML2 : Hid ((dstF (dsM ps z (ds.take (k + 1)))).length = m) := hid (by rw [HNX.out]; exact HML.out)
     have E5 := hid (((Ext.refl wr).alloc (.cells #[.int .i64 (pa : Int), .int .i64 (sa : Int), .slice ra la ka] 74)).alloc (.cells #[.int .i64 (pb : Int), .int .i64 (sb : Int), .slice rb lb kb] 74))
     have HPT2 := hid (HPT.out.ext E5.out)
     rw [← HNX.out] at HPT2
     have E7 := hid (HE.out.trans E5.out)
     clear hA hB
     go_wp2
     go_roundw
     case rel => exact ⟨k + 1, q, _, c, by omega, by go_num, rfl, HML2.out, HPT2.out, E7.out⟩
     case measure => simp [intOf]; omega
   ·have hA1 : ((pa : Int) == z) = false := by simpa using hA
    have HNX : Hid (dstF (dsM ps z (ds.take (k + 1))) = dstF (dsM ps z (ds.take k))) := hid (by rw [HDN.out, HDA.out, if_neg (fun h => hA h.1)]; simp)
    have HML2 : Hid ((dstF (dsM ps z (ds.take (k + 1)))).length = m) := hid (by rw [HNX.out]; exact HML.out)
    have E5 := hid (((Ext.refl wr).alloc (.cells #[.int .i64 (pa : Int), .int .i64 (sa : Int), .slice ra la ka] 74)).alloc (.cells #[.int .i64 (pb : Int), .int .i64 (sb : Int), .slice rb lb kb] 74))
    have HPT2 := hid (HPT.out.ext E5.out)
    rw [← HNX.out] at HPT2
    have E7 := hid (HE.out.trans E5.out)
    clear hA
    go_wp2
    go_roundw
    case rel => exact ⟨k + 1, q, _, c, by omega, by go_num, rfl, HML2.out, HPT2.out, E7.out⟩
    case measure => simp [intOf]; omega
  ·obtain rfl : k = N := by omega
   have hall : ds.take k = ds := List.take_of_length_le (by rw [HN.out]; omega)
   have HR : Hid (PtsOwn w.heap.size wr (.slice q m c) (dstF (dsM ps z ds))) := hid (by rw [← hall]; exact HPT.out)
   clear hall
   go_wp2
   go_ret
   exact ⟨⟨.slice q m c, rfl, by rw [HDS.out]; exact HR.out⟩, (E1.out.trans E4.out).trans HE.out⟩
set_option linter.unusedVariables false in
set_option linter.unusedSimpArgs false in
set_option maxRecDepth 100000 in
set_option maxHeartbeats 4000000 in
theorem specDistances_any (v : Value) (ars : List Arr) (ps : List Pt) (z : Int) (w : World) (hp : PrR w v ars ps) :
  Calls Tryz.prog 27 #[v, .int .i64 z] w fun e w' => (∃ v', e = .returned v' ∧ PtsOwn w.heap.size w' v' (distB ars ps z)) ∧ Ext w w' := by
 obtain ⟨qa, ca, qp, cp, rfl, hla, hlp, ha, hps⟩ := hp.parts
 obtain ⟨na, hna⟩ : ∃ n, ars.length = n := ⟨_, rfl⟩
 obtain ⟨np, hnp⟩ : ∃ n, ps.length = n := ⟨_, rfl⟩
 rw [hna, hnp] at hp ⊢
 obtain ⟨pb, hpb⟩ : ∃ a, progB ars ps = a := ⟨_, rfl⟩
 have HP := hid hp; have HPB := hid hpb
 clear hp ha hps hna hnp hpb
 go_enter Tryz.func27, Tryz.ntmps27
 go_wp2_with (fail)
 obtain ⟨W1, hW1⟩ : ∃ W1, w.alloc (.cells #[.slice qa na ca, .slice qp np cp] 32) = W1 := ⟨_, rfl⟩
 have E1 : Hid (Ext w W1) := hid (by rw [← hW1]; exact (Ext.refl w).alloc _)
 have B1 := hid (show W1.heap[w.heap.size]? = some (.cells #[.slice qa na ca, .slice qp np cp] 32 (0, 0)) by rw [← hW1]; exact blk_at rfl)
 try rw [hW1]
 clear hW1
 refine (specProgramValid_any _ ars ps _ (HP.out.ext E1.out)).mono ?_
 rw [HPB.out]
 rintro e w3 ⟨rfl, hE3⟩
 have E3 := hid (E1.out.trans hE3); have B3 := hid (hE3.blk B1.out)
 clear hE3
 cases pb with
 | false =>
  have HR : Hid (distB ars ps z = []) := hid (by unfold distB; rw [HPB.out]; rfl)
  have HS3 := hid E3.out.size_le
  go_wp2
  go_ret
  exact ⟨⟨_, rfl, by rw [HR.out]; exact ⟨[], ownsRow_weak (World.ownsRow_made w3 #[] 0 (Nat.le_refl _) (Nat.zero_le _) rfl) HS3.out, fun i x h => by simp at h⟩⟩, E3.out.alloc _⟩
 | true =>
  have HR : Hid (distB ars ps z = dstF (dsM ps z (depsB ars ps))) := hid (by unfold distB; rw [HPB.out]; rfl)
  obtain ⟨y0, y1, -, -⟩ := blk2 B3.out
  go_wp2_with (fail)
  refine (l6Distances_any _ ars ps z _ (HP.out.ext E3.out) HPB.out).mono ?_
  rintro e w4 ⟨⟨v4, rfl, hd⟩, hE4⟩
  rw [← HR.out] at hd
  have HD := hid (hd.weak E3.out.size_le); have E4 := hid (E3.out.trans hE4)
  clear hd hE4 y0 y1
  go_wp2
  go_ret
  exact ⟨⟨_, rfl, HD.out⟩, E4.out⟩
end Go.Proofs.YtklehkkclojccaaGreat
namespace Go.Proofs.YtklehkkclojccaaGreat
open Go.Lib (hid)
open Go.RowKit Go.Maps
end Go.Proofs.YtklehkkclojccaaGreat
namespace Go.Proofs.YtklehkkclojccaaGreat
open Go.Lib (hid)
open Go.RowKit Go.Maps
end Go.Proofs.YtklehkkclojccaaGreat
namespace Go.Proofs.YtklehkkclojccaaGreat
open Go.Lib (hid)
open Go.RowKit Go.Maps
theorem PtsOwn.lvB {B : Nat} {D : Nat → Prop} {w w' : World} {v : Value} {xss : List (List Int)} (h : PtsOwn B w v xss) (hv : Lv D w w') (hD : ∀ b, B ≤ b → b < w.heap.size → ¬ D b) : PtsOwn B w' v xss := by
 obtain ⟨vs, ho, he⟩ := h
 exact ⟨vs, row_lvB ho hv hD, fun i xs hi => by obtain ⟨u, h0, h1⟩ := he i xs hi; exact ⟨u, h0, row_lvB h1 hv hD⟩⟩
end Go.Proofs.YtklehkkclojccaaGreat
