/- The texts G65 G68 G40 G41 G69, joined. No statement is proved here. -/
import Derived.Test.YtklehkkclojccaaGreatJ31
import Derived.Test.YtklehkkclojccaaGreatJ49
import Derived.Test.YtklehkkclojccaaGreatJ52
import Derived.Test.YtklehkkclojccaaGreatJ20
import Derived.Test.YtklehkkclojccaaGreatJ48
import Derived.Shelf.SlSortCmp.Whole1
import Derived.Shelf.SlSortCmp.NoneTotal
import Derived.StillTailTactics
import Derived.Test.YtklehkkclojccaaGreatJ51
import Derived.Test.YtklehkkclojccaaGreatJ02
namespace Go.Proofs.YtklehkkclojccaaGreat
open Go.RowKit Go.Maps
def dAt (ps : List Pt) (z : Int) (d : D3) : Option (List Int) := match (insM ps)[d.1]?, (insM ps)[d.2.1]? with
 | some a, some b => if (a.1.1 : Int) = z ∧ (b.1.1 : Int) = z then some (subL b.1.2.2 a.1.2.2) else none
 | _, _ => none
def dsM (ps : List Pt) (z : Int) (ds : List D3) : List (List Int) := ds.filterMap (dAt ps z)
def distB (ars : List Arr) (ps : List Pt) (z : Int) : List (List Int) := if progB ars ps = true then dstF (dsM ps z (depsB ars ps)) else []
theorem dsM_next (ps : List Pt) (z : Int) (ds : List D3) (d : D3) : dsM ps z (ds ++ [d]) = dsM ps z ds ++ (dAt ps z d).toList := by
 unfold dsM
 rw [List.filterMap_append]
 cases h : dAt ps z d <;> simp [h]
theorem dAt_is {ps : List Pt} {z : Int} {d : D3} {a b : InsM} (ha : (insM ps)[d.1]? = some a) (hb : (insM ps)[d.2.1]? = some b) : dAt ps z d = if (a.1.1 : Int) = z ∧ (b.1.1 : Int) = z then some (subL b.1.2.2 a.1.2.2) else none := by
 unfold dAt; rw [ha, hb]
theorem dsM_len (ps : List Pt) (z : Int) (ds : List D3) : (dsM ps z ds).length ≤ ds.length := List.length_filterMap_le _ _
theorem ins_pts {ars : List Arr} {ps : List Pt} (hb : progB ars ps = true) {a b : InsM} (ha : a ∈ insM ps) (hbm : b ∈ insM ps) :
  a.1.2.2.length ≤ 4 ∧ (∀ x ∈ a.1.2.2, -1000000 ≤ x ∧ x ≤ 1000000) ∧ (∀ x ∈ b.1.2.2, -1000000 ≤ x ∧ x ≤ 1000000) ∧ (a.1.1 = b.1.1 → b.1.2.2.length = a.1.2.2.length) := by
 obtain ⟨p, h1, -, h2, h3, -⟩ := insM_good hb ha
 obtain ⟨q, k1, -, k2, k3, -⟩ := insM_good hb hbm
 obtain ⟨w1, l1⟩ := nptsL_W h3 h2
 obtain ⟨w2, l2⟩ := nptsL_W k3 k2
 refine ⟨w1.1, fun x hx => by have := w1.2 x hx; omega, fun x hx => by have := w2.2 x hx; omega, fun e => ?_⟩
 rw [e, k1] at h1
 cases h1
 omega
set_option linter.unusedVariables false in
set_option linter.unusedSimpArgs false in
set_option maxRecDepth 100000 in
set_option maxHeartbeats 4000000 in
theorem l6Distances_any (v : Value) (ars : List Arr) (ps : List Pt) (z : Int) (w : World) (hp : PrR w v ars ps) (hb : progB ars ps = true) :
  Calls Tryz.prog 64 #[v, .int .i64 z] w fun e w' => (∃ v', e = .returned v' ∧ PtsOwn w.heap.size w' v' (dstF (dsM ps z (depsB ars ps)))) ∧ Ext w w' := by
 obtain ⟨qa, ca, qp, cp, rfl, hla, hlp, ha, hps⟩ := hp.parts
 obtain ⟨na, hna⟩ : ∃ n, ars.length = n := ⟨_, rfl⟩
 obtain ⟨np, hnp⟩ : ∃ n, ps.length = n := ⟨_, rfl⟩
 rw [hna, hnp] at hp ⊢
 have HP := Lib.hid hp; have HB := Lib.hid hb
 clear hp ha hps hna hnp hb
 go_enter Tryz.func64, Tryz.ntmps64
 go_wp2_with (fail)
 obtain ⟨W1, hW1⟩ : ∃ W1, w.alloc (.cells #[.slice qa na ca, .slice qp np cp] 32) = W1 := ⟨_, rfl⟩
 have E1 : Hid (Ext w W1) := Lib.hid (by rw [← hW1]; exact (Ext.refl w).alloc _)
 have B1 := Lib.hid (show W1.heap[w.heap.size]? = some (.cells #[.slice qa na ca, .slice qp np cp] 32 (0, 0)) by rw [← hW1]; exact blk_at rfl)
 have HSW1 : Hid (W1.heap.size = w.heap.size + 1) := Lib.hid (by rw [← hW1]; simp)
 obtain ⟨W2, hW2⟩ : ∃ W2, W1.alloc (.cells #[] 39) = W2 := ⟨_, rfl⟩
 have O2 : Hid (PtsOwn w.heap.size W2 (.slice (some ⟨w.heap.size + 1, 0, none⟩) 0 0) []) := Lib.hid ⟨[], by have h := World.ownsRow_made (e := 39) (size := 1) W1 #[] 0 (Nat.le_refl _) (Nat.zero_le _) rfl; rw [HSW1.out, hW2] at h; exact ownsRow_weak h (Nat.le_succ _), fun i x h => by simp at h⟩
 have E2 : Hid (Ext W1 W2) := Lib.hid (by rw [← hW2]; exact (Ext.refl W1).alloc _)
 try rw [hW1]
 try rw [hW2]
 clear hW1 hW2
 refine (l4Instances_any _ ars ps _ (HP.out.ext (E1.out.trans E2.out)) HB.out).mono ?_
 rintro e w3 ⟨⟨qi, ci, rfl, hins⟩, hE3⟩
 have hM120 := insM_120 HB.out
 obtain ⟨M, hM⟩ : ∃ M, (insM ps).length = M := ⟨_, rfl⟩
 rw [hM] at hM120 hins ⊢
 have HM := Lib.hid hM; have HI := Lib.hid hins; have E3 := Lib.hid (E2.out.trans hE3); have B3 := Lib.hid ((E2.out.trans hE3).blk B1.out); have O3 := Lib.hid (O2.out.ext hE3)
 clear hM hins hE3
 obtain ⟨y0, y1, -, -⟩ := blk2 B3.out
 go_wp2_with (fail)
 refine (l6Deps_any _ ars ps _ (HP.out.ext (E1.out.trans E3.out)) HB.out).mono ?_
 rintro e w4 ⟨⟨v4, rfl, hd⟩, hE4⟩
 obtain ⟨qd, cd, rfl⟩ := hd.form
 have hNb := depsB_len ars ps
 have hmem : ∀ d ∈ depsB ars ps, d.1 < M ∧ d.2.1 < M := fun d h => by
  have h1 := depsB_mem h
  have h2 : cntB ars ps = M := by unfold cntB; rw [if_pos HB.out, HM.out]
  omega
 obtain ⟨ds, hds⟩ : ∃ ds, depsB ars ps = ds := ⟨_, rfl⟩
 rw [hds] at hd hNb hmem ⊢
 obtain ⟨N, hN⟩ : ∃ N, ds.length = N := ⟨_, rfl⟩
 rw [hN] at hd hNb ⊢
 have HD := Lib.hid hd; have HN := Lib.hid hN; have HMEM := Lib.hid hmem; have HI4 := Lib.hid (HI.out.ext hE4); have O4 := Lib.hid (O3.out.ext hE4); have E4 := Lib.hid (E3.out.trans hE4)
 have HW4 : Hid (w.heap.size ≤ w4.heap.size) := Lib.hid (by have h1 := E1.out.size_le; have h2 := E3.out.size_le; have h3 := hE4.size_le; omega)
 have HDS := Lib.hid hds
 clear hd hds hN hmem hE4 y0 y1 O2 O3
 go_wp2
 go_loopw [5, 8] (fun ov iv wr => ∃ (k : Nat) (q : Option Addr) (m c : Nat), k ≤ N ∧ iv = .int .i64 k ∧ ov = .slice q m c ∧ (dstF (dsM ps z (ds.take k))).length = m ∧ PtsOwn w.heap.size wr (.slice q m c) (dstF (dsM ps z (ds.take k))) ∧ Ext w4 wr) (fun _ iv _ => N - (intOf iv).toNat)
 case atStart => exact ⟨0, _, 0, _, by omega, rfl, rfl, by simp [dsM, dstF], by simpa [dsM, dstF] using O4.out, Ext.refl w4⟩
 case round =>
  obtain ⟨k, q, m, c, hk, rfl, rfl, hm, hpt, hE⟩ := hrel
  have hm2 : m ≤ 14400 := by
   have h1 := dstF_len (dsM ps z (ds.take k))
   have h2 := dsM_len ps z (ds.take k)
   rw [List.length_take] at h2
   omega
  have HML := Lib.hid hm; have HPT := Lib.hid hpt; have HE := Lib.hid hE
  clear hm hpt hE O4
  by_cases hlt : k < N
  ·obtain ⟨d, hdk⟩ := get_some (xs := ds) (k := k) (by rw [HN.out]; exact hlt)
   obtain ⟨h1M, h2M⟩ := HMEM.out d (List.mem_of_getElem? hdk)
   obtain ⟨a, ha⟩ := get_some (xs := insM ps) (k := d.1) (by rw [HM.out]; exact h1M)
   obtain ⟨b, hb⟩ := get_some (xs := insM ps) (k := d.2.1) (by rw [HM.out]; exact h2M)
   obtain ⟨hl4, hba, hbb, hlen⟩ := ins_pts HB.out (List.mem_of_getElem? ha) (List.mem_of_getElem? hb)
   have HDA := Lib.hid (dAt_is (z := z) ha hb)
   have hxa : ((insM ps).map (fun x => x.1))[d.1]? = some a.1 := by rw [List.getElem?_map, ha]; rfl
   have hxb : ((insM ps).map (fun x => x.1))[d.2.1]? = some b.1 := by rw [List.getElem?_map, hb]; rfl
   obtain ⟨od, rfl, -, hodl, t0, t1, t2⟩ := (HD.out.ext HE.out).elem hdk
   obtain ⟨oi, ra, ka, rfl, hoil, a0, a1, a2, hpa⟩ := (HI4.out.ext HE.out).elem hxa
   obtain ⟨oi', rb, kb, hoi, -, b0, b1, b2, hpb⟩ := (HI4.out.ext HE.out).elem hxb
   obtain rfl : oi = oi' := by cases hoi; rfl
   have HDN : Hid (dsM ps z (ds.take (k + 1)) = dsM ps z (ds.take k) ++ (dAt ps z d).toList) := Lib.hid (by rw [take_next hdk, dsM_next])
   obtain ⟨i, hi⟩ : ∃ i, d.1 = i := ⟨_, rfl⟩
   obtain ⟨j, hj⟩ : ∃ i, d.2.1 = i := ⟨_, rfl⟩
   obtain ⟨pa, hpa1⟩ : ∃ i, a.1.1 = i := ⟨_, rfl⟩
   obtain ⟨pb, hpb1⟩ : ∃ i, b.1.1 = i := ⟨_, rfl⟩
   obtain ⟨sa, hsa1⟩ : ∃ i, a.1.2.1 = i := ⟨_, rfl⟩
   obtain ⟨sb, hsb1⟩ : ∃ i, b.1.2.1 = i := ⟨_, rfl⟩
   obtain ⟨xa, hxa1⟩ : ∃ i, a.1.2.2 = i := ⟨_, rfl⟩
   obtain ⟨xb, hxb1⟩ : ∃ i, b.1.2.2 = i := ⟨_, rfl⟩
   obtain ⟨la, hla1⟩ : ∃ i, xa.length = i := ⟨_, rfl⟩
   obtain ⟨lb, hlb1⟩ : ∃ i, xb.length = i := ⟨_, rfl⟩
   rw [hi] at t0 a0 a1 a2 h1M
   rw [hj] at t1 b0 b1 b2 h2M
   rw [hpa1] at a0 hlen HDA
   rw [hpb1] at b0 hlen HDA
   rw [hsa1] at a1
   rw [hsb1] at b1
   rw [hxa1, hla1] at a2 hpa hlen hl4
   rw [hxb1, hlb1] at b2 hpb hlen
   rw [hxa1] at hba
   rw [hxb1] at hbb
   rw [hxa1, hxb1] at HDA
   have HPA := Lib.hid hpa; have HPB := Lib.hid hpb; have HBA := Lib.hid hba; have HBB := Lib.hid hbb; have HLEN := Lib.hid hlen; have HLA := Lib.hid hla1; have HLB := Lib.hid hlb1
   have hkI : (k : Int) < (N : Int) := by omega
   have hiI : (i : Int) < (M : Int) := by omega
   have hjI : (j : Int) < (M : Int) := by omega
   clear hdk ha hb hxa hxb hoi hi hj hpa1 hpb1 hsa1 hsb1 hxa1 hxb1 hla1 hlb1 hpa hpb hba hbb hlen t2
   by_cases hA : (pa : Int) = z
   ·have hA1 : ((pa : Int) == z) = true := by simpa using hA
    by_cases hB : (pb : Int) = z
    ·have hB1 : ((pb : Int) == z) = true := by simpa using hB
     obtain rfl : lb = la := HLEN.out (by omega)
     have HNX : Hid (dstF (dsM ps z (ds.take (k + 1))) = addL (dstF (dsM ps z (ds.take k))) (subL xb xa)) := Lib.hid (by rw [HDN.out, HDA.out, if_pos ⟨hA, hB⟩]; exact dstF_next _ _)
     clear hA hB
     go_wp2_with (fail)
     obtain ⟨w5, hw5⟩ : ∃ w5, (wr.alloc (.cells #[.int .i64 (pa : Int), .int .i64 (sa : Int), .slice ra lb ka] 74)).alloc (.cells #[.int .i64 (pb : Int), .int .i64 (sb : Int), .slice rb lb kb] 74) = w5 := ⟨_, rfl⟩
     have E5 : Hid (Ext wr w5) := Lib.hid (by rw [← hw5]; exact ((Ext.refl wr).alloc _).alloc _)
     try rw [hw5]
     clear hw5 t0 t1 a0 a1 a2 b0 b1 b2
     refine (l6Minus_any rb ra lb kb ka xb xa _ HLB.out HLA.out (by omega) (HPB.out.at.ext E5.out) (HPA.out.at.ext E5.out) HBB.out HBA.out).mono ?_
     rintro e w6 ⟨⟨v6, rfl, hv6⟩, hE6⟩
     obtain ⟨p6, c6, rfl⟩ := ints_form hv6
     have E6 := Lib.hid (E5.out.trans hE6); have HV6 := Lib.hid hv6; have HW5 := Lib.hid E5.out.size_le
     clear hE6 hv6
     have hws : w.heap.size ≤ wr.heap.size := by have := HE.out.size_le; have := HW4.out; omega
     go_wp2_with (fail)
     refine (l6Add_any w.heap.size q m c p6 _ c6 _ (subL xb xa) _ HML.out (by omega) (HPT.out.ext E6.out) (by have := E6.out.size_le; omega) (HV6.out.weak (by have := HW5.out; omega))).mono ?_
     rintro e w7 ⟨⟨v7, rfl, hv7⟩, hE7⟩
     rw [← HNX.out] at hv7
     obtain ⟨q7, c7, rfl⟩ := hv7.slice
     have HV7 := Lib.hid hv7; have E7 := Lib.hid (HE.out.trans (E6.out.trans hE7))
     clear hE7 hv7
     go_wp2
     go_roundw
     case rel => exact ⟨k + 1, q7, _, c7, by omega, by go_num, rfl, rfl, HV7.out, E7.out⟩
     case measure => simp [intOf]; omega
    ·have hB1 : ((pb : Int) == z) = false := by simpa using hB
     have HNX : Hid (dstF (dsM ps z (ds.take (k + 1))) = dstF (dsM ps z (ds.take k))) := Lib.hid (by rw [HDN.out, HDA.out, if_neg (fun h => hB h.2)]; simp)
     have HML2 : Hid ((dstF (dsM ps z (ds.take (k + 1)))).length = m) := Lib.hid (by rw [HNX.out]; exact HML.out)
     have E5 := Lib.hid (((Ext.refl wr).alloc (.cells #[.int .i64 (pa : Int), .int .i64 (sa : Int), .slice ra la ka] 74)).alloc (.cells #[.int .i64 (pb : Int), .int .i64 (sb : Int), .slice rb lb kb] 74))
     have HPT2 := Lib.hid (HPT.out.ext E5.out)
     rw [← HNX.out] at HPT2
     have E7 := Lib.hid (HE.out.trans E5.out)
     clear hA hB
     go_wp2
     go_roundw
     case rel => exact ⟨k + 1, q, _, c, by omega, by go_num, rfl, HML2.out, HPT2.out, E7.out⟩
     case measure => simp [intOf]; omega
   ·have hA1 : ((pa : Int) == z) = false := by simpa using hA
    have HNX : Hid (dstF (dsM ps z (ds.take (k + 1))) = dstF (dsM ps z (ds.take k))) := Lib.hid (by rw [HDN.out, HDA.out, if_neg (fun h => hA h.1)]; simp)
    have HML2 : Hid ((dstF (dsM ps z (ds.take (k + 1)))).length = m) := Lib.hid (by rw [HNX.out]; exact HML.out)
    have E5 := Lib.hid (((Ext.refl wr).alloc (.cells #[.int .i64 (pa : Int), .int .i64 (sa : Int), .slice ra la ka] 74)).alloc (.cells #[.int .i64 (pb : Int), .int .i64 (sb : Int), .slice rb lb kb] 74))
    have HPT2 := Lib.hid (HPT.out.ext E5.out)
    rw [← HNX.out] at HPT2
    have E7 := Lib.hid (HE.out.trans E5.out)
    clear hA
    go_wp2
    go_roundw
    case rel => exact ⟨k + 1, q, _, c, by omega, by go_num, rfl, HML2.out, HPT2.out, E7.out⟩
    case measure => simp [intOf]; omega
  ·obtain rfl : k = N := by omega
   have hall : ds.take k = ds := List.take_of_length_le (by rw [HN.out]; omega)
   have HR : Hid (PtsOwn w.heap.size wr (.slice q m c) (dstF (dsM ps z ds))) := Lib.hid (by rw [← hall]; exact HPT.out)
   clear hall
   go_wp2
   go_ret
   exact ⟨⟨.slice q m c, rfl, by rw [HDS.out]; exact HR.out⟩, (E1.out.trans E4.out).trans HE.out⟩
set_option linter.unusedVariables false in
set_option linter.unusedSimpArgs false in
set_option maxRecDepth 100000 in
set_option maxHeartbeats 4000000 in
theorem specDistances_any (v : Value) (ars : List Arr) (ps : List Pt) (z : Int) (w : World) (hp : PrR w v ars ps) :
  Calls Tryz.prog 27 #[v, .int .i64 z] w fun e w' => (∃ v', e = .returned v' ∧ PtsOwn w.heap.size w' v' (distB ars ps z)) ∧ Ext w w' := by
 obtain ⟨qa, ca, qp, cp, rfl, hla, hlp, ha, hps⟩ := hp.parts
 obtain ⟨na, hna⟩ : ∃ n, ars.length = n := ⟨_, rfl⟩
 obtain ⟨np, hnp⟩ : ∃ n, ps.length = n := ⟨_, rfl⟩
 rw [hna, hnp] at hp ⊢
 obtain ⟨pb, hpb⟩ : ∃ a, progB ars ps = a := ⟨_, rfl⟩
 have HP := Lib.hid hp; have HPB := Lib.hid hpb
 clear hp ha hps hna hnp hpb
 go_enter Tryz.func27, Tryz.ntmps27
 go_wp2_with (fail)
 obtain ⟨W1, hW1⟩ : ∃ W1, w.alloc (.cells #[.slice qa na ca, .slice qp np cp] 32) = W1 := ⟨_, rfl⟩
 have E1 : Hid (Ext w W1) := Lib.hid (by rw [← hW1]; exact (Ext.refl w).alloc _)
 have B1 := Lib.hid (show W1.heap[w.heap.size]? = some (.cells #[.slice qa na ca, .slice qp np cp] 32 (0, 0)) by rw [← hW1]; exact blk_at rfl)
 try rw [hW1]
 clear hW1
 refine (specProgramValid_any _ ars ps _ (HP.out.ext E1.out)).mono ?_
 rw [HPB.out]
 rintro e w3 ⟨rfl, hE3⟩
 have E3 := Lib.hid (E1.out.trans hE3); have B3 := Lib.hid (hE3.blk B1.out)
 clear hE3
 cases pb with
 | false =>
  have HR : Hid (distB ars ps z = []) := Lib.hid (by unfold distB; rw [HPB.out]; rfl)
  have HS3 := Lib.hid E3.out.size_le
  go_wp2
  go_ret
  exact ⟨⟨_, rfl, by rw [HR.out]; exact ⟨[], ownsRow_weak (World.ownsRow_made w3 #[] 0 (Nat.le_refl _) (Nat.zero_le _) rfl) HS3.out, fun i x h => by simp at h⟩⟩, E3.out.alloc _⟩
 | true =>
  have HR : Hid (distB ars ps z = dstF (dsM ps z (depsB ars ps))) := Lib.hid (by unfold distB; rw [HPB.out]; rfl)
  obtain ⟨y0, y1, -, -⟩ := blk2 B3.out
  go_wp2_with (fail)
  refine (l6Distances_any _ ars ps z _ (HP.out.ext E3.out) HPB.out).mono ?_
  rintro e w4 ⟨⟨v4, rfl, hd⟩, hE4⟩
  rw [← HR.out] at hd
  have HD := Lib.hid (hd.weak E3.out.size_le); have E4 := Lib.hid (E3.out.trans hE4)
  clear hd hE4 y0 y1
  go_wp2
  go_ret
  exact ⟨⟨_, rfl, HD.out⟩, E4.out⟩
end Go.Proofs.YtklehkkclojccaaGreat
namespace Go.Proofs.YtklehkkclojccaaGreat
open Go.RowKit Go.Sort
theorem sub_list {α : Type} {p : α → Prop} : ∀ (al : List α), (∀ a ∈ al, p a) → ∃ l : List {a // p a}, l.map (fun x => x.1) = al
 | [], _ => ⟨[], rfl⟩
 | a :: al, h => by
  obtain ⟨l, e⟩ := sub_list al (fun x hx => h x (by simp [hx]))
  exact ⟨⟨a, h a (by simp)⟩ :: l, by simp [e]⟩
theorem get_bang {α : Type} [Inhabited α] {ss : List α} {j : Nat} (hj : j < ss.length) : ss.toArray[j]! = ss[j] := by simp [hj]
theorem holdsG {α : Type} [Inhabited α] (enc : α → Value) {B n c g : Nat} {t : TypeId} {w : World} {ss : List α} (h : w.ownsRow B t 1 (.slice (some ⟨g, 0, none⟩) n c) n (ss.map enc)) (hn : ss.length = n) : Holds enc w g 0 ss.toArray := by
 intro j hj
 have hj' : j < ss.length := by simpa using hj
 refine ⟨?_, row_frz h _⟩
 rw [Nat.zero_add, h.cellAt j (by omega), List.getElem?_map, List.getElem?_eq_getElem hj', get_bang hj']; rfl
theorem heap_putG {α : Type} [Inhabited α] (enc : α → Value) {g m : Nat} {t : TypeId} {fz : Nat × Nat} {w : World} {cur : Array Value} (d : Array α) (os : Array Obj) (h : w.heap[g]? = some (.cells cur t fz)) : (grow (putRow enc (Sort.ahead w m) g 0 d) os).heap[g]? = some (.cells (putCells enc 0 d cur) t fz) := by
 have hl := (Array.getElem?_eq_some_iff.1 h).1
 have h1 : (putRow enc (Sort.ahead w m) g 0 d).heap[g]? = some (.cells (putCells enc 0 d cur) t fz) := by simp [putRow, mapBlock, Sort.ahead, Array.getElem?_modify, h, onCells]
 show ((putRow enc (Sort.ahead w m) g 0 d).heap ++ os)[g]? = _
 rw [Array.getElem?_append_left (Array.getElem?_eq_some_iff.1 h1).1]
 exact h1
theorem lv_putG {α : Type} [Inhabited α] (enc : α → Value) {g m : Nat} {w : World} (d : Array α) (os : Array Obj) : Lv (fun b => b = g) w (grow (putRow enc (Sort.ahead w m) g 0 d) os) := by
 refine ⟨rfl, rfl, rfl, ?_, fun k hk hne => ?_⟩
 ·show w.heap.size ≤ ((putRow enc (Sort.ahead w m) g 0 d).heap ++ os).size
  simp [putRow, mapBlock, Sort.ahead]
 ·show ((putRow enc (Sort.ahead w m) g 0 d).heap ++ os)[k]? = _
  have hs : (putRow enc (Sort.ahead w m) g 0 d).heap.size = w.heap.size := by simp [putRow, mapBlock, Sort.ahead]
  rw [Array.getElem?_append_left (by omega)]
  simp [putRow, mapBlock, Sort.ahead, Array.getElem?_modify, Ne.symm hne]
theorem row_putG {α : Type} [Inhabited α] (enc : α → Value) {B n c g m : Nat} {t : TypeId} {w : World} {vs : List Value} {ts : List α} (os : Array Obj) (h : w.ownsRow B t 1 (.slice (some ⟨g, 0, none⟩) n c) n vs) (hn : ts.length = n) :
  (grow (putRow enc (Sort.ahead w m) g 0 ts.toArray) os).ownsRow B t 1 (.slice (some ⟨g, 0, none⟩) n c) n (ts.map enc) := by
 rcases h.2 with ⟨e, _⟩ | ⟨g', cap, cur, e, hB, hg, h1, h2, h3, h4⟩
 ·cases e
 ·cases e
  refine ⟨by simp [hn], .inr ⟨g, c, _, rfl, hB, heap_putG enc ts.toArray os hg, h1, h2, by simp [putCells, h3], ?_⟩⟩
  apply List.ext_getElem?
  intro j
  rw [Nat.mul_one, List.getElem?_take]
  by_cases hj : j < n
  ·rw [if_pos hj, Array.getElem?_toList, List.getElem?_map, List.getElem?_eq_getElem (by omega : j < ts.length)]
   have hc : j < cur.size := by omega
   simp only [putCells, Array.getElem?_mapIdx, Array.getElem?_eq_getElem hc, Option.map_some, Nat.sub_zero]
   rw [if_pos ⟨Nat.zero_le _, by simp; omega⟩, get_bang (by omega)]
  ·rw [if_neg hj, List.getElem?_map, List.getElem?_eq_none (by omega)]; rfl
theorem swoL {α : Type} (f : α → List Int) : SWO (ltOf (fun x y : α => cmpL (f x) (f y))) := by
 have e : ∀ x y : α, ltOf (fun x y : α => cmpL (f x) (f y)) x y = lexB (f x) (f y) := fun x y => cmpL_lex _ _
 refine ⟨fun x => ?_, fun x y z h1 h2 => ?_, fun x y z h1 h2 => ?_⟩
 ·rw [e]; exact lexB_irr _
 ·rw [e] at *; exact lexB_tr _ _ _ h1 h2
 ·rw [e] at *; exact lexB_ntr h1 h2
theorem sortF_none (p : Option Addr) (c : Nat) (w : World) :
  Calls Tryz.prog 117 #[.slice p 0 c, .func (.func 118) #[] #[]] w fun e w' => e = .returned (.tuple #[]) ∧ w' = w := by
 have h := AnyF.slices_SortFunc_none { Tryz.laysSlF6_f117 with } p c (.func (.func 118) #[] #[]) w
 exact h
set_option maxRecDepth 100000 in
set_option maxHeartbeats 1000000 in
theorem sortF_any (B o n c : Nat) (al : List EA) (w : World) (hn : al.length = n) (h0 : 0 < n) (hn2 : n ≤ 20000) (ho : w.ownsRow B 39 1 (.slice (some ⟨o, 0, none⟩) n c) n (al.map (fun a => a.1))) (hr : ∀ a ∈ al, RwA B o w a) :
  Calls Tryz.prog 117 #[.slice (some ⟨o, 0, none⟩) n c, .func (.func 118) #[] #[]] w fun e w' =>
   e = .returned (.tuple #[]) ∧ ∃ al' : List EA, al'.Perm al ∧ al'.Pairwise (fun a b => lexB b.2 a.2 = false) ∧ w'.ownsRow B 39 1 (.slice (some ⟨o, 0, none⟩) n c) n (al'.map (fun a => a.1)) ∧ Lv (fun b => b = o) w w' := by
 obtain ⟨ls, hls⟩ := sub_list al hr
 obtain ⟨a0, ha0⟩ := get_some (xs := al) (k := 0) (by omega)
 haveI : Inhabited {a : EA // RwA B o w a} := ⟨⟨a0, hr a0 (List.mem_of_getElem? ha0)⟩⟩
 have hll : ls.length = n := by rw [← hn, ← hls, List.length_map]
 have hsz : ls.toArray.size = n := by simp [hll]
 have hoe : w.ownsRow B 39 1 (.slice (some ⟨o, 0, none⟩) n c) n (ls.map (fun x => x.1.1)) := by
  have : ls.map (fun x => x.1.1) = al.map (fun a => a.1) := by rw [← hls, List.map_map]; rfl
  rw [this]; exact ho
 have hH := holdsG (fun x : {a : EA // RwA B o w a} => x.1.1) hoe hll
 have hblk : o < w.heap.size := by
  rcases ho.2 with ⟨e, _⟩ | ⟨g', cap, cur, e, _, hg, _⟩
  ·cases e
  ·cases e; exact lt_of_block hg
 have hcmp : CmpReads Tryz.prog 118 #[] (fun x : {a : EA // RwA B o w a} => x.1.1) (fun x y => cmpL x.1.2 y.1.2) o 0 ls.toArray.size w := by
  intro m os dk hdk x y
  have hv : Lv (fun b => b = o) w (sortWorld (fun x : {a : EA // RwA B o w a} => x.1.1) w o 0 m dk os) := lv_putG _ dk os
  obtain ⟨gx, dx, ex, -, hix⟩ := x.2.lv hv
  obtain ⟨gy, dy, ey, -, hiy⟩ := y.2.lv hv
  refine (slicesCompare_fn _ _ x.1.2 y.1.2 _ hix.at hiy.at).mono ?_
  rintro e w' ⟨rfl, rfl⟩
  exact ⟨rfl, 0, rfl⟩
 have hone : OneCell (fun x : {a : EA // RwA B o w a} => x.1.1) := fun x => by
  obtain ⟨gx, dx, ex, -, -⟩ := x.2
  show x.1.1.oneCell' = true
  rw [ex]; rfl
 have hcon := Any.slices_SortFunc Tryz.laysSlF6_f117 (fun x : {a : EA // RwA B o w a} => x.1.1) hone (fun x y => cmpL x.1.2 y.1.2) (swoL (fun x : {a : EA // RwA B o w a} => x.1.2)) 118 #[] o 0 c ls.toArray w (enters_of Tryz.func118 (by kernel_rfl) rfl) hcmp.lays hH hblk (by omega)
 rw [hsz] at hcon
 refine Calls.mono (show Calls Tryz.prog 117 _ _ _ from hcon) ?_
 rintro e w' ⟨rfl, d', m, os, hp, hs, rfl⟩
 have hd' : d'.size = n := by rw [hp.1, hsz]
 have hpl : d'.toList.Perm ls := by
  have h := hp.2.2
  have e1 : d'.extract 0 n = d' := by rw [← hd']; simp
  have e2 : ls.toArray.extract 0 n = ls.toArray := by rw [← hsz]; simp
  rw [e1, e2] at h
  simpa using h
 refine ⟨rfl, d'.toList.map (fun x => x.1), by rw [← hls]; exact hpl.map _, ?_, ?_, lv_putG _ d' os⟩
 ·refine List.pairwise_iff_getElem.2 (fun i j hi hj hij => ?_)
  have hi' : i < d'.size := by simpa using hi
  have hj' : j < d'.size := by simpa using hj
  have h := hs i j (Nat.zero_le _) hij (by omega)
  have e : ltOf (fun x y : {a : EA // RwA B o w a} => cmpL x.1.2 y.1.2) d'[j]! d'[i]! = lexB d'[j]!.1.2 d'[i]!.1.2 := cmpL_lex _ _
  rw [e, getElem!_pos d' j hj', getElem!_pos d' i hi'] at h
  simpa using h
 ·have h := row_putG (m := m) (ts := d'.toList) (fun x : {a : EA // RwA B o w a} => x.1.1) os ho (by simpa using hd')
  rw [List.map_map]
  have e : d'.toList.toArray = d' := by simp
  rw [e] at h
  exact h
end Go.Proofs.YtklehkkclojccaaGreat
namespace Go.Proofs.YtklehkkclojccaaGreat
open Go.RowKit Go.Maps
def lvB (ars : List Arr) (ps : List Pt) : List Int := lvF (cntB ars ps) (depsB ars ps)
end Go.Proofs.YtklehkkclojccaaGreat
namespace Go.Proofs.YtklehkkclojccaaGreat
open Go.RowKit Go.Maps
theorem evs_uses (ars : List Arr) (ps : List Pt) : kEv (evsOf ars ps) = kOf (usesM ars ps) := by rw [usesM_ev]; rfl
theorem dl_deps {ars : List Arr} {ps : List Pt} (hb : progB ars ps = true) : dpOf (kEv (evsOf ars ps)) (prTo (cntB ars ps) (cntB ars ps)) = depsB ars ps := by
 rw [dpOf_all, evs_uses]
 unfold cntB depsB
 rw [if_pos hb, if_pos hb]
theorem evs_cnt {ars : List Arr} {ps : List Pt} (hb : progB ars ps = true) : (evsOf ars ps).length = cntB ars ps := by
 unfold cntB
 rw [if_pos hb]
 simp [evsOf]
end Go.Proofs.YtklehkkclojccaaGreat
namespace Go.Proofs.YtklehkkclojccaaGreat
open Go.RowKit Go.Maps
attribute [local go_sem] Oper.semAt_some
def blkOf (v : Value) : Nat := v.ownBlock.getD 0
def DiI (W4 : World) (LB : Nat) (F : List D3 → List (List Int)) (s : List D3) (own : List Nat) (X : World) : Prop :=
 ∃ row p n c, ∃ al : List EA, own = LB :: row ∧ (∀ b ∈ row, W4.heap.size ≤ b) ∧ Lv (fun k => k = LB) W4 X ∧ X.heap[LB]? = some (.cells #[.slice p n c] 46 (0, 0)) ∧ al.length = n ∧ al.map (fun a => a.2) = F s ∧
  X.ownsRow W4.heap.size 39 1 (.slice p n c) n (al.map (fun a => a.1)) ∧ (∀ b, (Value.slice p n c).ownBlock = some b → b ∈ row) ∧ (∀ a ∈ al, ∃ g cg, a.1 = .slice (some ⟨g, 0, none⟩) a.2.length cg ∧ g ∈ row ∧ IntsOwn W4.heap.size X a.1 a.2) ∧ (al.map (fun a => blkOf a.1)).Nodup
theorem DiI.keep {W4 : World} {LB : Nat} {F : List D3 → List (List Int)} {s s' : List D3} {own : List Nat} {X X' : World} (h : DiI W4 LB F s own X) (hF : F s' = F s) (hv : Lv (fun k => k ∉ own ∧ W4.heap.size ≤ k) X X') : DiI W4 LB F s' own X' := by
 obtain ⟨row, p, n, c, al, rfl, h1, h2, h3, h4, h5, h6, h7, h8, h9⟩ := h
 refine ⟨row, p, n, c, al, rfl, h1, h2.trans hv (fun _ _ h => h) (fun b hb h => by have := h.2; omega), hv.heap h3 (fun h => h.1 (by simp)), h4, by rw [hF]; exact h5, row_lv h6 hv (fun b hb h => h.1 (by simp [h7 b hb])), h7, fun a ha => ?_, h9⟩
 obtain ⟨g, cg, e, hg, hi⟩ := h8 a ha
 refine ⟨g, cg, e, hg, row_lv hi hv (fun b hb h => h.1 ?_)⟩
 rw [e] at hb
 simp only [Value.ownBlock, Option.some.injEq] at hb
 subst hb
 simp [hg]
theorem DiI.stable (W4 : World) (LB : Nat) (F : List D3 → List (List Int)) : StableB W4.heap.size (DiI W4 LB F) := fun _ _ _ _ h hv => h.keep rfl hv
theorem types_ne {B B' o g n m c d : Nat} {X : World} {vs : List Value} {xs : List Int} (h : X.ownsRow B 39 1 (.slice (some ⟨o, 0, none⟩) n c) n vs) (hi : IntsOwn B' X (.slice (some ⟨g, 0, none⟩) m d) xs) : g ≠ o := by
 rintro rfl
 rcases h.2 with ⟨e, _⟩ | ⟨g1, cap, cur, e, _, hg, _⟩
 ·cases e
 ·cases e
  rcases hi.2 with ⟨e, _⟩ | ⟨g2, cap2, cur2, e, _, hg2, _⟩
  ·cases e
  ·cases e
   rw [hg] at hg2
   simp at hg2
theorem DiI.step {W4 X A w7 v4 : World} {LB n c gq ly cq gr dr Bq : Nat} {p : Option Addr} {row : List Nat} {al : List EA} {F : List D3 → List (List Int)} {s s' : List D3} {x : List Int}
  (hrow : ∀ b ∈ row, W4.heap.size ≤ b) (hLV : Lv (fun k => k = LB) W4 X) (hLW : LB < W4.heap.size) (hLB : X.heap[LB]? = some (.cells #[.slice p n c] 46 (0, 0))) (han : al.length = n) (has : al.map (fun a => a.2) = F s)
  (hblk : ∀ b, (Value.slice p n c).ownBlock = some b → b ∈ row) (hrows : ∀ a ∈ al, ∃ g cg, a.1 = .slice (some ⟨g, 0, none⟩) a.2.length cg ∧ g ∈ row ∧ IntsOwn W4.heap.size X a.1 a.2) (hnd : (al.map (fun a => blkOf a.1)).Nodup) (hob : ∀ b ∈ LB :: row, b < X.heap.size)
  (hown : X.ownsRow W4.heap.size 39 1 (.slice p n c) n (al.map (fun a => a.1))) (hF : F s' = F s ++ [x]) (hx : x.length = ly) (EXA : Ext X A) (hA : A = v4.alloc (.cells #[.slice (some ⟨gq, 0, none⟩) ly cq] 39)) (hdo : IntsOwn Bq v4 (.slice (some ⟨gq, 0, none⟩) ly cq) x) (hd0 : X.heap.size ≤ gq) (hd1 : gq < A.heap.size) (hBq : Bq = gq ∨ W4.heap.size ≤ Bq)
  (hgr : A.grownBy w7 (Value.slice p n c).ownBlock) (hown7 : w7.ownsRow W4.heap.size 39 1 (.slice (some ⟨gr, 0, none⟩) (n + 1) dr) (n + 1) (al.map (fun a => a.1) ++ [.slice (some ⟨gq, 0, none⟩) ly cq]))
  (hat : (Value.slice (some ⟨gr, 0, none⟩) (n + 1) dr).ownBlock = (Value.slice p n c).ownBlock ∨ (Value.slice (some ⟨gr, 0, none⟩) (n + 1) dr).ownBlock = some A.heap.size) :
  ∃ own', Grew (LB :: row) own' X (w7.setCell ⟨LB, 0, none⟩ (.slice (some ⟨gr, 0, none⟩) (n + 1) dr)) ∧ DiI W4 LB F s' own' (w7.setCell ⟨LB, 0, none⟩ (.slice (some ⟨gr, 0, none⟩) (n + 1) dr)) := by
 have hsX := hLV.size
 have hsA := EXA.size_le
 have hs7 := hgr.size
 have hv7 : Lv (fun k => k ∈ row) X w7 := (EXA.lv (D := fun _ => False)).trans (Lv.grown (D := fun k => k ∈ row) hgr (fun r e _ => hblk r e)) (fun _ _ h => h.elim) (fun _ _ h => h)
 have hset := lv_set w7 LB 0 (.slice (some ⟨gr, 0, none⟩) (n + 1) dr)
 have hvS : Lv (fun k => k ∈ LB :: row) X (w7.setCell ⟨LB, 0, none⟩ (.slice (some ⟨gr, 0, none⟩) (n + 1) dr)) := hv7.trans hset (fun b _ h => by simp [h]) (fun b _ h => by simp [h])
 have hLne : some LB ≠ (Value.slice p n c).ownBlock := fun e => by have := hrow LB (hblk LB e.symm); omega
 have hL7 := grownBy_blk hgr (EXA.blk hLB) hLne
 have hgrr : gr ∈ row ∨ X.heap.size ≤ gr := by
  rcases hat with h | h
  ·exact .inl (hblk gr h.symm)
  ·simp only [Value.ownBlock, Option.some.injEq] at h; exact .inr (by omega)
 have hgrl := (hown7.lt gr rfl).2
 have hgrb := (hown7.lt gr rfl).1
 have hss : (w7.setCell ⟨LB, 0, none⟩ (.slice (some ⟨gr, 0, none⟩) (n + 1) dr)).heap.size = w7.heap.size := by simp
 have hnx : IntsOwn W4.heap.size A (.slice (some ⟨gq, 0, none⟩) ly cq) x := by
  have h1 : IntsOwn Bq A (.slice (some ⟨gq, 0, none⟩) ly cq) x := by rw [hA]; exact hdo.ext ((Ext.refl v4).alloc _)
  rcases hBq with e | e
  ·exact IntsOwn.weak (B := Bq) h1 (by omega)
  ·exact h1.weak e
 have hqn : ∀ b, (Value.slice p n c).ownBlock = some b → b ≠ gq := fun b hb => by have := hob b (by simp [hblk b hb]); omega
 refine ⟨LB :: (row ++ [gq, gr]), ⟨hvS, fun b hb => ?_⟩, row ++ [gq, gr], some ⟨gr, 0, none⟩, n + 1, dr, al ++ [(.slice (some ⟨gq, 0, none⟩) ly cq, x)], rfl, fun b hb => ?_, ?_, blk1_set hL7, by simp [han], by rw [List.map_append, has, hF]; rfl, ?_, fun b hb => ?_, fun a ha => ?_, ?_⟩
 ·simp only [List.mem_cons, List.mem_append, List.not_mem_nil, or_false] at hb
  rw [hss]
  rcases hb with hb | hb | hb | hb
  ·exact ⟨.inl (by simp [hb]), by have := hob b (by simp [hb]); omega⟩
  ·exact ⟨.inl (by simp [hb]), by have := hob b (by simp [hb]); omega⟩
  ·exact ⟨.inr (by omega), by omega⟩
  ·subst hb
   exact ⟨hgrr.imp (fun h => by simp [h]) id, hgrl⟩
 ·simp only [List.mem_append, List.mem_cons, List.not_mem_nil, or_false] at hb
  rcases hb with hb | hb | hb
  ·exact hrow b hb
  ·omega
  ·omega
 ·exact (hLV.trans hv7 (E := fun k => k = LB) (fun _ _ h => h) (fun b hb h => by have := hrow b h; omega)).trans hset (fun _ _ h => h) (fun _ _ h => h)
 ·rw [List.map_append]
  exact row_lv hown7 hset (fun b hb h => by simp only [Value.ownBlock, Option.some.injEq] at hb; omega)
 ·simp only [Value.ownBlock, Option.some.injEq] at hb; simp [hb]
 ·rcases List.mem_append.1 ha with h | h
  ·obtain ⟨g, cg, e, hg, hi⟩ := hrows a h
   refine ⟨g, cg, e, by simp [hg], ?_⟩
   have hne : ∀ b, (Value.slice p n c).ownBlock = some b → b ≠ g := fun b hb e2 => by
    subst e2
    rcases p with _ | ⟨b', o', s'⟩
    ·simp [Value.ownBlock] at hb
    ·have hf := own_form' hown (by simp)
     obtain ⟨gg, dd, e3, -⟩ := hf
     rw [e3] at hb hown
     simp only [Value.ownBlock, Option.some.injEq] at hb
     subst hb
     rw [e] at hi
     exact types_ne hown hi rfl
   have h7 : IntsOwn W4.heap.size w7 a.1 a.2 := row_lv hi ((EXA.lv (D := fun _ => False)).trans (Lv.grown (D := fun k => (Value.slice p n c).ownBlock = some k) hgr (fun r e _ => e)) (E := fun k => (Value.slice p n c).ownBlock = some k) (fun _ _ h => h.elim) (fun _ _ h => h)) (fun b hb hd => by
    rw [e] at hb
    simp only [Value.ownBlock, Option.some.injEq] at hb
    exact hne b hd hb.symm)
   exact row_lv h7 hset (fun b hb hd => by
    rw [e] at hb
    simp only [Value.ownBlock, Option.some.injEq] at hb
    have := hrow g hg; omega)
  ·simp only [List.mem_singleton] at h
   subst h
   refine ⟨gq, cq, by rw [hx], by simp, ?_⟩
   have h7 : IntsOwn W4.heap.size w7 (.slice (some ⟨gq, 0, none⟩) ly cq) x := row_lv hnx (Lv.grown (D := fun k => (Value.slice p n c).ownBlock = some k) hgr (fun r e _ => e)) (fun b hb hd => by
    simp only [Value.ownBlock, Option.some.injEq] at hb
    exact hqn b hd hb.symm)
   exact row_lv h7 hset (fun b hb hd => by simp only [Value.ownBlock, Option.some.injEq] at hb; omega)
 ·rw [List.map_append]
  refine List.nodup_append.2 ⟨hnd, by simp, fun a ha b hb => ?_⟩
  obtain ⟨y, hy, rfl⟩ := List.mem_map.1 ha
  simp [blkOf, Value.ownBlock] at hb
  obtain ⟨g, cg, e, hg, -⟩ := hrows y hy
  have := hob g (by simp [hg])
  rw [e]
  simp only [blkOf, Value.ownBlock, Option.getD_some]
  omega
def dEv (es : List Ev) (z : Int) (d : D3) : Option (List Int) := match es[d.1]?, es[d.2.1]? with
 | some a, some b => if (a.1.1 : Int) = z ∧ (b.1.1 : Int) = z then some (subL b.1.2.2 a.1.2.2) else none
 | _, _ => none
def dsE (es : List Ev) (z : Int) (s : List D3) : List (List Int) := s.filterMap (dEv es z)
theorem dsE_next (es : List Ev) (z : Int) (s : List D3) (d : D3) : dsE es z (s ++ [d]) = dsE es z s ++ (dEv es z d).toList := by
 unfold dsE
 rw [List.filterMap_append]
 cases h : dEv es z d <;> simp [h]
theorem dEv_is {es : List Ev} {z : Int} {d : D3} {a b : Ev} (ha : es[d.1]? = some a) (hb : es[d.2.1]? = some b) : dEv es z d = if (a.1.1 : Int) = z ∧ (b.1.1 : Int) = z then some (subL b.1.2.2 a.1.2.2) else none := by
 unfold dEv; rw [ha, hb]
theorem dEv_ins (ars : List Arr) (ps : List Pt) (z : Int) (d : D3) : dEv (evsOf ars ps) z d = dAt ps z d := by
 unfold dEv dAt evsOf
 rw [List.getElem?_map, List.getElem?_map]
 cases (insM ps)[d.1]? <;> cases (insM ps)[d.2.1]? <;> rfl
theorem ext_set5 {w W : World} (h : Ext w W) {g : Nat} (hg : w.heap.size ≤ g) (a b c d e : Value) : Ext w (((((W.setCell ⟨g, 0, none⟩ a).setCell ⟨g, 1, none⟩ b).setCell ⟨g, 2, none⟩ c).setCell ⟨g, 3, none⟩ d).setCell ⟨g, 4, none⟩ e) :=
 ((((h.setAt hg a).setAt hg b).setAt hg c).setAt hg d).setAt hg e
theorem ptsD_of {B o m c : Nat} {w : World} {cs : List EA} (ho : w.ownsRow B 39 1 (.slice (some ⟨o, 0, none⟩) m c) m (cs.map (fun a => a.1))) (hm : cs.length = m) (hr : ∀ a ∈ cs, ∃ g cg, a.1 = .slice (some ⟨g, 0, none⟩) a.2.length cg ∧ IntsOwn B w a.1 a.2) (hnd : (cs.map (fun a => blkOf a.1)).Nodup) :
  PtsD (o :: cs.map (fun a => blkOf a.1)) B w (.slice (some ⟨o, 0, none⟩) m c) (cs.map (fun a => a.2)) := by
 refine ⟨_, by rw [List.length_map, hm]; exact ho, fun b h => by simp only [Value.ownBlock, Option.some.injEq] at h; simp [h], fun i xs hi => ?_⟩
 rw [List.getElem?_map] at hi
 obtain ⟨a, ha, rfl⟩ := Option.map_eq_some_iff.1 hi
 obtain ⟨g, cg, e, hio⟩ := hr a (List.mem_of_getElem? ha)
 refine ⟨g, cg, by rw [List.getElem?_map, ha, ← e]; rfl, by rw [← e]; exact hio, ?_, fun j g' n' c' hj hvj => ?_⟩
 ·refine List.mem_cons_of_mem _ (List.mem_map.2 ⟨a, List.mem_of_getElem? ha, ?_⟩)
  rw [e]; rfl
 ·rw [List.getElem?_map] at hvj
  obtain ⟨a', ha', e'⟩ := Option.map_eq_some_iff.1 hvj
  intro heq
  have h1 : (cs.map (fun a => blkOf a.1))[j]? = some g := by rw [List.getElem?_map, ha', Option.map_some, e', ← heq]; rfl
  have h2 : (cs.map (fun a => blkOf a.1))[i]? = some g := by rw [List.getElem?_map, ha, Option.map_some, e]; rfl
  obtain ⟨k1, e1⟩ := List.getElem?_eq_some_iff.1 h1
  obtain ⟨k2, e2⟩ := List.getElem?_eq_some_iff.1 h2
  have := (List.pairwise_iff_getElem.1 hnd) j i k1 k2 hj
  exact this (e1.trans e2.symm)
theorem ptsD_weak {own : List Nat} {B B' : Nat} {X : World} {v : Value} {xss : List (List Int)} (h : PtsD own B X v xss) (hB : B' ≤ B) : PtsD own B' X v xss := by
 obtain ⟨vs, ho, hb, he⟩ := h
 exact ⟨vs, ownsRow_weak ho hB, hb, fun i xs hi => by obtain ⟨g, c, h1, h2, h3, h4⟩ := he i xs hi; exact ⟨g, c, h1, h2.weak hB, h3, h4⟩⟩
theorem row_tagne {B n c g : Nat} {p : Option Addr} {t t' : TypeId} {X : World} {vs : List Value} {cs : Array Value} (h : X.ownsRow B t 1 (.slice p n c) n vs) (hg : X.heap[g]? = some (.cells cs t' (0, 0))) (hne : t' ≠ t) : some g ≠ (Value.slice p n c).ownBlock := by
 rcases h.2 with ⟨e, _⟩ | ⟨g1, cap, cur, e, _, hg1, _⟩
 ·rw [e]; simp [Value.ownBlock]
 ·rw [e]
  intro h2
  simp only [Value.ownBlock, Option.some.injEq] at h2
  subst h2
  rw [hg] at hg1
  simp only [Option.some.injEq, Obj.cells.injEq] at hg1
  exact hne hg1.2.1
set_option linter.unusedVariables false in
set_option linter.unusedSimpArgs false in
set_option maxRecDepth 100000 in
set_option maxHeartbeats 8000000 in
theorem distances_any (B : Nat) (es : List Ev) (mo : Option Nat) (T : Int) (q1 q2 : Option Addr) (n1 c1 M c2 : Nat) (z : Int) (w : World) (hM : es.length = M) (hM120 : M ≤ 120) (hev : EvsOwn B w (.slice q2 M c2) es)
  (hes : ∀ a ∈ es, ∀ b ∈ es, a.1.2.2.length ≤ 4 ∧ (∀ x ∈ a.1.2.2, -1000000 ≤ x ∧ x ≤ 1000000) ∧ (∀ x ∈ b.1.2.2, -1000000 ≤ x ∧ x ≤ 1000000) ∧ (a.1.1 = b.1.1 → b.1.2.2.length = a.1.2.2.length)) :
  Calls Tryz.prog 65 #[.agg #[.map mo, .int .i64 T, .slice q1 n1 c1, .slice q2 M c2], .int .i64 z] w fun e w' => (∃ v' own, e = .returned v' ∧ PtsD own w.heap.size w' v' (dstF (dsE es z (dpOf (kEv es) (prTo M M)))) ∧ ∀ b ∈ own, w.heap.size ≤ b ∧ b < w'.heap.size) ∧ Ext w w' := by
 obtain ⟨iS, hSi, hSz, hS1, hS2⟩ := info_parts infoSS
 have HM := Lib.hid hM; have HEV := Lib.hid hev; have HES := Lib.hid hes
 clear hM hev hes
 refine (callsIn_wide (n := 6)).1 ?_
 refine callsIn_of_wp_marks Tryz.func65 rfl trivial ?_ rfl
 simp only [Tryz.ntmps65, List.size_toArray, List.length_cons, List.length_nil, Nat.reduceAdd, Nat.reduceSub, Array.replicate_succ, Array.replicate_zero, List.push_toArray, List.append_toArray, List.nil_append, List.cons_append]
 have hdd : ∀ j : Nat, (Fence.wide.depth.isSome = true → 1 ≤ j) := fun j h => by cases h
 obtain ⟨g0, hg0⟩ : ∃ g0, w.heap.size = g0 := ⟨_, rfl⟩
 gi_wp2_with (fail)
 obtain ⟨W3, hW3⟩ : ∃ W3, (((w.alloc (.cells #[.map mo, .int .i64 T, .slice q1 n1 c1, .slice q2 M c2] 70)).alloc (.cells #[.int .i64 z] 3)).alloc (.cells #[.slice none 0 0] 46)) = W3 := ⟨_, rfl⟩
 have hs3 : W3.heap.size = g0 + 3 := by rw [← hW3, ← hg0]; simp
 have E3 : Hid (Ext w W3) := Lib.hid (by rw [← hW3]; exact (((Ext.refl w).alloc _).alloc _).alloc _)
 have K0 : Hid (W3.heap[g0]? = some (.cells #[.map mo, .int .i64 T, .slice q1 n1 c1, .slice q2 M c2] 70 (0, 0))) := Lib.hid (by rw [← hW3, ← hg0]; exact blk_old (blk_old (blk_at rfl)))
 have K1 : Hid (W3.heap[g0 + 1]? = some (.cells #[.int .i64 z] 3 (0, 0))) := Lib.hid (by rw [← hW3, ← hg0]; exact blk_old (blk_at (by simp)))
 have K2 : Hid (W3.heap[g0 + 1 + 1]? = some (.cells #[.slice none 0 0] 46 (0, 0))) := Lib.hid (by rw [← hW3, ← hg0]; exact blk_at (by simp))
 have HG0 := Lib.hid hg0; have HS3 := Lib.hid hs3
 try rw [hW3]
 try rw [hg0]
 clear hW3 hg0 hs3
 refine ⟨trivial, ?_⟩
 refine (callsIn_wide.2 (dependences_call mo T q1 q2 n1 c1 M c2 W3)).mono ?_
 rintro e w4 ⟨rfl, rfl⟩
 rw [HS3.out]
 obtain ⟨W4, hW4⟩ : ∃ W4, W3.alloc (.cells #[.map mo, .int .i64 T, .slice q1 n1 c1, .slice q2 M c2] 70) = W4 := ⟨_, rfl⟩
 have E34 : Ext W3 W4 := by rw [← hW4]; exact (Ext.refl W3).alloc _
 have HS4 : Hid (W4.heap.size = g0 + 4) := Lib.hid (by rw [← hW4]; simp [HS3.out])
 have KP : Hid (W4.heap[g0 + 3]? = some (.cells #[.map mo, .int .i64 T, .slice q1 n1 c1, .slice q2 M c2] 70 (0, 0))) := Lib.hid (by rw [← hW4]; exact blk_at HS3.out.symm)
 have J0 := Lib.hid (E34.blk K0.out); have J1 := Lib.hid (E34.blk K1.out); have J2 := Lib.hid (E34.blk K2.out); have E4 := Lib.hid (E3.out.trans E34)
 try rw [hW4]
 clear hW4 E34
 gi_wp2_with (fail)
 have hs4 := HS4.out; have hg0 := HG0.out
 refine wpIn_rangeFunc_baseA (w := W4) rfl (hdd _) (gf := 172) (lb := #[.pointer (some ⟨g0 + 3, 0, none⟩)]) rfl trivial (enters_of Tryz.func172 (by kernel_rfl) rfl)
  W4.heap.size (Nat.le_refl _) (dependences_seqZ W4.heap.size _ _ (g0 + 3) B es mo T q1 q2 n1 c1 M c2 w W4 HM.out hM120 HEV.out KP.out E4.out (Nat.le_refl _))
  (fun b h => by omega) (fun b h => h.elim) (fun x Wa Wb _ _ => trivial) (fun Wa Wb _ _ => trivial) (fun _ => rfl)
  (DiI W4 (g0 + 1 + 1) (dsE es z)) (fun _ _ _ _ => False) (DiI.stable _ _ _) (fun cd s own X X' h _ => h) [g0 + 1 + 1]
  (fun b hb => ⟨by simp at hb; omega, fun h => by simp at hb; omega⟩) ⟨[], none, 0, 0, [], rfl, by simp, Lv.refl _ _, J2.out, rfl, rfl, World.ownsRow_nil _ _ _ _, by simp [Value.ownBlock], by simp, by simp⟩
  (fun (d : D3) (a' : Act) (X : World) => ∃ g, X.heap[g]? = some (.cells #[.int .i64 (d.1 : Int), .int .i64 (d.2.1 : Int), .int .i64 d.2.2] 191 (0, 0)) ∧ a' = { tmps := #[.agg #[.map mo, .int .i64 T, .slice q1 n1 c1, .slice q2 M c2], .int .i64 z, .pointer (some ⟨g0, 0, none⟩), .pointer (some ⟨g0 + 1, 0, none⟩), .slice none 0 0, .pointer (some ⟨g0 + 1 + 1, 0, none⟩), .pointer (some ⟨g, 0, none⟩), undef, undef, .agg #[.map mo, .int .i64 T, .slice q1 n1 c1, .slice q2 M c2], .func (.func 172) #[] #[.pointer (some ⟨g0 + 3, 0, none⟩)], .agg #[.int .i64 (d.1 : Int), .int .i64 (d.2.1 : Int), .int .i64 d.2.2], undef, undef, undef, undef, undef, undef, undef, undef, undef, undef, undef, undef, undef, undef, undef, undef, undef, undef, undef, undef, undef, undef, undef, undef, undef, undef, undef, undef, undef, undef, undef, undef, undef, undef, undef, undef, undef, undef], defers := [] })
  ?ast ?assign ?body ?done ?stop
 case ast =>
  rintro x a' W W' l o ⟨g, h4, h5⟩ ho hv
  exact ⟨g, hv.heap h4 (fun e => by subst e; rw [h4] at ho; cases ho), h5⟩
 case assign =>
  intro l2 y X K hy hK
  obtain ⟨di, dk, dn⟩ := y
  dsimp only [encD]
  gi_wp2
  exact hK _ _ (Lv.alloc _ X _) ⟨X.heap.size, blk_at rfl, rfl⟩
 case body =>
  rintro l2 pre0 d ow a' X hdi hpx hrx hob ⟨g, hg, rfl⟩
  obtain ⟨row, p, n, c, al, rfl, hrow, hLV, hLB, han, has, hown, hblk, hrows, hnd⟩ := id hdi
  have hmem : d ∈ dpOf (kEv es) (prTo M M) := List.mem_of_getElem? (pre_get hpx)
  rw [dpOf_all] at hmem
  obtain ⟨-, hij, hjM, -⟩ := depsTo_mem hmem
  have hn2 : n ≤ 20000 := by
   have h1 := hpx.length_le
   have h2 := dl_len (kEv es) M hM120
   rw [List.length_append] at h1
   have h3 : (dsE es z pre0).length ≤ pre0.length := List.length_filterMap_le _ _
   rw [← has, List.length_map, han] at h3
   omega
  obtain ⟨x, hx⟩ := get_some (xs := es) (k := d.1) (by rw [HM.out]; omega)
  obtain ⟨y, hy⟩ := get_some (xs := es) (k := d.2.1) (by rw [HM.out]; omega)
  obtain ⟨hl4, hbx, hby, hlen⟩ := HES.out x (List.mem_of_getElem? hx) y (List.mem_of_getElem? hy)
  have hdn := dsE_next es z pre0 d
  rw [dEv_is hx hy] at hdn
  obtain ⟨i, j, dn⟩ := d
  dsimp only at hx hy hg hij hjM
  have EX : Ext w X := hLV.ext0 E4.out (fun b hb h => by omega)
  obtain ⟨o, gx, dx, rx, cx, hqo, hol, x0, x1, x2, x3, x4, hpx2, -⟩ := (HEV.out.ext EX).elem hx
  obtain ⟨o', gy, dy, ry, cy, ho', -, y0, y1, y2, y3, y4, hpy2, -⟩ := (HEV.out.ext EX).elem hy
  obtain rfl : o = o' := by rw [hqo] at ho'; cases ho'; rfl
  obtain ⟨ix, hix⟩ : ∃ i, x.1.1 = i := ⟨_, rfl⟩
  obtain ⟨iy, hiy⟩ : ∃ i, y.1.1 = i := ⟨_, rfl⟩
  obtain ⟨sx, hsx⟩ : ∃ i, x.1.2.1 = i := ⟨_, rfl⟩
  obtain ⟨sy, hsy⟩ : ∃ i, y.1.2.1 = i := ⟨_, rfl⟩
  obtain ⟨lx, hlx⟩ : ∃ i, x.1.2.2.length = i := ⟨_, rfl⟩
  obtain ⟨ly, hly⟩ : ∃ i, y.1.2.2.length = i := ⟨_, rfl⟩
  obtain ⟨kx, hkx⟩ : ∃ i, x.2.1.length = i := ⟨_, rfl⟩
  obtain ⟨ky, hky⟩ : ∃ i, y.2.1.length = i := ⟨_, rfl⟩
  obtain ⟨wx, hwx⟩ : ∃ i, x.2.2 = i := ⟨_, rfl⟩
  obtain ⟨wy, hwy⟩ : ∃ i, y.2.2 = i := ⟨_, rfl⟩
  rw [hix] at x0 hlen hdn; rw [hiy] at y0 hlen hdn; rw [hsx] at x1; rw [hsy] at y1; rw [hlx] at x2 hpx2 hlen hl4; rw [hly] at y2 hpy2 hlen; rw [hkx] at x3; rw [hky] at y3; rw [hwx] at x4; rw [hwy] at y4
  have HDI := Lib.hid hdi; have HROW := Lib.hid hrow; have HLVX := Lib.hid hLV; have HLB := Lib.hid hLB; have HAN := Lib.hid han; have HAS := Lib.hid has; have HOWN := Lib.hid hown; have HBLK := Lib.hid hblk; have HROWS := Lib.hid hrows; have HND := Lib.hid hnd
  have HOB : Hid (∀ b ∈ (g0 + 1 + 1) :: row, b < X.heap.size) := Lib.hid (fun b hb => (hob b hb).1)
  have HDN := Lib.hid hdn; have HLX := Lib.hid hlx; have HLY := Lib.hid hly; have HBX := Lib.hid hbx; have HBY := Lib.hid hby; have HPX := Lib.hid hpx2; have HPY := Lib.hid hpy2; have HLEN := Lib.hid hlen
  have KX0 := Lib.hid (hLV.heap J0.out (by omega)); have KX1 := Lib.hid (hLV.heap J1.out (by omega))
  obtain ⟨p0, p1, p2, p3, -⟩ := blk4f KX0.out
  rw [hqo] at p3
  obtain ⟨z0, z1, z2⟩ := blk3 hg
  have HGX := Lib.hid hg
  have hHeld0 : X.cell? ⟨g0, 3, none⟩ = some (.slice (some ⟨o, 0, none⟩) M c2) ∧ X.cell? ⟨g, 0, none⟩ = some (.int .i64 (i : Int)) ∧ X.cell? ⟨g, 1, none⟩ = some (.int .i64 (j : Int)) ∧ X.cell? ⟨o, i * 5, none⟩ = some (.int .i64 (ix : Int)) ∧ X.cell? ⟨o, i * 5 + 1, none⟩ = some (.int .i64 (sx : Int)) ∧ X.cell? ⟨o, i * 5 + 2, none⟩ = some (.slice (some ⟨gx, 0, none⟩) lx dx) ∧ X.cell? ⟨o, i * 5 + 3, none⟩ = some (.slice rx kx cx) ∧ X.cell? ⟨o, i * 5 + 4, none⟩ = some (.int .i64 wx) ∧ X.cell? ⟨o, j * 5, none⟩ = some (.int .i64 (iy : Int)) ∧ X.cell? ⟨o, j * 5 + 1, none⟩ = some (.int .i64 (sy : Int)) ∧ X.cell? ⟨o, j * 5 + 2, none⟩ = some (.slice (some ⟨gy, 0, none⟩) ly dy) ∧ X.cell? ⟨o, j * 5 + 3, none⟩ = some (.slice ry ky cy) ∧ X.cell? ⟨o, j * 5 + 4, none⟩ = some (.int .i64 wy) := ⟨p3, z0, z1, x0, x1, x2, x3, x4, y0, y1, y2, y3, y4⟩
  have HSO : Hid (∀ W : World, Ext X.drew W → W.cell? ⟨g0, 3, none⟩ = some (.slice (some ⟨o, 0, none⟩) M c2) ∧ W.cell? ⟨g, 0, none⟩ = some (.int .i64 (i : Int)) ∧ W.cell? ⟨g, 1, none⟩ = some (.int .i64 (j : Int)) ∧ W.cell? ⟨o, i * 5, none⟩ = some (.int .i64 (ix : Int)) ∧ W.cell? ⟨o, i * 5 + 1, none⟩ = some (.int .i64 (sx : Int)) ∧ W.cell? ⟨o, i * 5 + 2, none⟩ = some (.slice (some ⟨gx, 0, none⟩) lx dx) ∧ W.cell? ⟨o, i * 5 + 3, none⟩ = some (.slice rx kx cx) ∧ W.cell? ⟨o, i * 5 + 4, none⟩ = some (.int .i64 wx) ∧ W.cell? ⟨o, j * 5, none⟩ = some (.int .i64 (iy : Int)) ∧ W.cell? ⟨o, j * 5 + 1, none⟩ = some (.int .i64 (sy : Int)) ∧ W.cell? ⟨o, j * 5 + 2, none⟩ = some (.slice (some ⟨gy, 0, none⟩) ly dy) ∧ W.cell? ⟨o, j * 5 + 3, none⟩ = some (.slice ry ky cy) ∧ W.cell? ⟨o, j * 5 + 4, none⟩ = some (.int .i64 wy)) := Lib.hid (fun W hW => by
   have hE := (Ext.refl X).drew.trans hW
   exact ⟨hE.keep p3, hE.keep z0, hE.keep z1, hE.keep x0, hE.keep x1, hE.keep x2, hE.keep x3, hE.keep x4, hE.keep y0, hE.keep y1, hE.keep y2, hE.keep y3, hE.keep y4⟩)
  obtain ⟨XD, hXD⟩ : ∃ XD, X.drew = XD := ⟨_, rfl⟩
  rw [hXD] at HSO
  have HXD : Hid (Ext X XD) := Lib.hid (by rw [← hXD]; exact (Ext.refl X).drew)
  have HDX := Lib.hid hXD
  have hiI : (i : Int) < (M : Int) := by omega
  have hjI : (j : Int) < (M : Int) := by omega
  have HHELD : Hid (XD.cell? ⟨g0, 3, none⟩ = some (.slice (some ⟨o, 0, none⟩) M c2) ∧ XD.cell? ⟨g, 0, none⟩ = some (.int .i64 (i : Int)) ∧ XD.cell? ⟨g, 1, none⟩ = some (.int .i64 (j : Int)) ∧ XD.cell? ⟨o, i * 5, none⟩ = some (.int .i64 (ix : Int)) ∧ XD.cell? ⟨o, i * 5 + 1, none⟩ = some (.int .i64 (sx : Int)) ∧ XD.cell? ⟨o, i * 5 + 2, none⟩ = some (.slice (some ⟨gx, 0, none⟩) lx dx) ∧ XD.cell? ⟨o, i * 5 + 3, none⟩ = some (.slice rx kx cx) ∧ XD.cell? ⟨o, i * 5 + 4, none⟩ = some (.int .i64 wx) ∧ XD.cell? ⟨o, j * 5, none⟩ = some (.int .i64 (iy : Int)) ∧ XD.cell? ⟨o, j * 5 + 1, none⟩ = some (.int .i64 (sy : Int)) ∧ XD.cell? ⟨o, j * 5 + 2, none⟩ = some (.slice (some ⟨gy, 0, none⟩) ly dy) ∧ XD.cell? ⟨o, j * 5 + 3, none⟩ = some (.slice ry ky cy) ∧ XD.cell? ⟨o, j * 5 + 4, none⟩ = some (.int .i64 wy)) := Lib.hid (HSO.out XD (Ext.refl XD))
  clear hdi hrow hLV hLB han has hown hblk hrows hnd hob hpx hrx hmem hx hy hdn hlx hly hbx hby hpx2 hpy2 hlen EX hqo ho' hix hiy hsx hsy hkx hky hwx hwy hg p0 p1 p2 p3 z0 z1 z2 x0 x1 x2 x3 x4 y0 y1 y2 y3 y4 hHeld0 hXD
  gi_wp2_with (fail)
  refine Code.wpIn_mono (Q := fun ex a wz => ex = .normal ∧ ∃ (g7 g8 : Nat) (u12 u13 u14 u15 u16 u17 u18 u19 u20 u21 u22 u23 : Value), a = { tmps := #[.agg #[.map mo, .int .i64 T, .slice q1 n1 c1, .slice q2 M c2], .int .i64 z, .pointer (some ⟨g0, 0, none⟩), .pointer (some ⟨g0 + 1, 0, none⟩), .slice none 0 0, .pointer (some ⟨g0 + 1 + 1, 0, none⟩), .pointer (some ⟨g, 0, none⟩), .pointer (some ⟨g7, 0, none⟩), .pointer (some ⟨g8, 0, none⟩), .agg #[.map mo, .int .i64 T, .slice q1 n1 c1, .slice q2 M c2], .func (.func 172) #[] #[.pointer (some ⟨g0 + 3, 0, none⟩)], .agg #[.int .i64 (i : Int), .int .i64 (j : Int), .int .i64 dn], u12, u13, u14, u15, u16, u17, u18, u19, u20, u21, u22, u23, undef, undef, undef, undef, undef, undef, undef, undef, undef, undef, undef, undef, undef, undef, undef, undef, undef, undef, undef, undef, undef, undef, undef, undef, undef, undef], defers := [] } ∧ Ext X wz ∧ wz.heap[g7]? = some (.cells #[.int .i64 (ix : Int), .int .i64 (sx : Int), .slice (some ⟨gx, 0, none⟩) lx dx, .slice rx kx cx, .int .i64 wx] 76 (0, 0)) ∧ wz.heap[g8]? = some (.cells #[.int .i64 (iy : Int), .int .i64 (sy : Int), .slice (some ⟨gy, 0, none⟩) ly dy, .slice ry ky cy, .int .i64 wy] 76 (0, 0)) ∧ g7 ≠ g8) ?rest ?reg
  case reg =>
   refine wpIn_round_held (S := fun W => W.cell? ⟨g0, 3, none⟩ = some (.slice (some ⟨o, 0, none⟩) M c2) ∧ W.cell? ⟨g, 0, none⟩ = some (.int .i64 (i : Int)) ∧ W.cell? ⟨g, 1, none⟩ = some (.int .i64 (j : Int)) ∧ W.cell? ⟨o, i * 5, none⟩ = some (.int .i64 (ix : Int)) ∧ W.cell? ⟨o, i * 5 + 1, none⟩ = some (.int .i64 (sx : Int)) ∧ W.cell? ⟨o, i * 5 + 2, none⟩ = some (.slice (some ⟨gx, 0, none⟩) lx dx) ∧ W.cell? ⟨o, i * 5 + 3, none⟩ = some (.slice rx kx cx) ∧ W.cell? ⟨o, i * 5 + 4, none⟩ = some (.int .i64 wx) ∧ W.cell? ⟨o, j * 5, none⟩ = some (.int .i64 (iy : Int)) ∧ W.cell? ⟨o, j * 5 + 1, none⟩ = some (.int .i64 (sy : Int)) ∧ W.cell? ⟨o, j * 5 + 2, none⟩ = some (.slice (some ⟨gy, 0, none⟩) ly dy) ∧ W.cell? ⟨o, j * 5 + 3, none⟩ = some (.slice ry ky cy) ∧ W.cell? ⟨o, j * 5 + 4, none⟩ = some (.int .i64 wy)) (by kernel_rfl) (by kernel_rfl) (fun ⟨_, _, h⟩ => by cases h.1) (by rw [HDX.out]; exact HHELD.out) (fun hHeld => ?_)
   rw [HDX.out] at hHeld ⊢
   have HE : Hid (Ext XD XD) := Lib.hid (Ext.refl XD)
   refine wpAnyH_takeDw (some 12) (i := 0) (v := ?vd1) rfl (by kernel_rfl) (by kernel_rfl) (by kernel_rfl) (by kernel_rfl) (fun _ _ _ h => by cases h.1) (Or.inl ⟨by rfl, ?hyd1⟩) (by assumption) ?rd1
   case hyd1 => intro w hSw; (try dsimp only at hSw); go_simp; first | done | with_reducible rfl
   case' rd1 => try simp only [Act.put, sA9, sZ9, sS9]
   refine wpAnyH_takeDw (some 13) (i := 1) (v := ?vd2) rfl (by kernel_rfl) (by kernel_rfl) (by kernel_rfl) (by kernel_rfl) (fun _ _ _ h => by cases h.1) (Or.inl ⟨by rfl, ?hyd2⟩) (by assumption) ?rd2
   case hyd2 => intro w hSw; (try dsimp only at hSw); go_simp; first | done | with_reducible rfl
   case' rd2 => try simp only [Act.put, sA9, sZ9, sS9]
   refine wpAnyH_takeDw (some 14) (i := 2) (v := ?vd3) rfl (by kernel_rfl) (by kernel_rfl) (by kernel_rfl) (by kernel_rfl) (fun _ _ _ h => by cases h.1) (Or.inl ⟨by rfl, ?hyd3⟩) (by assumption) ?rd3
   case hyd3 => intro w hSw; (try dsimp only at hSw); go_simp; first | done | with_reducible rfl
   case' rd3 => try simp only [Act.put, sA9, sZ9, sS9]
   refine wpAnyH_takeDw (some 15) (i := 3) (v := ?vd4) rfl (by kernel_rfl) (by kernel_rfl) (by kernel_rfl) (by kernel_rfl) (fun _ _ _ h => by cases h.1) (Or.inl ⟨by rfl, ?hyd4⟩) (by assumption) ?rd4
   case hyd4 => intro w hSw; (try dsimp only at hSw); go_simp; first | done | with_reducible rfl
   case' rd4 => try simp only [Act.put, sA9, sZ9, sS9]
   refine wpAnyH_takeDw (some 16) (i := 4) (v := ?vd5) rfl (by kernel_rfl) (by kernel_rfl) (by kernel_rfl) (by kernel_rfl) (fun _ _ _ h => by cases h.1) (Or.inl ⟨by rfl, ?hyd5⟩) (by assumption) ?rd5
   case hyd5 => intro w hSw; (try dsimp only at hSw); go_simp; first | done | with_reducible rfl
   case' rd5 => try simp only [Act.put, sA9, sZ9, sS9]
   refine wpAnyH_takeDw (some 17) (i := 5) (v := ?vd6) rfl (by kernel_rfl) (by kernel_rfl) (by kernel_rfl) (by kernel_rfl) (fun _ _ _ h => by cases h.1) (Or.inl ⟨by rfl, ?hyd6⟩) (by assumption) ?rd6
   case hyd6 => intro w hSw; (try dsimp only at hSw); go_simp; first | done | with_reducible rfl
   case' rd6 => try simp only [Act.put, sA9, sZ9, sS9]
   refine wpAnyH_takeDw (some 18) (i := 6) (v := ?vd7) rfl (by kernel_rfl) (by kernel_rfl) (by kernel_rfl) (by kernel_rfl) (fun _ _ _ h => by cases h.1) (Or.inl ⟨by rfl, ?hyd7⟩) (by assumption) ?rd7
   case hyd7 => intro w hSw; (try dsimp only at hSw); go_simp; first | done | with_reducible rfl
   case' rd7 => try simp only [Act.put, sA9, sZ9, sS9]
   refine wpAnyH_takeDw (some 19) (i := 7) (v := ?vd8) rfl (by kernel_rfl) (by kernel_rfl) (by kernel_rfl) (by kernel_rfl) (fun _ _ _ h => by cases h.1) (Or.inl ⟨by rfl, ?hyd8⟩) (by assumption) ?rd8
   case hyd8 => intro w hSw; (try dsimp only at hSw); go_simp; first | done | with_reducible rfl
   case' rd8 => try simp only [Act.put, sA9, sZ9, sS9]
   refine wpAnyH_takeDw (some 20) (i := 8) (v := ?vd9) rfl (by kernel_rfl) (by kernel_rfl) (by kernel_rfl) (by kernel_rfl) (fun _ _ _ h => by cases h.1) (Or.inl ⟨by rfl, ?hyd9⟩) (by assumption) ?rd9
   case hyd9 => intro w hSw; (try dsimp only at hSw); go_simp; first | done | with_reducible rfl
   case' rd9 => try simp only [Act.put, sA9, sZ9, sS9]
   refine wpAnyH_takeDw (some 21) (i := 9) (v := ?vd10) rfl (by kernel_rfl) (by kernel_rfl) (by kernel_rfl) (by kernel_rfl) (fun _ _ _ h => by cases h.1) (Or.inl ⟨by rfl, ?hyd10⟩) (by assumption) ?rd10
   case hyd10 => intro w hSw; (try dsimp only at hSw); go_simp; first | done | with_reducible rfl
   case' rd10 => try simp only [Act.put, sA9, sZ9, sS9]
   refine wpAnyH_takeDw (some 22) (i := 10) (v := ?vd11) rfl (by kernel_rfl) (by kernel_rfl) (by kernel_rfl) (by kernel_rfl) (fun _ _ _ h => by cases h.1) (Or.inl ⟨by rfl, ?hyd11⟩) (by assumption) ?rd11
   case hyd11 => intro w hSw; (try dsimp only at hSw); go_simp; first | done | with_reducible rfl
   case' rd11 => try simp only [Act.put, sA9, sZ9, sS9]
   refine wpAnyH_takeDw (some 23) (i := 11) (v := ?vd12) rfl (by kernel_rfl) (by kernel_rfl) (by kernel_rfl) (by kernel_rfl) (fun _ _ _ h => by cases h.1) (Or.inl ⟨by rfl, ?hyd12⟩) (by assumption) ?rd12
   case hyd12 => intro w hSw; (try dsimp only at hSw); go_simp; first | done | with_reducible rfl
   case' rd12 => try simp only [Act.put, sA9, sZ9, sS9]
   refine wpAnyH_ready (rs := [12, 13]) (by kernel_rfl) (by simp) ?_
   refine AllReadyH.cons rfl (fun K9 hK => ?_) (AllReadyH.cons rfl (fun K9 hK => ?_) AllReadyH.nil)
   ·skip
    go_simp
    have hX : Ext XD (XD.alloc (.cells #[.int .i64 0, .int .i64 0, .slice none 0 0, .slice none 0 0, .int .i64 0] 76)) := (Ext.refl _).alloc _
    refine hK.out _ _ (HSO.out _ (HE.out.trans hX)) (fun hH => ?_)
    obtain ⟨g7, hg7⟩ : ∃ g, XD.heap.size = g := ⟨_, rfl⟩
    have H7 : Hid ((XD.alloc (.cells #[.int .i64 0, .int .i64 0, .slice none 0 0, .slice none 0 0, .int .i64 0] 76)).heap[g7]? = some (.cells #[.int .i64 0, .int .i64 0, .slice none 0 0, .slice none 0 0, .int .i64 0] 76 (0, 0))) := Lib.hid (blk_at hg7.symm)
    have HG7 : Hid (XD.heap.size ≤ g7) := Lib.hid (by rw [← hg7]; exact HE.out.size_le)
    rw [hg7]
    obtain ⟨xa7, hw⟩ : ∃ x, XD.alloc (.cells #[.int .i64 0, .int .i64 0, .slice none 0 0, .slice none 0 0, .int .i64 0] 76) = x := ⟨_, rfl⟩
    replace HE := Lib.hid (HE.out.trans hX)
    rw [hw] at HE H7 hH ⊢
    clear hw hX hg7 hK K9
    try simp only [Act.put, sA9, sZ9, sS9]
    replace hHeld := hH; clear hH
    refine wpAnyH_ready (rs := [13]) (by kernel_rfl) (by simp) ?_
    refine AllReadyH.cons rfl (fun K9 hK => ?_) AllReadyH.nil
    go_simp
    have hX : Ext xa7 (xa7.alloc (.cells #[.int .i64 0, .int .i64 0, .slice none 0 0, .slice none 0 0, .int .i64 0] 76)) := (Ext.refl _).alloc _
    refine hK.out _ _ (HSO.out _ (HE.out.trans hX)) (fun hH => ?_)
    obtain ⟨g8, hg8⟩ : ∃ g, xa7.heap.size = g := ⟨_, rfl⟩
    have H8 : Hid ((xa7.alloc (.cells #[.int .i64 0, .int .i64 0, .slice none 0 0, .slice none 0 0, .int .i64 0] 76)).heap[g8]? = some (.cells #[.int .i64 0, .int .i64 0, .slice none 0 0, .slice none 0 0, .int .i64 0] 76 (0, 0))) := Lib.hid (blk_at hg8.symm)
    have HG8 : Hid (XD.heap.size ≤ g8) := Lib.hid (by rw [← hg8]; exact HE.out.size_le)
    have HN : Hid (g7 ≠ g8) := Lib.hid (by have := lt_of_block H7.out; omega)
    replace H7 := Lib.hid (hX.blk H7.out)
    rw [hg8]
    obtain ⟨xa7a8, hw⟩ : ∃ x, xa7.alloc (.cells #[.int .i64 0, .int .i64 0, .slice none 0 0, .slice none 0 0, .int .i64 0] 76) = x := ⟨_, rfl⟩
    replace HE := Lib.hid (HE.out.trans hX)
    rw [hw] at HE H7 H8 hH ⊢
    clear hw hX hg8 hK K9
    try simp only [Act.put, sA9, sZ9, sS9]
    replace hHeld := hH; clear hH
    refine wpAnyH_ready (rs := [14]) (by kernel_rfl) (by simp) ?_
    refine AllReadyH.cons rfl (fun K9 hK => ?_) AllReadyH.nil
    obtain ⟨a0, a1, a2, a3, a4, af⟩ := blk5e H7.out
    have f0 := af 0; have f1 := af 1; have f2 := af 2; have f3 := af 3; have f4 := af 4
    have hl7 := lt_of_block H7.out
    clear af
    go_simp
    have hX := ext_set5 (w := XD) HE.out HG7.out (.int .i64 (ix : Int)) (.int .i64 (sx : Int)) (.slice (some ⟨gx, 0, none⟩) lx dx) (.slice rx kx cx) (.int .i64 wx)
    refine hK.out _ _ (HSO.out _ hX) (fun hH => ?_)
    have hb := blk5_set (a' := .int .i64 (ix : Int)) (b' := .int .i64 (sx : Int)) (c' := .slice (some ⟨gx, 0, none⟩) lx dx) (d' := .slice rx kx cx) (k' := .int .i64 wx) H7.out
    have ho := (lv_set5 xa7a8 g7 (.int .i64 (ix : Int)) (.int .i64 (sx : Int)) (.slice (some ⟨gx, 0, none⟩) lx dx) (.slice rx kx cx) (.int .i64 wx)).heap H8.out (by have := HN.out; omega)
    generalize (((((xa7a8.setCell ⟨g7, 0, none⟩ (.int .i64 (ix : Int))).setCell ⟨g7, 1, none⟩ (.int .i64 (sx : Int))).setCell ⟨g7, 2, none⟩ (.slice (some ⟨gx, 0, none⟩) lx dx)).setCell ⟨g7, 3, none⟩ (.slice rx kx cx)).setCell ⟨g7, 4, none⟩ (.int .i64 wx)) = xa7a8s7 at *
    replace HE := Lib.hid hX; replace H7 := Lib.hid hb
    replace H8 := Lib.hid ho
    clear ho
    clear hX hb a0 a1 a2 a3 a4 f0 f1 f2 f3 f4 hl7 hK K9
    try simp only [Act.put, sA9, sZ9, sS9]
    replace hHeld := hH; clear hH
    refine wpAnyH_ready (rs := [15]) (by kernel_rfl) (by simp) ?_
    refine AllReadyH.cons rfl (fun K9 hK => ?_) AllReadyH.nil
    obtain ⟨a0, a1, a2, a3, a4, af⟩ := blk5e H8.out
    have f0 := af 0; have f1 := af 1; have f2 := af 2; have f3 := af 3; have f4 := af 4
    have hl8 := lt_of_block H8.out
    clear af
    go_simp
    have hX := ext_set5 (w := XD) HE.out HG8.out (.int .i64 (iy : Int)) (.int .i64 (sy : Int)) (.slice (some ⟨gy, 0, none⟩) ly dy) (.slice ry ky cy) (.int .i64 wy)
    refine hK.out _ _ (HSO.out _ hX) (fun hH => ?_)
    have hb := blk5_set (a' := .int .i64 (iy : Int)) (b' := .int .i64 (sy : Int)) (c' := .slice (some ⟨gy, 0, none⟩) ly dy) (d' := .slice ry ky cy) (k' := .int .i64 wy) H8.out
    have ho := (lv_set5 xa7a8s7 g8 (.int .i64 (iy : Int)) (.int .i64 (sy : Int)) (.slice (some ⟨gy, 0, none⟩) ly dy) (.slice ry ky cy) (.int .i64 wy)).heap H7.out (by have := HN.out; omega)
    generalize (((((xa7a8s7.setCell ⟨g8, 0, none⟩ (.int .i64 (iy : Int))).setCell ⟨g8, 1, none⟩ (.int .i64 (sy : Int))).setCell ⟨g8, 2, none⟩ (.slice (some ⟨gy, 0, none⟩) ly dy)).setCell ⟨g8, 3, none⟩ (.slice ry ky cy)).setCell ⟨g8, 4, none⟩ (.int .i64 wy)) = xa7a8s7s8 at *
    replace HE := Lib.hid hX; replace H8 := Lib.hid hb
    replace H7 := Lib.hid ho
    clear ho
    clear hX hb a0 a1 a2 a3 a4 f0 f1 f2 f3 f4 hl8 hK K9
    try simp only [Act.put, sA9, sZ9, sS9]
    replace hHeld := hH; clear hH
    refine wpAnyH_done (by kernel_rfl) ?_ _
    exact ⟨rfl, g7, g8, _, _, _, _, _, _, _, _, _, _, _, _, rfl, HXD.out.trans HE.out, H7.out, H8.out, HN.out⟩
   ·skip
    go_simp
    have hX : Ext XD (XD.alloc (.cells #[.int .i64 0, .int .i64 0, .slice none 0 0, .slice none 0 0, .int .i64 0] 76)) := (Ext.refl _).alloc _
    refine hK.out _ _ (HSO.out _ (HE.out.trans hX)) (fun hH => ?_)
    obtain ⟨g8, hg8⟩ : ∃ g, XD.heap.size = g := ⟨_, rfl⟩
    have H8 : Hid ((XD.alloc (.cells #[.int .i64 0, .int .i64 0, .slice none 0 0, .slice none 0 0, .int .i64 0] 76)).heap[g8]? = some (.cells #[.int .i64 0, .int .i64 0, .slice none 0 0, .slice none 0 0, .int .i64 0] 76 (0, 0))) := Lib.hid (blk_at hg8.symm)
    have HG8 : Hid (XD.heap.size ≤ g8) := Lib.hid (by rw [← hg8]; exact HE.out.size_le)
    rw [hg8]
    obtain ⟨xa8, hw⟩ : ∃ x, XD.alloc (.cells #[.int .i64 0, .int .i64 0, .slice none 0 0, .slice none 0 0, .int .i64 0] 76) = x := ⟨_, rfl⟩
    replace HE := Lib.hid (HE.out.trans hX)
    rw [hw] at HE H8 hH ⊢
    clear hw hX hg8 hK K9
    try simp only [Act.put, sA9, sZ9, sS9]
    replace hHeld := hH; clear hH
    refine wpAnyH_ready (rs := [12]) (by kernel_rfl) (by simp) ?_
    refine AllReadyH.cons rfl (fun K9 hK => ?_) AllReadyH.nil
    go_simp
    have hX : Ext xa8 (xa8.alloc (.cells #[.int .i64 0, .int .i64 0, .slice none 0 0, .slice none 0 0, .int .i64 0] 76)) := (Ext.refl _).alloc _
    refine hK.out _ _ (HSO.out _ (HE.out.trans hX)) (fun hH => ?_)
    obtain ⟨g7, hg7⟩ : ∃ g, xa8.heap.size = g := ⟨_, rfl⟩
    have H7 : Hid ((xa8.alloc (.cells #[.int .i64 0, .int .i64 0, .slice none 0 0, .slice none 0 0, .int .i64 0] 76)).heap[g7]? = some (.cells #[.int .i64 0, .int .i64 0, .slice none 0 0, .slice none 0 0, .int .i64 0] 76 (0, 0))) := Lib.hid (blk_at hg7.symm)
    have HG7 : Hid (XD.heap.size ≤ g7) := Lib.hid (by rw [← hg7]; exact HE.out.size_le)
    have HN : Hid (g7 ≠ g8) := Lib.hid (by have := lt_of_block H8.out; omega)
    replace H8 := Lib.hid (hX.blk H8.out)
    rw [hg7]
    obtain ⟨xa8a7, hw⟩ : ∃ x, xa8.alloc (.cells #[.int .i64 0, .int .i64 0, .slice none 0 0, .slice none 0 0, .int .i64 0] 76) = x := ⟨_, rfl⟩
    replace HE := Lib.hid (HE.out.trans hX)
    rw [hw] at HE H7 H8 hH ⊢
    clear hw hX hg7 hK K9
    try simp only [Act.put, sA9, sZ9, sS9]
    replace hHeld := hH; clear hH
    refine wpAnyH_ready (rs := [14]) (by kernel_rfl) (by simp) ?_
    refine AllReadyH.cons rfl (fun K9 hK => ?_) AllReadyH.nil
    obtain ⟨a0, a1, a2, a3, a4, af⟩ := blk5e H7.out
    have f0 := af 0; have f1 := af 1; have f2 := af 2; have f3 := af 3; have f4 := af 4
    have hl7 := lt_of_block H7.out
    clear af
    go_simp
    have hX := ext_set5 (w := XD) HE.out HG7.out (.int .i64 (ix : Int)) (.int .i64 (sx : Int)) (.slice (some ⟨gx, 0, none⟩) lx dx) (.slice rx kx cx) (.int .i64 wx)
    refine hK.out _ _ (HSO.out _ hX) (fun hH => ?_)
    have hb := blk5_set (a' := .int .i64 (ix : Int)) (b' := .int .i64 (sx : Int)) (c' := .slice (some ⟨gx, 0, none⟩) lx dx) (d' := .slice rx kx cx) (k' := .int .i64 wx) H7.out
    have ho := (lv_set5 xa8a7 g7 (.int .i64 (ix : Int)) (.int .i64 (sx : Int)) (.slice (some ⟨gx, 0, none⟩) lx dx) (.slice rx kx cx) (.int .i64 wx)).heap H8.out (by have := HN.out; omega)
    generalize (((((xa8a7.setCell ⟨g7, 0, none⟩ (.int .i64 (ix : Int))).setCell ⟨g7, 1, none⟩ (.int .i64 (sx : Int))).setCell ⟨g7, 2, none⟩ (.slice (some ⟨gx, 0, none⟩) lx dx)).setCell ⟨g7, 3, none⟩ (.slice rx kx cx)).setCell ⟨g7, 4, none⟩ (.int .i64 wx)) = xa8a7s7 at *
    replace HE := Lib.hid hX; replace H7 := Lib.hid hb
    replace H8 := Lib.hid ho
    clear ho
    clear hX hb a0 a1 a2 a3 a4 f0 f1 f2 f3 f4 hl7 hK K9
    try simp only [Act.put, sA9, sZ9, sS9]
    replace hHeld := hH; clear hH
    refine wpAnyH_ready (rs := [15]) (by kernel_rfl) (by simp) ?_
    refine AllReadyH.cons rfl (fun K9 hK => ?_) AllReadyH.nil
    obtain ⟨a0, a1, a2, a3, a4, af⟩ := blk5e H8.out
    have f0 := af 0; have f1 := af 1; have f2 := af 2; have f3 := af 3; have f4 := af 4
    have hl8 := lt_of_block H8.out
    clear af
    go_simp
    have hX := ext_set5 (w := XD) HE.out HG8.out (.int .i64 (iy : Int)) (.int .i64 (sy : Int)) (.slice (some ⟨gy, 0, none⟩) ly dy) (.slice ry ky cy) (.int .i64 wy)
    refine hK.out _ _ (HSO.out _ hX) (fun hH => ?_)
    have hb := blk5_set (a' := .int .i64 (iy : Int)) (b' := .int .i64 (sy : Int)) (c' := .slice (some ⟨gy, 0, none⟩) ly dy) (d' := .slice ry ky cy) (k' := .int .i64 wy) H8.out
    have ho := (lv_set5 xa8a7s7 g8 (.int .i64 (iy : Int)) (.int .i64 (sy : Int)) (.slice (some ⟨gy, 0, none⟩) ly dy) (.slice ry ky cy) (.int .i64 wy)).heap H7.out (by have := HN.out; omega)
    generalize (((((xa8a7s7.setCell ⟨g8, 0, none⟩ (.int .i64 (iy : Int))).setCell ⟨g8, 1, none⟩ (.int .i64 (sy : Int))).setCell ⟨g8, 2, none⟩ (.slice (some ⟨gy, 0, none⟩) ly dy)).setCell ⟨g8, 3, none⟩ (.slice ry ky cy)).setCell ⟨g8, 4, none⟩ (.int .i64 wy)) = xa8a7s7s8 at *
    replace HE := Lib.hid hX; replace H8 := Lib.hid hb
    replace H7 := Lib.hid ho
    clear ho
    clear hX hb a0 a1 a2 a3 a4 f0 f1 f2 f3 f4 hl8 hK K9
    try simp only [Act.put, sA9, sZ9, sS9]
    replace hHeld := hH; clear hH
    refine wpAnyH_done (by kernel_rfl) ?_ _
    exact ⟨rfl, g7, g8, _, _, _, _, _, _, _, _, _, _, _, _, rfl, HXD.out.trans HE.out, H7.out, H8.out, HN.out⟩
  case rest =>
   rintro ex a wz ⟨rfl, g7, g8, u12, u13, u14, u15, u16, u17, u18, u19, u20, u21, u22, u23, rfl, hE, h7, h8, -⟩
   have HEz := Lib.hid hE; have H7 := Lib.hid h7; have H8 := Lib.hid h8
   have KZ1 := Lib.hid (hE.blk KX1.out)
   obtain ⟨a0, a1, a2, -, -, -⟩ := blk5e h7
   obtain ⟨b0, b1, b2, -, -, -⟩ := blk5e h8
   obtain ⟨k1, -⟩ := blk1 KZ1.out
   clear hE h7 h8
   have HLV0 : Hid (Lv (fun k => k ∉ (g0 + 1 + 1) :: row ∧ W4.heap.size ≤ k) X wz) := Lib.hid (HEz.out.lv)
   have HGR0 : Hid (Grew ((g0 + 1 + 1) :: row) ((g0 + 1 + 1) :: row) X wz) := Lib.hid ⟨HEz.out.lv, fun b hb => ⟨.inl hb, by have := HOB.out b hb; have := HEz.out.size_le; omega⟩⟩
   by_cases hA : (ix : Int) = z
   ·have hA1 : ((ix : Int) == z) = true := by simpa using hA
    by_cases hB : (iy : Int) = z
    ·have hB1 : ((iy : Int) == z) = true := by simpa using hB
     have hleq : ly = lx := HLEN.out (by omega)
     have HF : Hid (dsE es z (pre0 ++ [(i, j, dn)]) = dsE es z pre0 ++ [subL y.1.2.2 x.1.2.2]) := Lib.hid (by rw [HDN.out, if_pos ⟨hA, hB⟩]; rfl)
     have HSL : Hid ((subL y.1.2.2 x.1.2.2).length = ly) := Lib.hid (subL_len HLY.out (by rw [HLX.out, hleq]))
     have HLXY : Hid (x.1.2.2.length = ly) := Lib.hid (by rw [HLX.out, hleq])
     clear hA hB
     subst hleq
     have HRO := Lib.hid (ownsRow_ext HOWN.out HEz.out)
     have KL6 := Lib.hid (HEz.out.blk HLB.out)
     have cPz := (blk1 KL6.out).1
     have HPXa := Lib.hid (HPX.out.ext HEz.out); have HPYa := Lib.hid (HPY.out.ext HEz.out)
     have HNB : Hid (some (g0 + 1 + 1) ≠ (Value.slice p n c).ownBlock) := Lib.hid (fun e => by have := HROW.out _ (HBLK.out _ e.symm); have := HS4.out; omega)
     have HSV : Hid (∀ W : World, (W.heap[g7]? = wz.heap[g7]? ∧ W.heap[g8]? = wz.heap[g8]?) → W.cell? ⟨g8, 2, none⟩ = some (.slice (some ⟨gy, 0, none⟩) ly dy) ∧ W.cell? ⟨g7, 2, none⟩ = some (.slice (some ⟨gx, 0, none⟩) ly dx)) := Lib.hid (fun W h => by
      obtain ⟨-, -, t2, -⟩ := blk5e (h.1.trans H7.out)
      obtain ⟨-, -, s2, -⟩ := blk5e (h.2.trans H8.out)
      exact ⟨s2, t2⟩)
     have hl7 := lt_of_block H7.out
     have hl8 := lt_of_block H8.out
     have H7L := Lib.hid hl7; have H8L := Lib.hid hl8
     have HTY7 : Hid (some g7 ≠ (Value.slice p n c).ownBlock) := Lib.hid (row_tagne HRO.out H7.out (by decide))
     have HTY8 : Hid (some g8 ≠ (Value.slice p n c).ownBlock) := Lib.hid (row_tagne HRO.out H8.out (by decide))
     have HN7 : Hid (g7 ≠ g0 + 1 + 1) := Lib.hid (fun e => by have h := H7.out; rw [e, KL6.out] at h; simp at h)
     have HN8 : Hid (g8 ≠ g0 + 1 + 1) := Lib.hid (fun e => by have h := H8.out; rw [e, KL6.out] at h; simp at h)
     have HSO6 : Hid (∀ W : World, Ext wz W → W.cell? ⟨g8, 2, none⟩ = some (.slice (some ⟨gy, 0, none⟩) ly dy) ∧ W.cell? ⟨g7, 2, none⟩ = some (.slice (some ⟨gx, 0, none⟩) ly dx)) := Lib.hid (fun W h => HSV.out W ⟨h.block g7 H7L.out, h.block g8 H8L.out⟩)
     have HSO7 : Hid (∀ A W : World, Ext wz A → A.grownBy W (Value.slice p n c).ownBlock → W.cell? ⟨g8, 2, none⟩ = some (.slice (some ⟨gy, 0, none⟩) ly dy) ∧ W.cell? ⟨g7, 2, none⟩ = some (.slice (some ⟨gx, 0, none⟩) ly dx)) := Lib.hid (fun A W h hg => HSV.out W ⟨(hg.block g7 (Nat.lt_of_lt_of_le H7L.out h.size) HTY7.out).trans (h.block g7 H7L.out), (hg.block g8 (Nat.lt_of_lt_of_le H8L.out h.size) HTY8.out).trans (h.block g8 H8L.out)⟩)
     have HSO8 : Hid (∀ (A W : World) (v : Value), Ext wz A → A.grownBy W (Value.slice p n c).ownBlock → (W.setCell ⟨g0 + 1 + 1, 0, none⟩ v).cell? ⟨g8, 2, none⟩ = some (.slice (some ⟨gy, 0, none⟩) ly dy) ∧ (W.setCell ⟨g0 + 1 + 1, 0, none⟩ v).cell? ⟨g7, 2, none⟩ = some (.slice (some ⟨gx, 0, none⟩) ly dx)) := Lib.hid (fun A W v h hg => by
      obtain ⟨s2, t2⟩ := HSO7.out A W h hg
      exact ⟨(lv_set W (g0 + 1 + 1) 0 v).cellAt s2 HN8.out, (lv_set W (g0 + 1 + 1) 0 v).cellAt t2 HN7.out⟩)
     have HSTEP : Hid (∀ (v4 A w7 : World) (gq cq gr dr : Nat), Ext wz A → A = v4.alloc (.cells #[.slice (some ⟨gq, 0, none⟩) ly cq] 39) → IntsOwn wz.drew.heap.size v4 (.slice (some ⟨gq, 0, none⟩) ly cq) (subL y.1.2.2 x.1.2.2) → wz.drew.heap.size ≤ gq → gq < A.heap.size → A.grownBy w7 (Value.slice p n c).ownBlock →
       w7.ownsRow W4.heap.size 39 1 (.slice (some ⟨gr, 0, none⟩) (n + 1) dr) (n + 1) (al.map (fun a => a.1) ++ [.slice (some ⟨gq, 0, none⟩) ly cq]) → ((Value.slice (some ⟨gr, 0, none⟩) (n + 1) dr).ownBlock = (Value.slice p n c).ownBlock ∨ (Value.slice (some ⟨gr, 0, none⟩) (n + 1) dr).ownBlock = some A.heap.size) →
       ∃ own', Grew ((g0 + 1 + 1) :: row) own' X (w7.setCell ⟨g0 + 1 + 1, 0, none⟩ (.slice (some ⟨gr, 0, none⟩) (n + 1) dr)) ∧ DiI W4 (g0 + 1 + 1) (dsE es z) (pre0 ++ [(i, j, dn)]) own' (w7.setCell ⟨g0 + 1 + 1, 0, none⟩ (.slice (some ⟨gr, 0, none⟩) (n + 1) dr))) :=
      Lib.hid (fun v4 A w7 gq cq gr dr hA1 hA2 hdo hd0 hd1 hgr hown7 hat => by
       have h1 : wz.drew.heap.size = wz.heap.size := rfl
       have h2 := HEz.out.size_le; have h3 := HLVX.out.size
       exact DiI.step HROW.out HLVX.out (by have := HS4.out; omega) HLB.out HAN.out HAS.out HBLK.out HROWS.out HND.out HOB.out HOWN.out HF.out HSL.out (HEz.out.trans hA1) hA2 hdo (by omega) hd1 (.inr (by omega)) hgr hown7 hat)
     have hW4z : W4.heap.size ≤ wz.heap.size := by have := HLVX.out.size; have := HEz.out.size_le; omega
     clear hl7 hl8
     gi_wp2_with (fail)
     refine wpIn_round_held (S := (fun W => W.cell? ⟨g8, 2, none⟩ = some (.slice (some ⟨gy, 0, none⟩) ly dy) ∧ W.cell? ⟨g7, 2, none⟩ = some (.slice (some ⟨gx, 0, none⟩) ly dx))) (by kernel_rfl) (by kernel_rfl) (fun ⟨_, _, h⟩ => h) (HSO6.out _ (Ext.refl wz).drew) (fun hHeld => ?_)
     refine wpAnyH_takeDw (some 37) (i := 1) (v := ?vz1) rfl (by kernel_rfl) (by kernel_rfl) (by kernel_rfl) (by kernel_rfl) (fun _ _ _ h => h) (Or.inl ⟨by rfl, ?hyz1⟩) (by assumption) ?rz1
     case hyz1 => intro w hSw; (try dsimp only at hSw); go_simp; first | done | with_reducible rfl
     case' rz1 => try simp only [Act.put, sA9, sZ9, sS9]
     refine wpAnyH_takeDw (some 38) (i := 2) (v := ?vz2) rfl (by kernel_rfl) (by kernel_rfl) (by kernel_rfl) (by kernel_rfl) (fun _ _ _ h => h) (Or.inl ⟨by rfl, ?hyz2⟩) (by assumption) ?rz2
     case hyz2 => intro w hSw; (try dsimp only at hSw); go_simp; first | done | with_reducible rfl
     case' rz2 => try simp only [Act.put, sA9, sZ9, sS9]
     refine wpAnyH_takeDw (some 39) (i := 3) (v := ?vz3) rfl (by kernel_rfl) (by kernel_rfl) (by kernel_rfl) (by kernel_rfl) (fun _ _ _ h => h) (Or.inl ⟨by rfl, ?hyz3⟩) (by assumption) ?rz3
     case hyz3 => intro w hSw; (try dsimp only at hSw); go_simp; first | done | with_reducible rfl
     case' rz3 => try simp only [Act.put, sA9, sZ9, sS9]
     refine wpAnyH_takeDw (some 40) (i := 4) (v := ?vz4) rfl (by kernel_rfl) (by kernel_rfl) (by kernel_rfl) (by kernel_rfl) (fun _ _ _ h => h) (Or.inl ⟨by rfl, ?hyz4⟩) (by assumption) ?rz4
     case hyz4 => intro w hSw; (try dsimp only at hSw); go_simp; first | done | with_reducible rfl
     case' rz4 => try simp only [Act.put, sA9, sZ9, sS9]
     refine wpAnyH_takeDw (some 41) (i := 5) (v := ?vz5) rfl (by kernel_rfl) (by kernel_rfl) (by kernel_rfl) (by kernel_rfl) (fun _ _ _ h => h) (Or.inl ⟨by rfl, ?hyz5⟩) (by assumption) ?rz5
     case hyz5 => intro w hSw; (try dsimp only at hSw); go_simp; first | done | with_reducible rfl
     case' rz5 => try simp only [Act.put, sA9, sZ9, sS9]
     refine wpAnyH_takeDw (some 42) (i := 6) (v := ?vz6) rfl (by kernel_rfl) (by kernel_rfl) (by kernel_rfl) (by kernel_rfl) (fun _ _ _ h => h) (Or.inl ⟨by rfl, ?hyz6⟩) (by assumption) ?rz6
     case hyz6 => intro w hSw; (try dsimp only at hSw); go_simp; first | done | with_reducible rfl
     case' rz6 => try simp only [Act.put, sA9, sZ9, sS9]
     refine wpAnyH_ready (rs := [0, 7]) (by kernel_rfl) (by simp) ?_
     refine AllReadyH.cons rfl (fun K9 hK => ?_) (AllReadyH.cons rfl (fun K9 hK => ?_) AllReadyH.nil)
     ·skip
      go_simp
      refine hK.out _ _ (HSO6.out _ (Ext.refl wz).drew) (fun hHz7 => ?_)
      clear hK K9
      try simp only [Act.put, sA9, sZ9, sS9]
      refine wpAnyH_ready (rs := [7]) (by kernel_rfl) (by simp) ?_
      refine AllReadyH.cons rfl (fun K9 hK => ?_) AllReadyH.nil
      (go_simp; refine (difference_any ⟨gy, 0, none⟩ (some ⟨gx, 0, none⟩) ly dy dx y.1.2.2 x.1.2.2 _ HLY.out HLX.out (by omega) (HPYa.out.at.ext (Ext.refl wz).drew) (HPXa.out.at.ext (Ext.refl wz).drew) HBY.out HBX.out).mono ?_; rintro e v4 ⟨⟨gq, cq, rfl, hdo, hd0, hd1⟩, hE4⟩; have EX : Ext wz v4 := (Ext.refl wz).drew.trans hE4; have KP4 := EX.blk KL6.out; have cP4 := (blk1 KP4).1; have cP5 := (blk1 (((Ext.refl v4).alloc (.cells #[.slice (some ⟨gq, 0, none⟩) ly cq] 39)).blk KP4)).1)
      refine hK.out _ _ (HSO6.out _ EX) (fun hHz8 => ?_)
      clear hK K9
      try simp only [Act.put, sA9, sZ9, sS9]
      refine wpAnyH_ready (rs := [8]) (by kernel_rfl) (by simp) ?_
      refine AllReadyH.cons rfl (fun K9 hK => ?_) AllReadyH.nil
      go_simp
      refine hK.out _ _ (HSO6.out _ (EX.trans ((Ext.refl v4).alloc _))) (fun hHz9 => ?_)
      clear hK K9
      try simp only [Act.put, sA9, sZ9, sS9]
      refine wpAnyH_ready (rs := [9]) (by kernel_rfl) (by simp) ?_
      refine AllReadyH.cons rfl (fun K9 hK => ?_) AllReadyH.nil
      (have EA : Ext v4 (v4.alloc (.cells #[.slice (some ⟨gq, 0, none⟩) ly cq] 39)) := (Ext.refl v4).alloc _; have EXA := EX.trans EA; have ho := ownsRow_ext HRO.out EXA; have htag := own_tag ho; refine step_append_at _ rfl (.tmp 36) (.tmp 44) 46 rfl W4.heap.size 39 iS (.slice none 0 0) 1 24 underSS hSi hSz hS1 hS2 rfl (by decide) (.slice p n c) n (al.map (fun a => a.1)) rfl ho ⟨v4.heap.size, 0, none⟩ 1 1 [.slice (some ⟨gq, 0, none⟩) ly cq] rfl rfl (one_cell rfl) (by intro u hu; simp at hu; subst hu; rfl) (by unfold maxLen; omega) (by omega) (by have := EXA.size_le; omega) ?_; intro v' w7 hown7 hgr7 hnil7 hat7; obtain ⟨gr, dr, rfl, hdr⟩ := own_form' hown7 (fun e => by have := (hnil7.1 e).2; omega); have KP7 := grownBy_blk hgr7 (EXA.blk KL6.out) HNB.out; have cP7 := (blk1 KP7).1; have fP7 := (blk1 KP7).2)
      refine hK.out _ _ (HSO7.out _ _ EXA hgr7) (fun hHz10 => ?_)
      clear hK K9
      try simp only [Act.put, sA9, sZ9, sS9]
      refine wpAnyH_ready (rs := [10]) (by kernel_rfl) (by simp) ?_
      refine AllReadyH.cons rfl (fun K9 hK => ?_) AllReadyH.nil
      go_simp
      refine hK.out _ _ (HSO8.out _ _ _ EXA hgr7) (fun hHz11 => ?_)
      clear hK K9
      try simp only [Act.put, sA9, sZ9, sS9]
      refine wpAnyH_done (by kernel_rfl) ?_ _
      have hfin := HSTEP.out _ _ _ _ _ _ _ EXA rfl hdo hd0 (by have := EA.size_le; omega) hgr7 hown7 hat7
      first | exact hfin | (gi_wp2; exact hfin)
     ·skip
      (go_simp; refine (difference_any ⟨gy, 0, none⟩ (some ⟨gx, 0, none⟩) ly dy dx y.1.2.2 x.1.2.2 _ HLY.out HLX.out (by omega) (HPYa.out.at.ext (Ext.refl wz).drew) (HPXa.out.at.ext (Ext.refl wz).drew) HBY.out HBX.out).mono ?_; rintro e v4 ⟨⟨gq, cq, rfl, hdo, hd0, hd1⟩, hE4⟩; have EX : Ext wz v4 := (Ext.refl wz).drew.trans hE4; have KP4 := EX.blk KL6.out; have cP4 := (blk1 KP4).1; have cP5 := (blk1 (((Ext.refl v4).alloc (.cells #[.slice (some ⟨gq, 0, none⟩) ly cq] 39)).blk KP4)).1)
      refine hK.out _ _ (HSO6.out _ EX) (fun hHz12 => ?_)
      clear hK K9
      try simp only [Act.put, sA9, sZ9, sS9]
      refine wpAnyH_ready (rs := [0, 8]) (by kernel_rfl) (by simp) ?_
      refine AllReadyH.cons rfl (fun K9 hK => ?_) (AllReadyH.cons rfl (fun K9 hK => ?_) AllReadyH.nil)
      ·skip
       go_simp
       refine hK.out _ _ (HSO6.out _ EX) (fun hHz13 => ?_)
       clear hK K9
       try simp only [Act.put, sA9, sZ9, sS9]
       refine wpAnyH_ready (rs := [8]) (by kernel_rfl) (by simp) ?_
       refine AllReadyH.cons rfl (fun K9 hK => ?_) AllReadyH.nil
       go_simp
       refine hK.out _ _ (HSO6.out _ (EX.trans ((Ext.refl v4).alloc _))) (fun hHz14 => ?_)
       clear hK K9
       try simp only [Act.put, sA9, sZ9, sS9]
       refine wpAnyH_ready (rs := [9]) (by kernel_rfl) (by simp) ?_
       refine AllReadyH.cons rfl (fun K9 hK => ?_) AllReadyH.nil
       (have EA : Ext v4 (v4.alloc (.cells #[.slice (some ⟨gq, 0, none⟩) ly cq] 39)) := (Ext.refl v4).alloc _; have EXA := EX.trans EA; have ho := ownsRow_ext HRO.out EXA; have htag := own_tag ho; refine step_append_at _ rfl (.tmp 36) (.tmp 44) 46 rfl W4.heap.size 39 iS (.slice none 0 0) 1 24 underSS hSi hSz hS1 hS2 rfl (by decide) (.slice p n c) n (al.map (fun a => a.1)) rfl ho ⟨v4.heap.size, 0, none⟩ 1 1 [.slice (some ⟨gq, 0, none⟩) ly cq] rfl rfl (one_cell rfl) (by intro u hu; simp at hu; subst hu; rfl) (by unfold maxLen; omega) (by omega) (by have := EXA.size_le; omega) ?_; intro v' w7 hown7 hgr7 hnil7 hat7; obtain ⟨gr, dr, rfl, hdr⟩ := own_form' hown7 (fun e => by have := (hnil7.1 e).2; omega); have KP7 := grownBy_blk hgr7 (EXA.blk KL6.out) HNB.out; have cP7 := (blk1 KP7).1; have fP7 := (blk1 KP7).2)
       refine hK.out _ _ (HSO7.out _ _ EXA hgr7) (fun hHz15 => ?_)
       clear hK K9
       try simp only [Act.put, sA9, sZ9, sS9]
       refine wpAnyH_ready (rs := [10]) (by kernel_rfl) (by simp) ?_
       refine AllReadyH.cons rfl (fun K9 hK => ?_) AllReadyH.nil
       go_simp
       refine hK.out _ _ (HSO8.out _ _ _ EXA hgr7) (fun hHz16 => ?_)
       clear hK K9
       try simp only [Act.put, sA9, sZ9, sS9]
       refine wpAnyH_done (by kernel_rfl) ?_ _
       have hfin := HSTEP.out _ _ _ _ _ _ _ EXA rfl hdo hd0 (by have := EA.size_le; omega) hgr7 hown7 hat7
       first | exact hfin | (gi_wp2; exact hfin)
      ·skip
       go_simp
       refine hK.out _ _ (HSO6.out _ (EX.trans ((Ext.refl v4).alloc _))) (fun hHz17 => ?_)
       clear hK K9
       try simp only [Act.put, sA9, sZ9, sS9]
       refine wpAnyH_ready (rs := [0]) (by kernel_rfl) (by simp) ?_
       refine AllReadyH.cons rfl (fun K9 hK => ?_) AllReadyH.nil
       go_simp
       refine hK.out _ _ (HSO6.out _ (EX.trans ((Ext.refl v4).alloc _))) (fun hHz18 => ?_)
       clear hK K9
       try simp only [Act.put, sA9, sZ9, sS9]
       refine wpAnyH_ready (rs := [9]) (by kernel_rfl) (by simp) ?_
       refine AllReadyH.cons rfl (fun K9 hK => ?_) AllReadyH.nil
       (have EA : Ext v4 (v4.alloc (.cells #[.slice (some ⟨gq, 0, none⟩) ly cq] 39)) := (Ext.refl v4).alloc _; have EXA := EX.trans EA; have ho := ownsRow_ext HRO.out EXA; have htag := own_tag ho; refine step_append_at _ rfl (.tmp 36) (.tmp 44) 46 rfl W4.heap.size 39 iS (.slice none 0 0) 1 24 underSS hSi hSz hS1 hS2 rfl (by decide) (.slice p n c) n (al.map (fun a => a.1)) rfl ho ⟨v4.heap.size, 0, none⟩ 1 1 [.slice (some ⟨gq, 0, none⟩) ly cq] rfl rfl (one_cell rfl) (by intro u hu; simp at hu; subst hu; rfl) (by unfold maxLen; omega) (by omega) (by have := EXA.size_le; omega) ?_; intro v' w7 hown7 hgr7 hnil7 hat7; obtain ⟨gr, dr, rfl, hdr⟩ := own_form' hown7 (fun e => by have := (hnil7.1 e).2; omega); have KP7 := grownBy_blk hgr7 (EXA.blk KL6.out) HNB.out; have cP7 := (blk1 KP7).1; have fP7 := (blk1 KP7).2)
       refine hK.out _ _ (HSO7.out _ _ EXA hgr7) (fun hHz19 => ?_)
       clear hK K9
       try simp only [Act.put, sA9, sZ9, sS9]
       refine wpAnyH_ready (rs := [10]) (by kernel_rfl) (by simp) ?_
       refine AllReadyH.cons rfl (fun K9 hK => ?_) AllReadyH.nil
       go_simp
       refine hK.out _ _ (HSO8.out _ _ _ EXA hgr7) (fun hHz20 => ?_)
       clear hK K9
       try simp only [Act.put, sA9, sZ9, sS9]
       refine wpAnyH_done (by kernel_rfl) ?_ _
       have hfin := HSTEP.out _ _ _ _ _ _ _ EXA rfl hdo hd0 (by have := EA.size_le; omega) hgr7 hown7 hat7
       first | exact hfin | (gi_wp2; exact hfin)
    ·have hB1 : ((iy : Int) == z) = false := by simpa using hB
     have HF : Hid (dsE es z (pre0 ++ [(i, j, dn)]) = dsE es z pre0) := Lib.hid (by rw [HDN.out, if_neg (fun h => hB h.2)]; simp)
     clear hA hB
     gi_wp2
     exact ⟨_, HGR0.out, HDI.out.keep HF.out HLV0.out⟩
   ·have hA1 : ((ix : Int) == z) = false := by simpa using hA
    have HF : Hid (dsE es z (pre0 ++ [(i, j, dn)]) = dsE es z pre0) := Lib.hid (by rw [HDN.out, if_neg (fun h => hA h.1)]; simp)
    clear hA
    gi_wp2
    exact ⟨_, HGR0.out, HDI.out.keep HF.out HLV0.out⟩
 case done =>
  rintro E ow X hE6 hEn ⟨row, p, n, c, al, rfl, hrow, hLV, hLB, han, has, hown, hblk, hrows, hnd⟩ hob hv6 hz hdf
  have hn2 : n ≤ 20000 := by
   have h2 := dl_len (kEv es) M hM120
   have h3 : (dsE es z (dpOf (kEv es) (prTo M M))).length ≤ (dpOf (kEv es) (prTo M M)).length := List.length_filterMap_le _ _
   rw [← has, List.length_map, han] at h3
   omega
  have HER : Hid (E ∉ row) := Lib.hid (fun h => hEn (by simp [h]))
  have EX : Hid (Ext w X) := Lib.hid (hLV.ext0 E4.out (fun b hb h => by omega))
  have HEE : Hid (w.heap.size ≤ E) := Lib.hid (by omega)
  have HWW : Hid (w.heap.size ≤ W4.heap.size) := Lib.hid (by omega)
  obtain ⟨y0, -⟩ := blk1 hLB
  have hLl := lt_of_block hLB
  have HLB := Lib.hid hLB; have XE := Lib.hid hdf; have HROW := Lib.hid hrow; have HAN := Lib.hid han; have HAS := Lib.hid has; have HOWN := Lib.hid hown; have HBLK := Lib.hid hblk; have HROWS := Lib.hid hrows; have HND := Lib.hid hnd
  have HLR : Hid (g0 + 1 + 1 ∉ row) := Lib.hid (fun h => by have := hrow _ h; omega)
  have HDS : Hid (dstF (dsE es z (dpOf (kEv es) (prTo M M))) = dstF (al.map (fun a => a.2))) := Lib.hid (by rw [has])
  rcases Nat.eq_zero_or_pos n with hn0 | hn0
  ·obtain rfl : al = [] := List.eq_nil_of_length_eq_zero (by omega)
   subst hn0
   clear hLB hdf hrow han has hown hblk hrows hnd hLV hob hv6 hz hE6 hEn HROWS HND HAN HAS
   gi_wp2_with (fail)
   refine ⟨trivial, ?_⟩
   refine (callsIn_wide.2 (sortF_none p c X)).mono ?_
   rintro e w5 ⟨rfl, rfl⟩
   gi_wp2_with (fail)
   refine ⟨trivial, ?_⟩
   refine (callsIn_wide.2 (compactF_nil p c _)).mono ?_
   rintro e w6 ⟨rfl, rfl⟩
   gi_wp2_with (fail)
   refine leaves_marks2 [E] _ (fun E' h => by simp at h; subst h; exact XE.out) (by simp) (fun W' hW' => ?_)
   refine ⟨.slice p 0 c, by simp [results, Tryz.results65, go_sem], ⟨_, (Value.slice p 0 c).ownBlock.toList, rfl, ?_, fun b hb => ?_⟩, hW'.ext0 EX.out (fun b hb h => by have := HEE.out; simp at h; omega)⟩
   ·rw [HDS.out]
    exact ⟨[], ownsRow_weak (row_lv HOWN.out hW' (fun b hb h => by simp at h; subst h; exact HER.out (HBLK.out _ hb))) HWW.out, fun b hb => by simp [hb], fun i xs hi => by simp [dstF] at hi⟩
   ·rw [Option.mem_toList] at hb
    have h1 := World.ownsRow.lt HOWN.out b hb
    have h2 := hW'.size
    have h3 := HWW.out
    omega
  ·obtain ⟨o, c', hoe, -⟩ := own_form' hown (by intro e; simp at e; omega)
   simp only [Value.slice.injEq] at hoe
   obtain ⟨rfl, -, rfl⟩ := hoe
   have HOR : Hid (o ∈ row) := Lib.hid (hblk o rfl)
   have HRW : Hid (∀ a ∈ al, RwA W4.heap.size o X a) := Lib.hid (fun a ha => by
    obtain ⟨g, cg, e, hg, hi⟩ := hrows a ha
    exact ⟨g, cg, e, by rw [e] at hi; exact types_ne hown hi, hi⟩)
   clear hLB hdf hrow han has hown hblk hrows hnd hLV hob hv6 hz hE6 hEn
   gi_wp2_with (fail)
   refine ⟨trivial, ?_⟩
   refine (callsIn_wide.2 (sortF_any W4.heap.size o n c al X HAN.out hn0 hn2 HOWN.out HRW.out)).mono ?_
   rintro e w5 ⟨rfl, al', hperm, hsort, hown5, hv5⟩
   have HL5 := Lib.hid (hv5.heap HLB.out (fun h => HLR.out (by rw [h]; exact HOR.out)))
   have han5 : al'.length = n := by rw [hperm.length_eq, HAN.out]
   have hrw5 : ∀ a ∈ al', RwA W4.heap.size o w5 a := fun a ha => (HRW.out a (hperm.mem_iff.1 ha)).lv hv5
   obtain ⟨y5, -⟩ := blk1 HL5.out
   have HP5 := Lib.hid hperm; have HS5 := Lib.hid hsort; have HO5 := Lib.hid hown5; have HV5 := Lib.hid hv5; have HR5 := Lib.hid hrw5; have HN5 := Lib.hid han5
   clear hperm hsort hown5 hv5 hrw5 han5 y0
   gi_wp2_with (fail)
   refine ⟨trivial, ?_⟩
   refine (callsIn_wide.2 (compactF_any W4.heap.size o n c al' w5 HN5.out hn2 HO5.out HR5.out)).mono ?_
   rintro e w6 ⟨⟨m, rfl, hm, hown6⟩, hv6⟩
   have hcs := cp_dst (fun a : EA => a.2) HP5.out HS5.out
   rw [HN5.out] at hcs
   have hsub := cpK_sub (fun a : EA => a.2) al' n
   rw [List.take_of_length_le (by rw [HN5.out]; omega)] at hsub
   obtain ⟨cs, hcsn⟩ : ∃ cs, cpK (fun a : EA => a.2) al' n = cs := ⟨_, rfl⟩
   rw [hcsn] at hm hown6 hcs hsub
   have hv06 : Lv (fun b => b = o) X w6 := HV5.out.trans hv6 (fun _ _ h => h) (fun _ _ h => h)
   have hmem : ∀ a ∈ cs, a ∈ al := fun a ha => HP5.out.mem_iff.1 (hsub.subset ha)
   have hrow6 : ∀ a ∈ cs, ∃ g cg, a.1 = .slice (some ⟨g, 0, none⟩) a.2.length cg ∧ IntsOwn W4.heap.size w6 a.1 a.2 := fun a ha => by
    obtain ⟨g, cg, e, -, hi⟩ := (HRW.out a (hmem a ha)).lv hv06
    exact ⟨g, cg, e, hi⟩
   have hnd6 : (cs.map (fun a => blkOf a.1)).Nodup := (hsub.map _).nodup ((HP5.out.map (fun a : EA => blkOf a.1)).nodup_iff.2 HND.out)
   have HPT := Lib.hid (ptsD_of hown6 hm hrow6 hnd6)
   have HCS := Lib.hid hcs
   have HIN : Hid (∀ b ∈ o :: cs.map (fun a => blkOf a.1), b ∈ row) := Lib.hid (fun b hb => by
    rcases List.mem_cons.1 hb with rfl | hb
    ·exact HOR.out
    ·obtain ⟨a, ha, rfl⟩ := List.mem_map.1 hb
     obtain ⟨g, cg, e, hg, -⟩ := HROWS.out a (hmem a ha)
     rw [e]; exact hg)
   have HLT : Hid (∀ b ∈ o :: cs.map (fun a => blkOf a.1), b < w6.heap.size) := Lib.hid (fun b hb => by
    rcases List.mem_cons.1 hb with rfl | hb
    ·exact (World.ownsRow.lt hown6 _ rfl).2
    ·obtain ⟨a, ha, rfl⟩ := List.mem_map.1 hb
     obtain ⟨g, cg, e, hi⟩ := hrow6 a ha
     rw [e] at hi ⊢
     exact (World.ownsRow.lt hi _ rfl).2)
   have XE6 := Lib.hid (hv06.heap XE.out (fun h => HER.out (by rw [h]; exact HOR.out)))
   have EX6 := Lib.hid (hv06.ext0 EX.out (fun b hb h => by have := HROW.out o HOR.out; have := HWW.out; omega))
   clear hm hown6 hcs hsub hv6 hv06 hmem hrow6 hnd6 hcsn y5
   gi_wp2_with (fail)
   refine leaves_marks2 [E] _ (fun E' h => by simp at h; subst h; exact XE6.out) (by simp) (fun W' hW' => ?_)
   refine ⟨.slice (some ⟨o, 0, none⟩) m c, by simp [results, Tryz.results65, go_sem], ⟨_, o :: cs.map (fun a => blkOf a.1), rfl, ?_, fun b hb => ?_⟩, hW'.ext0 EX6.out (fun b hb h => by have := HEE.out; simp at h; omega)⟩
   ·rw [HDS.out, ← HCS.out]
    exact ptsD_weak (HPT.out.lv (hW'.mono (fun b _ h => fun hb => HER.out (by simp at h; subst h; exact HIN.out _ hb)))) HWW.out
   ·have h1 := HROW.out b (HIN.out b hb)
    have h2 := HLT.out b hb
    have h3 := hW'.size
    have h4 := HWW.out
    omega
 case stop =>
  rintro E cd q ow X hE6 hEn hq h
  exact h.elim
set_option linter.unusedVariables false in
set_option maxRecDepth 100000 in
set_option maxHeartbeats 2000000 in
theorem Distances_any (v : Value) (ars : List Arr) (ps : List Pt) (z : Int) (w : World) (hp : PrR w v ars ps) :
  Calls Tryz.prog 28 #[v, .int .i64 z] w fun e w' => (∃ v' own, e = .returned v' ∧ PtsD own w.heap.size w' v' (distB ars ps z) ∧ ∀ b ∈ own, w.heap.size ≤ b ∧ b < w'.heap.size) ∧ Ext w w' := by
 obtain ⟨qa, ca, qp, cp, rfl, -, -, ha, hps⟩ := hp.parts
 have HA := Lib.hid ha; have HPS := Lib.hid hps
 clear hp ha hps
 go_enter Tryz.func28, Tryz.ntmps28
 go_wp2_with (fail)
 obtain ⟨W1, hW1⟩ : ∃ W1, w.alloc (.cells #[.slice qa ars.length ca, .slice qp ps.length cp] 32) = W1 := ⟨_, rfl⟩
 have E1 : Hid (Ext w W1) := Lib.hid (by rw [← hW1]; exact (Ext.refl w).alloc _)
 try rw [hW1]
 clear hW1
 refine (programOf_any qa qp _ ca _ cp ars ps _ rfl rfl (HA.out.ext E1.out) (HPS.out.ext E1.out)).mono ?_
 rintro e w2 ⟨⟨v, rfl, h0, h1⟩, hE⟩
 have HE := Lib.hid (E1.out.trans hE)
 clear hE
 obtain ⟨B0, hB0⟩ : ∃ B0, W1.heap.size = B0 := ⟨_, rfl⟩
 rw [hB0] at h1
 have hform : ∃ mo T q1 n1 c1 q2 M c2, ∃ es : List Ev, v = .agg #[.map mo, .int .i64 T, .slice q1 n1 c1, .slice q2 M c2] ∧ es.length = M ∧ M ≤ 120 ∧ EvsOwn B0 w2 (.slice q2 M c2) es ∧ dstF (dsE es z (dpOf (kEv es) (prTo M M))) = distB ars ps z ∧
   (∀ a ∈ es, ∀ b ∈ es, a.1.2.2.length ≤ 4 ∧ (∀ x ∈ a.1.2.2, -1000000 ≤ x ∧ x ≤ 1000000) ∧ (∀ x ∈ b.1.2.2, -1000000 ≤ x ∧ x ≤ 1000000) ∧ (a.1.1 = b.1.1 → b.1.2.2.length = a.1.2.2.length)) := by
  cases hb : progB ars ps with
  | false => exact ⟨_, _, _, _, _, _, _, _, [], h0 hb, rfl, by omega, ⟨[], World.ownsRow_nil _ _ _ _, fun i x h => by simp at h⟩, by unfold distB; rw [hb]; rfl, by simp⟩
  | true =>
   obtain ⟨Bm, D, q1, c1, q2, c2, rfl, -, -, -, -, he⟩ := h1 hb
   refine ⟨_, _, _, _, _, _, _, _, evsOf ars ps, rfl, rfl, by have := insM_120 hb; simpa [evsOf] using this, he, ?_, fun a ha b hbm => ?_⟩
   ·have h2 : dpOf (kEv (evsOf ars ps)) (prTo (evsOf ars ps).length (evsOf ars ps).length) = depsB ars ps := by rw [evs_cnt hb]; exact dl_deps hb
    have h3 : dsE (evsOf ars ps) z (depsB ars ps) = dsM ps z (depsB ars ps) := by
     unfold dsE dsM
     exact congrArg (fun f => (depsB ars ps).filterMap f) (funext (fun d => dEv_ins ars ps z d))
    rw [h2, h3]
    unfold distB
    rw [if_pos hb]
   ·unfold evsOf at ha hbm
    obtain ⟨y1, hy1, rfl⟩ := List.mem_map.1 ha
    obtain ⟨y2, hy2, rfl⟩ := List.mem_map.1 hbm
    exact ins_pts hb hy1 hy2
 obtain ⟨mo, T, q1, n1, c1, q2, M, c2, es, rfl, hM, hM120, hev, hdl, hes⟩ := hform
 have HM := Lib.hid hM; have HEV := Lib.hid hev; have HDL := Lib.hid hdl; have HES := Lib.hid hes
 clear h0 h1 hM hev hdl hB0 hes
 have hHS := Lib.hid HE.out.size_le
 go_wp2_with (fail)
 obtain ⟨w3, hw3⟩ : ∃ w3, w2.alloc (.cells #[.map mo, .int .i64 T, .slice q1 n1 c1, .slice q2 M c2] 70) = w3 := ⟨_, rfl⟩
 have E23 : Ext w2 w3 := by rw [← hw3]; exact (Ext.refl w2).alloc _
 have E3 : Hid (Ext w w3) := Lib.hid (HE.out.trans E23)
 have HEV3 := Lib.hid (HEV.out.ext E23)
 try rw [hw3]
 clear hw3 E23
 refine (distances_any B0 es mo T q1 q2 n1 c1 M c2 z w3 HM.out hM120 HEV3.out HES.out).mono ?_
 rintro e w5 ⟨⟨v5, own, rfl, hd, hob⟩, hE5⟩
 rw [HDL.out] at hd
 have hw3 := E3.out.size_le
 have HD := Lib.hid (ptsD_weak hd hw3); have E5 := Lib.hid (E3.out.trans hE5)
 have HOB : Hid (∀ b ∈ own, w.heap.size ≤ b ∧ b < w5.heap.size) := Lib.hid (fun b hb => by have := hob b hb; omega)
 clear hd hE5 hob
 go_wp2
 go_ret
 exact ⟨⟨_, own, rfl, HD.out, HOB.out⟩, E5.out⟩
end Go.Proofs.YtklehkkclojccaaGreat
