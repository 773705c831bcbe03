/- The texts G76, joined. No statement is proved here. -/
import Derived.Test.YtklehkkclojccaaGreatQI31
import Derived.Test.YtklehkkclojccaaGreatQI50
import Derived.Test.YtklehkkclojccaaGreatQI21
import Derived.Test.YtklehkkclojccaaGreatQI28
import Derived.Test.YtklehkkclojccaaGreatQI47
import Derived.Test.YtklehkkclojccaaGreatQI42
import Derived.Test.YtklehkkclojccaaGreatQI20
namespace Go.Proofs.YtklehkkclojccaaGreat
open Go.RowKit
def kI3 (e : Ev) : I3 := ((e.1.1 : Int), (e.1.2.1 : Int), e.1.2.2)
def cI3 (e : In3) : I3 := ((e.1 : Int), (e.2.1 : Int), e.2.2)
def iL (ars : List Arr) (ps : List Pt) : List I3 := if progB ars ps = true then ((insM ps).map (·.1)).map cI3 else []
theorem iL_len (ars : List Arr) (ps : List Pt) : (iL ars ps).length ≤ 1000 := by
 unfold iL
 by_cases h : progB ars ps = true
 ·rw [if_pos h, List.length_map, List.length_map]
  have := insM_120 h
  omega
 ·rw [if_neg h]; simp
theorem three_cells {L : Nat} {w : World} {u0 u1 u2 : Value} {t : TypeId} (hL : L = w.heap.size) : ∀ j v, [u0, u1, u2][j]? = some v → (w.alloc (.cells #[u0, u1, u2] t)).cell? ((⟨L, 0, none⟩ : Addr).add j) = some v := by
 subst hL
 intro q v hq
 match q, hq with
 | 0, hj => simp at hj; subst hj; simp [Addr.add, go_sem]
 | 1, hj => simp at hj; subst hj; simp [Addr.add, go_sem]
 | 2, hj => simp at hj; subst hj; simp [Addr.add, go_sem]
theorem underInsS : Tryz.prog.underlying 27 = some (.slice 74) := by kernel_rfl
theorem InssOwn.at3 {B : Nat} {w : World} {v : Value} {l : List In3} (h : InssOwn B w v l) : InsAt w v (l.map cI3) := by
 obtain ⟨vs, ho, he⟩ := h
 obtain ⟨p, c, rfl⟩ := row_formI ho
 refine ⟨p, c, by rw [List.length_map], fun i x hi => ?_⟩
 obtain ⟨a, ha, rfl⟩ := map_get hi
 obtain ⟨u0, u1, u2, t0, t1, t2, rfl, rfl, hp⟩ := he i a ha
 have h0 : l.length ≠ 0 := by have := (List.getElem?_eq_some_iff.1 ha).1; omega
 obtain ⟨g, c', e, -, hg⟩ := row_some ho h0
 cases e
 obtain ⟨pu, cu, rfl⟩ := row_formI hp
 exact ⟨g, pu, cu, rfl, hg, row_cell ho t0, row_cell ho t1, row_cell ho t2, IntsOwn.at hp⟩
def InsL (B : Nat) (w : World) (v : Value) (al : List EI) : Prop := w.ownsRow B 74 3 v al.length (tri al) ∧ (∀ a ∈ al, IntsOwn B w a.1 a.2.2.2) ∧ NoSh v (al.map (fun a => a.1))
theorem InsL.d {B : Nat} {w : World} {v : Value} {al : List EI} (h : InsL B w v al) : InsD B w v (al.map (fun a => a.2)) := ⟨al, rfl, by rw [List.length_map]; exact h.1, h.2.1, h.2.2⟩
theorem InsL.step {Lo k lp d4 d5 d B4 : Nat} {q p4 p5 : Option Addr} {wr v4 w7 : World} {al : List EI} {x : I3} {o : Obj} (h : InsL Lo wr (.slice q k d) al) (hal : al.length = k) (hE : Ext wr v4) (h4 : IntsOwn B4 v4 (.slice p4 lp d4) x.2.2) (hB4 : wr.heap.size ≤ B4) (hLo : Lo ≤ wr.heap.size)
  (hgr : (v4.alloc o).grownBy w7 (Value.slice q k d).ownBlock) (hown : w7.ownsRow Lo 74 3 (.slice p5 (k + 1) d5) (k + 1) (tri al ++ [.int .i64 x.1, .int .i64 x.2.1, .slice p4 lp d4])) (hat : (Value.slice p5 (k + 1) d5).ownBlock = (Value.slice q k d).ownBlock ∨ (Value.slice p5 (k + 1) d5).ownBlock = some (v4.alloc o).heap.size) :
  InsL Lo w7 (.slice p5 (k + 1) d5) (al ++ [(.slice p4 lp d4, x)]) ∧ Lv (fun b => Lo ≤ b) wr w7 := by
 obtain ⟨hr, hp, hn1, hn2⟩ := h
 have EA : Ext wr (v4.alloc o) := hE.alloc _
 have hs := hE.size_le
 have hsa : (v4.alloc o).heap.size = v4.heap.size + 1 := by simp
 have hrow : ∀ g, (Value.slice q k d).ownBlock = some g → g < wr.heap.size := fun g hg => (World.ownsRow.lt hr g hg).2
 have hold : ∀ a ∈ al, ∀ g, a.1.ownBlock = some g → g < wr.heap.size := fun a ha g hg => (World.ownsRow.lt (hp a ha) g hg).2
 have hnew : ∀ g, (Value.slice p4 lp d4).ownBlock = some g → wr.heap.size ≤ g ∧ g < v4.heap.size := fun g hg => by have := World.ownsRow.lt h4 g hg; omega
 have hlv : Lv (fun b => (Value.slice q k d).ownBlock = some b) (v4.alloc o) w7 := Lv.grown hgr (fun r hr _ => hr)
 refine ⟨⟨?_, fun a ha => ?_, ?_, ?_⟩, ?_⟩
 ·rw [tri_push, List.length_append, hal]
  exact hown
 ·rcases List.mem_append.1 ha with ha | ha
  ·exact row_lv (IntsOwn.ext (hp a ha) EA) hlv (fun g hg e => hn1 a.1 (List.mem_map.2 ⟨a, ha, rfl⟩) g hg e)
  ·simp only [List.mem_singleton] at ha
   subst ha
   exact ownsRow_weak (row_lv (IntsOwn.ext h4 ((Ext.refl v4).alloc _)) hlv (fun g hg e => by have := hrow g e; have := hnew g hg; omega)) (by omega)
 ·intro u hu g hg e
  rw [List.map_append] at hu
  rcases List.mem_append.1 hu with hu | hu
  ·obtain ⟨a, ha, rfl⟩ := List.mem_map.1 hu
   have h1 := hold a ha g hg
   rcases hat with e1 | e1
   ·rw [e1] at e; exact hn1 a.1 hu g hg e
   ·rw [e1] at e; have := Option.some.inj e; omega
  ·simp only [List.map_cons, List.map_nil, List.mem_singleton] at hu
   subst hu
   have h1 := hnew g hg
   rcases hat with e1 | e1
   ·rw [e1] at e; have := hrow g e; omega
   ·rw [e1] at e; have := Option.some.inj e; omega
 ·intro i j u u' hi hj hij g hg e
  rw [List.map_append] at hi hj
  have hlm : (al.map (fun a => a.1)).length = k := by rw [List.length_map, hal]
  have last : ∀ (i : Nat) (u : Value), (al.map (fun a => a.1) ++ [(Value.slice p4 lp d4, x)].map (fun a => a.1))[i]? = some u → (i < k ∧ (al.map (fun a => a.1))[i]? = some u) ∨ (i = k ∧ u = .slice p4 lp d4) := fun i u hi => by
   by_cases hik : i < k
   ·rw [List.getElem?_append_left (by omega)] at hi; exact .inl ⟨hik, hi⟩
   ·have h2 := (List.getElem?_eq_some_iff.1 hi).1
    simp only [List.length_append, hlm, List.map_cons, List.map_nil, List.length_cons, List.length_nil] at h2
    obtain rfl : i = k := by omega
    rw [List.getElem?_append_right (by omega), hlm, Nat.sub_self] at hi
    simp at hi
    exact .inr ⟨rfl, hi.symm⟩
  rcases last i u hi with ⟨h1, h2⟩ | ⟨h1, rfl⟩
  ·obtain ⟨a, ha, rfl⟩ := map_get h2
   have g1 := hold a (List.mem_of_getElem? ha) g hg
   rcases last j u' hj with ⟨h3, h5⟩ | ⟨h3, rfl⟩
   ·exact hn2 i j _ u' h2 h5 hij g hg e
   ·have := hnew g e; omega
  ·have g1 := hnew g hg
   rcases last j u' hj with ⟨h3, h5⟩ | ⟨h3, rfl⟩
   ·obtain ⟨a, ha, rfl⟩ := map_get h5
    have := hold a (List.mem_of_getElem? ha) g e
    omega
   ·omega
 ·refine (EA.lv (D := fun _ => False)).trans hlv (fun _ _ h => h.elim) (fun b _ e => ?_)
  exact (World.ownsRow.lt hr b e).1
theorem events_ins (v : Value) (ars : List Arr) (ps : List Pt) (B0 : Nat) (W1 w2 : World) (h0 : progB ars ps = false → v = .agg #[.map none, .int .i64 0, .slice none 0 0, .slice none 0 0]) (h1 : progB ars ps = true → PgR B0 W1 w2 v ars ps) :
  ∃ mo T q1 n1 c1 q2 M c2, ∃ es : List Ev, v = .agg #[.map mo, .int .i64 T, .slice q1 n1 c1, .slice q2 M c2] ∧ es.length = M ∧ M ≤ 120 ∧ EvsOwn B0 w2 (.slice q2 M c2) es ∧ es.map kI3 = iL ars ps ∧ (∀ a ∈ es, a.1.2.2.length ≤ 4) := by
 cases hb : progB ars ps with
 | false => exact ⟨_, _, _, _, _, _, _, _, [], h0 hb, rfl, by omega, ⟨[], World.ownsRow_nil _ _ _ _, fun i x h => by simp at h⟩, by unfold iL; rw [hb]; rfl, by simp⟩
 | true =>
  obtain ⟨Bm, D, q1, c1, q2, c2, rfl, -, -, -, -, he⟩ := h1 hb
  refine ⟨_, _, _, _, _, _, _, _, evsOf ars ps, rfl, rfl, by have := insM_120 hb; simpa [evsOf] using this, he, ?_, fun a ha => ?_⟩
  ·unfold iL evsOf
   rw [if_pos hb, List.map_map, List.map_map]
   rfl
  ·unfold evsOf at ha
   obtain ⟨y1, hy1, rfl⟩ := List.mem_map.1 ha
   obtain ⟨p, g1, -, g2, g3, -⟩ := insM_good hb hy1
   exact (nptsL_W g3 g2).1.1
set_option linter.unusedVariables false in
set_option maxRecDepth 100000 in
set_option maxHeartbeats 2000000 in
theorem specProgramInstances_any (v : Value) (ars : List Arr) (ps : List Pt) (w : World) (hp : PrR w v ars ps) :
  Calls Tryz.prog 13 #[v] w fun e w' => (∃ v', e = .returned v' ∧ InsAt w' v' (iL ars ps)) ∧ Ext w w' := by
 have HP := Lib.hid hp
 obtain ⟨qa, ca, qp, cp, rfl, -, -, -, -⟩ := hp.parts
 obtain ⟨na, hna⟩ : ∃ n, ars.length = n := ⟨_, rfl⟩
 obtain ⟨np, hnp⟩ : ∃ n, ps.length = n := ⟨_, rfl⟩
 rw [hna, hnp] at HP ⊢
 obtain ⟨pb, hpb⟩ : ∃ b, progB ars ps = b := ⟨_, rfl⟩
 have HPB := Lib.hid hpb
 clear hp hna hnp hpb
 go_enter Tryz.func13, Tryz.ntmps13
 go_wp2_with (fail)
 refine (specProgramValid_any _ ars ps _ (HP.out.ext ((Ext.refl w).alloc _))).mono ?_
 rw [HPB.out]
 rintro e w1 ⟨rfl, hE⟩
 have E1 := Lib.hid (((Ext.refl w).alloc _).trans hE)
 have B1 := Lib.hid (hE.blk (g := w.heap.size) (blk_at rfl))
 clear hE
 obtain ⟨y0, y1, -, -⟩ := blk2 B1.out
 cases pb with
 | false =>
  have HN : Hid (iL ars ps = []) := Lib.hid (by unfold iL; rw [HPB.out]; rfl)
  go_wp2
  go_ret
  exact ⟨⟨_, rfl, by rw [HN.out]; exact ⟨_, _, rfl, fun i x h => by simp at h⟩⟩, E1.out.alloc _⟩
 | true =>
  have HN : Hid (iL ars ps = ((insM ps).map (·.1)).map cI3) := Lib.hid (by unfold iL; rw [HPB.out]; rfl)
  go_wp2_with (fail)
  refine (l4Instances_any _ ars ps _ (HP.out.ext E1.out) HPB.out).mono ?_
  rintro e w2 ⟨⟨q, c, rfl, hi⟩, hE⟩
  have E2 := Lib.hid (E1.out.trans hE); have HI := Lib.hid hi.at3
  obtain ⟨n, hn⟩ : ∃ n, (insM ps).length = n := ⟨_, rfl⟩
  rw [hn] at HI ⊢
  clear hE hi y0 y1 hn
  go_wp2
  go_ret
  exact ⟨⟨_, rfl, by rw [HN.out]; exact HI.out⟩, E2.out⟩
set_option linter.unusedVariables false in
set_option linter.unusedSimpArgs false in
set_option maxRecDepth 100000 in
set_option maxHeartbeats 4000000 in
theorem ProgramInstances_any (v : Value) (ars : List Arr) (ps : List Pt) (w : World) (hp : PrR w v ars ps) :
  Calls Tryz.prog 15 #[v] w fun e w' => (∃ v', e = .returned v' ∧ InsD w.heap.size w' v' (iL ars ps)) ∧ Ext w w' := by
 obtain ⟨i0, hi, hz0, hz1, hz2⟩ := info_parts infoIns
 obtain ⟨qa, ca, qp, cp, rfl, -, -, ha, hps⟩ := hp.parts
 obtain ⟨na, hna⟩ : ∃ n, ars.length = n := ⟨_, rfl⟩
 obtain ⟨np, hnp⟩ : ∃ n, ps.length = n := ⟨_, rfl⟩
 rw [hna] at ha ⊢
 rw [hnp] at hps ⊢
 have HA := Lib.hid ha; have HPS := Lib.hid hps; have HNA := Lib.hid hna; have HNP := Lib.hid hnp
 clear hp ha hps hna hnp
 go_enter Tryz.func15, Tryz.ntmps15
 go_wp2_with (fail)
 refine (programOf_any qa qp na ca np cp ars ps _ HNA.out HNP.out (HA.out.ext ((Ext.refl w).alloc _)) (HPS.out.ext ((Ext.refl w).alloc _))).mono ?_
 rintro e w1 ⟨⟨v, rfl, h0, h1⟩, hE⟩
 have E1 := Lib.hid (((Ext.refl w).alloc _).trans hE)
 obtain ⟨mo, T, q1, n1, c1, q2, M, c2, es, rfl, hM, hM120, hev, hil, h4⟩ := events_ins v ars ps _ _ _ h0 h1
 obtain ⟨B0, hB0⟩ : ∃ B, (w.alloc (.cells #[.slice qa na ca, .slice qp np cp] 32)).heap.size = B := ⟨_, rfl⟩
 rw [hB0] at hev
 have HM := Lib.hid hM; have HEV := Lib.hid hev; have HIL0 := Lib.hid hil; have H4 := Lib.hid h4
 clear hE h0 h1 hM hev hil h4 hB0
 go_upto_region 3 with (fail)
 obtain ⟨W3, hW3⟩ : ∃ x, w1.alloc (.cells #[.map mo, .int .i64 T, .slice q1 n1 c1, .slice q2 M c2] 70) = x := ⟨_, rfl⟩
 have E13 : Ext w1 W3 := by rw [← hW3]; exact (Ext.refl w1).alloc _
 have B3 : Hid (W3.heap[w1.heap.size]? = some (.cells #[.map mo, .int .i64 T, .slice q1 n1 c1, .slice q2 M c2] 70 (0, 0))) := Lib.hid (by rw [← hW3]; exact blk_at rfl)
 have E3 := Lib.hid (E1.out.trans E13); have HEV3 := Lib.hid (HEV.out.ext E13)
 try rw [hW3]
 clear hW3 E13
 obtain ⟨Lo, hLo⟩ : ∃ L, W3.heap.size = L := ⟨_, rfl⟩
 have HLO := Lib.hid hLo
 clear hLo
 obtain ⟨y0, y1, y2, y3, -⟩ := blk4' B3.out
 go_wp2
 go_loopw [5, 16] (fun ov iv wr => ∃ (k : Nat) (q : Option Addr) (d : Nat) (al : List EI), k ≤ M ∧ iv = .int .i64 k ∧ ov = .slice q k d ∧ al.length = k ∧ al.map (fun a => a.2) = (es.take k).map kI3 ∧ InsL Lo wr (.slice q k d) al ∧ Ext W3 wr) (fun _ iv _ => M - (intOf iv).toNat)
 case atStart => exact ⟨0, none, 0, [], by omega, rfl, rfl, rfl, rfl, ⟨World.ownsRow_nil _ _ _ _, fun a h => by simp at h, fun u h => by simp at h, fun i j u u' h => by simp at h⟩, Ext.refl W3⟩
 case round =>
  obtain ⟨k, q, d, al, hk, rfl, rfl, hal, hmap, hil, hE⟩ := hrel
  have HAL := Lib.hid hal; have HMAP := Lib.hid hmap; have HIL := Lib.hid hil
  have hLw : Lo ≤ wr.heap.size := by have := hE.size_le; have := HLO.out; omega
  have HLW := Lib.hid hLw
  clear hal hmap y0 y1 y2 y3
  by_cases hlt : k < M
  ·obtain ⟨x, hx⟩ := get_some (xs := es) (k := k) (by rw [HM.out]; exact hlt)
   have hx4 := H4.out x (List.mem_of_getElem? hx)
   obtain ⟨o, g, c3, r, kr, rfl, hol, a0, a1, a2, a3, a4, hpt, -⟩ := (HEV3.out.ext hE).elem hx
   obtain ⟨⟨xi, xj, pts⟩, xrs, xw⟩ := x
   dsimp only at a0 a1 a2 a3 a4 hpt hx4
   obtain ⟨lp, hlp⟩ : ∃ m, pts.length = m := ⟨_, rfl⟩
   obtain ⟨lr, hlr⟩ : ∃ m, xrs.length = m := ⟨_, rfl⟩
   rw [hlp] at a2 hpt hx4
   rw [hlr] at a3
   have hkI : (k : Int) < (M : Int) := by omega
   have EZ : Ext wr (wr.alloc (.cells #[.int .i64 (xi : Int), .int .i64 (xj : Int), .slice (some ⟨g, 0, none⟩) lp c3, .slice r lr kr, .int .i64 xw] 76)) := (Ext.refl wr).alloc _
   have BZ : Hid ((wr.alloc (.cells #[.int .i64 (xi : Int), .int .i64 (xj : Int), .slice (some ⟨g, 0, none⟩) lp c3, .slice r lr kr, .int .i64 xw] 76)).heap[wr.heap.size]? = some (.cells #[.int .i64 (xi : Int), .int .i64 (xj : Int), .slice (some ⟨g, 0, none⟩) lp c3, .slice r lr kr, .int .i64 xw] 76 (0, 0))) := Lib.hid (blk_at rfl)
   have hil1 := hil.1
   rw [HAL.out] at hil1
   have HX := Lib.hid hx; have HLP := Lib.hid hlp; have HPT := Lib.hid (IntsOwn.ext hpt EZ); have HRO := Lib.hid (ownsRow_ext hil1 EZ); have HE := Lib.hid hE
   have HOW : Hid (∀ r, (Value.slice q k d).ownBlock = some r → r < wr.heap.size) := Lib.hid (fun r hr => (World.ownsRow.lt hil1 r hr).2)
   clear hx hlp hlr hpt hil1 hil hE
   go_upto_region 6 with (fail)
   obtain ⟨g7, hg7⟩ : ∃ g, wr.heap.size = g := ⟨_, rfl⟩
   obtain ⟨wz, hwz⟩ : ∃ x, wr.alloc (.cells #[.int .i64 (xi : Int), .int .i64 (xj : Int), .slice (some ⟨g, 0, none⟩) lp c3, .slice r lr kr, .int .i64 xw] 76) = x := ⟨_, rfl⟩
   rw [hg7] at BZ HOW
   rw [hwz] at BZ HPT HRO EZ
   try rw [hg7]
   try rw [hwz]
   have HEZ := Lib.hid EZ
   have HLZ : Hid (Lo ≤ wz.heap.size) := Lib.hid (by have := EZ.size_le; omega)
   clear hg7 hwz EZ a0 a1 a2 a3 a4
   have HSO : Hid (∀ W : World, Ext wz W → W.cell? ⟨g7, 0, none⟩ = some (.int .i64 (xi : Int)) ∧ W.cell? ⟨g7, 1, none⟩ = some (.int .i64 (xj : Int)) ∧ W.cell? ⟨g7, 2, none⟩ = some (.slice (some ⟨g, 0, none⟩) lp c3)) := Lib.hid (fun W h => by obtain ⟨c0, c1, c2, -⟩ := blk5e (h.blk BZ.out); exact ⟨c0, c1, c2⟩)
   have HSO7 : Hid (∀ A W : World, Ext wz A → A.grownBy W (Value.slice q k d).ownBlock → W.cell? ⟨g7, 0, none⟩ = some (.int .i64 (xi : Int)) ∧ W.cell? ⟨g7, 1, none⟩ = some (.int .i64 (xj : Int)) ∧ W.cell? ⟨g7, 2, none⟩ = some (.slice (some ⟨g, 0, none⟩) lp c3)) := Lib.hid (fun A W h hg => by obtain ⟨c0, c1, c2, -⟩ := blk5e (grownBy_blk hg (h.blk BZ.out) (fun e => by have := HOW.out g7 e.symm; omega)); exact ⟨c0, c1, c2⟩)
   refine wp_region_held_drew (S := (fun W => W.cell? ⟨g7, 0, none⟩ = some (.int .i64 (xi : Int)) ∧ W.cell? ⟨g7, 1, none⟩ = some (.int .i64 (xj : Int)) ∧ W.cell? ⟨g7, 2, none⟩ = some (.slice (some ⟨g, 0, none⟩) lp c3))) (by kernel_rfl) (HSO.out _ (Ext.refl wz).drew) (fun hHeld => ?_)
   refine wpAnyH_takeDw (some 20) (i := 0) (v := ?vb1) rfl (by kernel_rfl) (by kernel_rfl) (by kernel_rfl) (by kernel_rfl) (fun _ _ _ h => h) (Or.inl ⟨by rfl, ?hyb1⟩) (by assumption) ?rb1
   case hyb1 => intro w hSw; (try dsimp only at hSw); go_simp; first | done | with_reducible rfl
   case' rb1 => try simp only [Act.put, sA9, sZ9, sS9]
   refine wpAnyH_takeDw (some 21) (i := 1) (v := ?vb2) rfl (by kernel_rfl) (by kernel_rfl) (by kernel_rfl) (by kernel_rfl) (fun _ _ _ h => h) (Or.inl ⟨by rfl, ?hyb2⟩) (by assumption) ?rb2
   case hyb2 => intro w hSw; (try dsimp only at hSw); go_simp; first | done | with_reducible rfl
   case' rb2 => try simp only [Act.put, sA9, sZ9, sS9]
   refine wpAnyH_takeDw (some 22) (i := 2) (v := ?vb3) rfl (by kernel_rfl) (by kernel_rfl) (by kernel_rfl) (by kernel_rfl) (fun _ _ _ h => h) (Or.inl ⟨by rfl, ?hyb3⟩) (by assumption) ?rb3
   case hyb3 => intro w hSw; (try dsimp only at hSw); go_simp; first | done | with_reducible rfl
   case' rb3 => try simp only [Act.put, sA9, sZ9, sS9]
   refine wpAnyH_takeDw (some 23) (i := 3) (v := ?vb4) rfl (by kernel_rfl) (by kernel_rfl) (by kernel_rfl) (by kernel_rfl) (fun _ _ _ h => h) (Or.inl ⟨by rfl, ?hyb4⟩) (by assumption) ?rb4
   case hyb4 => intro w hSw; (try dsimp only at hSw); go_simp; first | done | with_reducible rfl
   case' rb4 => try simp only [Act.put, sA9, sZ9, sS9]
   refine wpAnyH_takeDw (some 24) (i := 4) (v := ?vb5) rfl (by kernel_rfl) (by kernel_rfl) (by kernel_rfl) (by kernel_rfl) (fun _ _ _ h => h) (Or.inl ⟨by rfl, ?hyb5⟩) (by assumption) ?rb5
   case hyb5 => intro w hSw; (try dsimp only at hSw); go_simp; first | done | with_reducible rfl
   case' rb5 => try simp only [Act.put, sA9, sZ9, sS9]
   refine wpAnyH_takeDw (some 25) (i := 5) (v := ?vb6) rfl (by kernel_rfl) (by kernel_rfl) (by kernel_rfl) (by kernel_rfl) (fun _ _ _ h => h) (Or.inl ⟨by rfl, ?hyb6⟩) (by assumption) ?rb6
   case hyb6 => intro w hSw; (try dsimp only at hSw); go_simp; first | done | with_reducible rfl
   case' rb6 => try simp only [Act.put, sA9, sZ9, sS9]
   refine wpAnyH_takeDw (some 26) (i := 6) (v := ?vb7) rfl (by kernel_rfl) (by kernel_rfl) (by kernel_rfl) (by kernel_rfl) (fun _ _ _ h => h) (Or.inl ⟨by rfl, ?hyb7⟩) (by assumption) ?rb7
   case hyb7 => intro w hSw; (try dsimp only at hSw); go_simp; first | done | with_reducible rfl
   case' rb7 => try simp only [Act.put, sA9, sZ9, sS9]
   refine wpAnyH_takeDw (some 27) (i := 7) (v := ?vb8) rfl (by kernel_rfl) (by kernel_rfl) (by kernel_rfl) (by kernel_rfl) (fun _ _ _ h => h) (Or.inl ⟨by rfl, ?hyb8⟩) (by assumption) ?rb8
   case hyb8 => intro w hSw; (try dsimp only at hSw); go_simp; first | done | with_reducible rfl
   case' rb8 => try simp only [Act.put, sA9, sZ9, sS9]
   refine wpAnyH_takeDw (some 28) (i := 8) (v := ?vb9) rfl (by kernel_rfl) (by kernel_rfl) (by kernel_rfl) (by kernel_rfl) (fun _ _ _ h => h) (Or.inl ⟨by rfl, ?hyb9⟩) (by assumption) ?rb9
   case hyb9 => intro w hSw; (try dsimp only at hSw); go_simp; first | done | with_reducible rfl
   case' rb9 => try simp only [Act.put, sA9, sZ9, sS9]
   refine wpAnyH_takeDw (some 29) (i := 9) (v := ?vb10) rfl (by kernel_rfl) (by kernel_rfl) (by kernel_rfl) (by kernel_rfl) (fun _ _ _ h => h) (Or.inl ⟨by rfl, ?hyb10⟩) (by assumption) ?rb10
   case hyb10 => intro w hSw; (try dsimp only at hSw); go_simp; first | done | with_reducible rfl
   case' rb10 => try simp only [Act.put, sA9, sZ9, sS9]
   refine wpAnyH_ready (rs := [10]) (by kernel_rfl) (by simp) ?_
   refine AllReadyH.cons rfl (fun K9 hK => ?_) AllReadyH.nil
   (go_simp; refine (cloneA_any (some ⟨g, 0, none⟩) lp c3 pts _ HLP.out ((IntsOwn.at HPT.out).ext (Ext.refl wz).drew) (by omega)).mono ?_; rintro e v4 ⟨⟨p4, d4, rfl, h4⟩, hE4⟩; have EX : Ext wz v4 := (Ext.refl wz).drew.trans hE4)
   refine hK.out _ _ (HSO.out _ EX) (fun hHb11 => ?_)
   clear hK K9
   try simp only [Act.put, sA9, sZ9, sS9]
   refine wpAnyH_takeDw (some 31) (i := 11) (v := ?vb12) rfl (by kernel_rfl) (by kernel_rfl) (by kernel_rfl) (by kernel_rfl) (fun _ _ _ h => h) (Or.inl ⟨by rfl, ?hyb12⟩) (by assumption) ?rb12
   case hyb12 => intro w hSw; (try dsimp only at hSw); go_simp; first | done | with_reducible rfl
   case' rb12 => try simp only [Act.put, sA9, sZ9, sS9]
   refine wpAnyH_ready (rs := [12]) (by kernel_rfl) (by simp) ?_
   refine AllReadyH.cons rfl (fun K9 hK => ?_) AllReadyH.nil
   go_simp
   refine hK.out _ _ (HSO.out _ (EX.trans ((Ext.refl v4).alloc _))) (fun hHb13 => ?_)
   clear hK K9
   try simp only [Act.put, sA9, sZ9, sS9]
   refine wpAnyH_ready (rs := [13]) (by kernel_rfl) (by simp) ?_
   refine AllReadyH.cons rfl (fun K9 hK => ?_) AllReadyH.nil
   (have EA : Ext v4 (v4.alloc (.cells #[.int .i64 (xi : Int), .int .i64 (xj : Int), .slice p4 lp d4] 74)) := (Ext.refl v4).alloc _; have EXA := EX.trans EA; have ho := ownsRow_ext HRO.out EXA; refine step_append_at _ rfl (.tmp 20) (.tmp 32) 27 rfl Lo 74 i0 (.agg #[.int .i64 0, .int .i64 0, .slice none 0 0]) 3 40 underInsS hi hz0 hz1 hz2 rfl (by decide) (.slice q k d) k (tri al) rfl ho ⟨v4.heap.size, 0, none⟩ 1 1 [.int .i64 (xi : Int), .int .i64 (xj : Int), .slice p4 lp d4] rfl rfl (three_cells rfl) (by intro u hu; simp at hu; rcases hu with rfl | rfl | rfl <;> rfl) (by unfold maxLen; omega) (by omega) (by have := HLZ.out; have := EXA.size_le; omega) ?_; intro v' w7 hown7 hgr7 hnil7 hat7; obtain ⟨p5, d5, rfl⟩ := row_formI hown7)
   refine hK.out _ _ (HSO7.out _ _ EXA hgr7) (fun hHb14 => ?_)
   clear hK K9
   try simp only [Act.put, sA9, sZ9, sS9]
   refine wpAnyH_takeDw (some 5) (i := 14) (v := ?vb15) rfl (by kernel_rfl) (by kernel_rfl) (by kernel_rfl) (by kernel_rfl) (fun _ _ _ h => h) (Or.inl ⟨by rfl, ?hyb15⟩) (by assumption) ?rb15
   case hyb15 => intro w hSw; (try dsimp only at hSw); go_simp; first | done | with_reducible rfl
   case' rb15 => try simp only [Act.put, sA9, sZ9, sS9]
   refine wpAnyH_done (by kernel_rfl) ?_ _
   obtain ⟨hst, hE7⟩ := InsL.step (x := ((xi : Int), (xj : Int), pts)) HIL.out HAL.out (HEZ.out.trans EX) h4 (by have := HEZ.out.size_le; have h9 : wz.drew.heap.size = wz.heap.size := rfl; omega) HLW.out hgr7 hown7 hat7
   have ST := Lib.hid hst; have HE7 := Lib.hid (Lv.ext0 hE7 HE.out (fun b hb h => by have := HLO.out; omega))
   clear ho hown7 hgr7 hnil7 hat7 hHeld hst hE7 h4 hE4 EX EA EXA
   go_wp2
   go_roundw
   case rel => exact ⟨k + 1, p5, d5, al ++ [(.slice p4 lp d4, ((xi : Int), (xj : Int), pts))], by omega, by go_num, rfl, by rw [List.length_append, HAL.out]; rfl, by rw [List.map_append, HMAP.out, take_next HX.out, List.map_append]; rfl, ST.out, HE7.out⟩
   case measure => simp [intOf]; omega
  ·obtain rfl : k = M := by omega
   have HD : Hid (InsD Lo wr (.slice q k d) (iL ars ps)) := Lib.hid (by
    have h := HIL.out.d
    rw [HMAP.out, List.take_of_length_le (by rw [HM.out]; omega), HIL0.out] at h
    exact h)
   have HLq := HLO.out
   have E9 := Lib.hid (E3.out.trans hE)
   have HD2 : Hid (InsD w.heap.size wr (.slice q k d) (iL ars ps)) := Lib.hid (by
    obtain ⟨al2, e1, e2, e3, e4⟩ := HD.out
    have hs := E3.out.size_le
    exact ⟨al2, e1, ownsRow_weak e2 (by omega), fun a ha => ownsRow_weak (e3 a ha) (by omega), e4⟩)
   clear hil hE
   go_wp2
   go_ret
   exact ⟨⟨_, rfl, HD2.out⟩, E9.out⟩
end Go.Proofs.YtklehkkclojccaaGreat
