/- The texts E5, joined. No statement is proved here. -/
import Derived.Test.YtmhldhjpfeageabGreatK46
/- The machine of a program: machineOf. No statement is proved here. -/
namespace Go.Proofs.YtmhldhjpfeageabGreat
open Go.RowKit Go.Maps
set_option linter.unusedVariables false in
set_option linter.unusedSimpArgs false in
set_option maxRecDepth 100000 in
set_option maxHeartbeats 4000000 in
theorem machineOf_any (v : Value) (ars : List Arr) (ps : List Pt) (pm : Option Addr) (n cm : Nat) (xs : List Int) (w : World) (hp : PrR w v ars ps) (hn : xs.length = n) (hs : IntsAt w (.slice pm n cm) xs) :
  Calls Tryz.prog 59 #[v, .slice pm n cm] w fun e w' => (∃ v, e = .returned (.tuple #[v, .bool (memB ars ps xs)]) ∧ (memB ars ps xs = false → v = .agg #[.map none, .int .i64 0, .slice none 0 0, .slice none 0 0, .slice none 0 0, .slice none 0 0]) ∧ (memB ars ps xs = true → MachR w.heap.size w' v ars ps xs)) ∧ Ext w w' := by
 obtain ⟨qa, ca, qp, cp, rfl, -, -, ha, hps⟩ := hp.parts
 have HA := Lib.hid ha; have HPS := Lib.hid hps; have HN := Lib.hid hn; have HS := Lib.hid hs
 clear hp ha hps hn hs
 go_enter Tryz.func59, Tryz.ntmps59
 go_wp2_with (fail)
 obtain ⟨W0, hW0⟩ : ∃ W0, ((w.alloc (.cells #[.slice qa ars.length ca, .slice qp ps.length cp] 32)).alloc (.cells #[.map none, .int .i64 0, .slice none 0 0, .slice none 0 0, .slice none 0 0, .slice none 0 0] 106)) = W0 := ⟨_, rfl⟩
 have E0 : Hid (Ext w W0) := Lib.hid (by rw [← hW0]; exact ((Ext.refl w).alloc _).alloc _)
 have R0 := Lib.hid (show W0.heap[w.heap.size + 1]? = some (.cells #[.map none, .int .i64 0, .slice none 0 0, .slice none 0 0, .slice none 0 0, .slice none 0 0] 106 (0, 0)) by rw [← hW0]; exact blk_at (by simp))
 try rw [hW0]
 clear hW0
 refine (programOf_any qa qp _ ca _ cp ars ps _ rfl rfl (HA.out.ext E0.out) (HPS.out.ext E0.out)).mono ?_
 rintro e w1 ⟨⟨v, rfl, h0, h1⟩, hE⟩
 have E1 := Lib.hid (E0.out.trans hE); have R1 := Lib.hid (hE.blk R0.out)
 have HE01 := Lib.hid hE
 clear hE
 obtain ⟨pb, hpb⟩ : ∃ b, progB ars ps = b := ⟨_, rfl⟩
 rw [hpb] at h0 h1 ⊢
 have HPB := Lib.hid hpb
 clear hpb
 cases pb with
 | false =>
  have hv := h0 rfl
  subst hv
  have HM : Hid (memB ars ps xs = false) := Lib.hid (by unfold memB; rw [HPB.out]; simp)
  clear h0 h1
  have E2 := Lib.hid (E1.out.alloc (.cells #[.map none, .int .i64 0, .slice none 0 0, .slice none 0 0] 75)); have R2 := Lib.hid (blk_old (o := .cells #[.map none, .int .i64 0, .slice none 0 0, .slice none 0 0] 75) R1.out)
  go_upto_region 3 with (fail)
  generalize w1.alloc (.cells #[.map none, .int .i64 0, .slice none 0 0, .slice none 0 0] 75) = w2 at *
  have hl2 := lt_of_block R2.out
  obtain ⟨r0, r1, r2, r3, r4, r5, rf⟩ := blk6 R2.out
  have f0 := rf 0; have f1 := rf 1; have f2 := rf 2; have f3 := rf 3; have f4 := rf 4; have f5 := rf 5
  have HZ := Lib.hid (blk6_set (a' := .map none) (b' := .int .i64 0) (c' := .slice none 0 0) (d' := .slice none 0 0) (e' := .slice none 0 0) (f' := .slice none 0 0) R2.out)
  clear rf
  go_wp2
  have HX := Lib.hid (ext_set6 E2.out (g := w.heap.size + 1) (by omega) (.map none) (.int .i64 0) (.slice none 0 0) (.slice none 0 0) (.slice none 0 0) (.slice none 0 0))
  generalize ((((((w2.setCell ⟨w.heap.size + 1, 0, none⟩ (.map none)).setCell ⟨w.heap.size + 1, 1, none⟩ (.int .i64 0)).setCell ⟨w.heap.size + 1, 2, none⟩ (.slice none 0 0)).setCell ⟨w.heap.size + 1, 3, none⟩ (.slice none 0 0)).setCell ⟨w.heap.size + 1, 4, none⟩ (.slice none 0 0)).setCell ⟨w.heap.size + 1, 5, none⟩ (.slice none 0 0)) = w3 at *
  obtain ⟨q0, q1, q2, q3, q4, q5, -⟩ := blk6 HZ.out
  exact bodyPost_ret (v := .tuple #[.agg #[.map none, .int .i64 0, .slice none 0 0, .slice none 0 0, .slice none 0 0, .slice none 0 0], .bool false]) (by simp [results, Tryz.results59, go_sem, q0, q1, q2, q3, q4, q5]) rfl ⟨⟨_, by rw [HM.out], fun _ => rfl, fun h => by rw [HM.out] at h; cases h⟩, HX.out⟩
 | true =>
  obtain ⟨Bm, D, q1, c1, q2, c2, rfl, hBm, hom, hmi, hpo, hev⟩ := h1 rfl
  have HBM := Lib.hid hBm; have HOM := Lib.hid hom; have HMI := Lib.hid hmi; have HPO := Lib.hid hpo; have HEV := Lib.hid hev
  obtain ⟨T, hT⟩ : ∃ T, totN ars = T := ⟨_, rfl⟩
  rw [hT]
  have HT := Lib.hid hT
  obtain ⟨m, hm⟩ : ∃ m, ps.length = m := ⟨_, rfl⟩
  obtain ⟨ne, hne⟩ : ∃ m, (evsOf ars ps).length = m := ⟨_, rfl⟩
  rw [hm] at HPO ⊢
  rw [hne] at HEV ⊢
  have HM := Lib.hid hm; have HNE := Lib.hid hne
  clear h0 h1 hBm hom hmi hpo hev hT hm hne
  have hl1 := lt_of_block R1.out
  obtain ⟨vb, hvb⟩ : ∃ b, (valsB xs && decide ((xs.length : Int) = T)) = b := ⟨_, rfl⟩
  have HMB : Hid (memB ars ps xs = vb) := Lib.hid (by unfold memB; rw [HPB.out, HT.out, Bool.true_and]; exact hvb)
  have HVB := Lib.hid hvb
  clear hvb
  go_wp2_with (fail)
  refine (memValid_any pm n cm T xs _ HN.out (HS.out.ext (E1.out.alloc _))).mono ?_
  rw [HVB.out]
  rintro e w2 ⟨rfl, hE⟩
  have E2 := Lib.hid ((E1.out.alloc (.cells #[.map (some Bm), .int .i64 T, .slice q1 m c1, .slice q2 ne c2] 75)).trans hE)
  have R2 := Lib.hid (hE.blk (blk_old (o := .cells #[.map (some Bm), .int .i64 T, .slice q1 m c1, .slice q2 ne c2] 75) R1.out))
  have P2 := Lib.hid (hE.blk (blk_at (w := w1) (o := .cells #[.map (some Bm), .int .i64 T, .slice q1 m c1, .slice q2 ne c2] 75) rfl))
  have X12 := Lib.hid (((Ext.refl w1).alloc (.cells #[.map (some Bm), .int .i64 T, .slice q1 m c1, .slice q2 ne c2] 75)).trans hE)
  clear hE hl1
  cases vb
  rotate_left
  ·have hl2 := lt_of_block P2.out
   go_upto_region 4 with (fail)
   have HVP := HVB.out
   rw [Bool.and_eq_true, decide_eq_true_eq, HN.out] at HVP
   obtain ⟨hva, hnT⟩ := HVP
   have HNT := Lib.hid hnT; have HVA := Lib.hid hva
   have htb := totN_bd (ars := ars) (by have h := progB_arrs HPB.out; simp only [arrsB, Bool.and_eq_true, List.all_eq_true] at h; exact h.1)
   have hal := arrs_len (progB_arrs HPB.out)
   rw [HT.out] at htb
   have hn20 : n ≤ 1048576 := by omega
   clear hva hnT htb hal
   obtain ⟨b0, b1, b2, b3, -⟩ := blk4' P2.out
   go_cut [8] (fun s8 wc => ∃ (g8 : Nat) (p4 : Option Addr) (d4 : Nat), s8 = .pointer (some ⟨g8, 0, none⟩) ∧ wc.heap[g8]? = some (.cells #[.map (some Bm), .int .i64 T, .slice q1 m c1, .slice q2 ne c2, .slice p4 n d4, .slice none 0 0] 106 (0, 0)) ∧ IntsOwn w2.heap.size wc (.slice p4 n d4) xs ∧ (∀ b, (Value.slice p4 n d4).ownBlock = some b → b ≠ g8) ∧ Ext w2 wc ∧ w2.heap.size ≤ g8)
   case first =>
    go_region_with (first
     | (go_at_call 49; (with_reducible refine (cloneA_any pm n cm xs w2.drew HN.out (HS.out.ext E2.out.drew) hn20).mono ?_); rintro e w3 ⟨⟨p4, d4, rfl, h4⟩, hE⟩; have XE := (Ext.refl w2).drew.trans hE; have x0 := XE.keep b0; have x1 := XE.keep b1; have x2 := XE.keep b2; have x3 := XE.keep b3; have hl3 := Nat.lt_of_lt_of_le hl2 XE.size_le)
     | (go_at_call 49; (with_reducible refine (cloneA_any pm n cm xs (w2.alloc (.cells #[.map none, .int .i64 0, .slice none 0 0, .slice none 0 0, .slice none 0 0, .slice none 0 0] 106)).drew HN.out (HS.out.ext (E2.out.alloc _).drew) hn20).mono ?_); rintro e w3 ⟨⟨p4, d4, rfl, h4⟩, hE⟩; have XE := ((Ext.refl w2).alloc (.cells #[.map none, .int .i64 0, .slice none 0 0, .slice none 0 0, .slice none 0 0, .slice none 0 0] 106)).drew.trans hE; have x0 := XE.keep b0; have x1 := XE.keep b1; have x2 := XE.keep b2; have x3 := XE.keep b3; have hl3 := Nat.lt_of_lt_of_le hl2 XE.size_le; have Z3 := Lib.hid ((Ext.trans (Ext.refl _).drew hE).blk (blk_at (w := w2) (o := .cells #[.map none, .int .i64 0, .slice none 0 0, .slice none 0 0, .slice none 0 0, .slice none 0 0] 106) rfl)); obtain ⟨z0, z1, z2, z3, z4, z5, zf⟩ := blk6 Z3.out; have f0 := zf 0; have f1 := zf 1; have f2 := zf 2; have f3 := zf 3; have f4 := zf 4; have f5 := zf 5; clear zf)
     | fail)
    all_goals (try go_wp2_with (fail))
    all_goals go_meet
    all_goals first
     | (refine ⟨w3.heap.size, p4, d4, rfl, ?_, ?_, ?_, ?_, ?_⟩; (with_reducible exact blk_at rfl); (exact (IntsOwn.weak (B := w2.heap.size) h4 (Nat.le_refl _)).ext ((Ext.refl _).alloc _)); (exact fun b hb => by have := h4.block_lt b hb; omega); (exact XE.alloc _); (exact XE.size_le))
     | (refine ⟨w2.heap.size, p4, d4, rfl, ?_, ?_, ?_, ?_, ?_⟩; (with_reducible exact blk6_set Z3.out); (exact IntsOwn.weak (IntsOwn.lvB h4 (lv_set6 w3 w2.heap.size _ _ _ _ _ _) (fun b hb => by subst hb; simp)) (by simp)); (exact fun b hb e => by have := (h4.lt b hb).1; simp at this; omega); (exact ext_set6 XE (Nat.le_refl _) _ _ _ _ _ _); (exact Nat.le_refl _))
   case rest =>
    obtain ⟨g8, p4, d4, rfl, hb8, h4, hne8, hX, hge8⟩ := hcut
    have B8 := Lib.hid hb8; have H4 := Lib.hid h4; have N8 := Lib.hid hne8; have X24 := Lib.hid hX
    have P4 := Lib.hid (hX.blk P2.out); have R4 := Lib.hid (hX.blk R2.out)
    have hl8 := lt_of_block hb8
    have hlp := lt_of_block P4.out
    clear hb8 h4 hne8 hX b0 b1 b2 b3
    obtain ⟨Lo, hLo⟩ : ∃ L, wc.heap.size = L := ⟨_, rfl⟩
    have HLO := Lib.hid hLo
    clear hLo
    obtain ⟨b0, b1, b2, b3, -⟩ := blk4' P4.out
    obtain ⟨i0, hi, hz0, hz1, hz2⟩ := info_parts infoFs
    go_wp2
    go_loopw [34] (fun iv wr => ∃ (k : Nat) (p : Option Addr) (d : Nat) (C : Nat → Prop), k ≤ m ∧ iv = .int .i64 k ∧ wr.heap[g8]? = some (.cells #[.map (some Bm), .int .i64 T, .slice q1 m c1, .slice q2 ne c2, .slice p4 n d4, .slice p k d] 106 (0, 0)) ∧ FsL C W0.heap.size w1 (some Bm) T Lo wr (.slice p k d) (ps.take k) ∧
     (∀ g, C g → Lo ≤ g ∧ g < wr.heap.size) ∧ (∀ b, (Value.slice p k d).ownBlock = some b → ¬ C b) ∧ Lv (fun b => b = g8) wc wr) (fun iv _ => m - (intOf iv).toNat)
    case atStart => exact ⟨0, none, 0, fun _ => False, by omega, rfl, B8.out, FsL.nil _ _ _ _ _ _ _, fun _ h => h.elim, fun b h => by simp [Value.ownBlock] at h, Lv.refl _ _⟩
    case round =>
     obtain ⟨k, p, d, C, hk, rfl, hg8, hff, hc1, hc2, hL⟩ := hrel
     have G8 := Lib.hid hg8; have HFF := Lib.hid hff; have HC1 := Lib.hid hc1; have HC2 := Lib.hid hc2; have HL := Lib.hid hL
     have hl8r := lt_of_block hg8
     have PR := Lib.hid (hL.heap P4.out (by omega))
     have EW : Hid (Ext w1 wr) := Lib.hid (Lv.ext0 hL (X12.out.trans X24.out) (fun b hb => by omega))
     clear hg8 hff hc1 hc2 hL
     by_cases hlt : k < m
     ·obtain ⟨x, hx⟩ := get_some (xs := ps) (k := k) (by rw [HM.out]; exact hlt)
      obtain ⟨-, hm4, hpb4, -⟩ := progB_inv HPB.out
      have hx4 := (partB_len (hpb4 x (List.mem_of_getElem? hx))).2
      rw [HM.out] at hm4
      obtain ⟨g, u0, u1, rfl, hgl, c0, c1', hpart⟩ := (PartsOwn.at2 (PartsOwn.ext HPO.out EW.out) HM.out hx)
      obtain ⟨g', u0', u1', hge, -, d0, d1, hpart1⟩ := (HPO.out).at2 HM.out hx
      cases hge
      have k0 := EW.out.keep d0
      have k1 := EW.out.keep d1
      rw [c0] at k0
      rw [c1'] at k1
      cases k0
      cases k1
      obtain ⟨hpt, hss⟩ := hpart1
      obtain ⟨qb, cb, rfl⟩ := hss.form
      obtain ⟨qx, cx, rfl⟩ := hpt.form
      obtain ⟨nb, hnb⟩ : ∃ n, x.2.length = n := ⟨_, rfl⟩
      rw [hnb] at hss hx4 c1'
      have HSS := Lib.hid hss; have HNB := Lib.hid hnb; have HX := Lib.hid hx
      clear hpart hpt hss hnb hx d0 d1 hpb4
      obtain ⟨-, -, -, -, -, g5, -⟩ := blk6 G8.out
      obtain ⟨y0, y1, -, -, -⟩ := blk4' PR.out
      have hlpr := lt_of_block PR.out
      obtain ⟨vs, ho, he⟩ := HFF.out
      have HTL : Hid ((ps.take k).length = k) := Lib.hid (by rw [List.length_take, HM.out]; omega)
      rw [HTL.out] at ho
      have HO := Lib.hid ho; have HHE := Lib.hid he
      have hvl : vs.length = k := by have := ho.1; omega
      clear ho he
      have hszL : Lo ≤ wr.heap.size := by have := HL.out.size; rw [HLO.out] at this; exact this
      clear b0 b1 b2 b3
      have hg8L : g8 < Lo := by have := HLO.out; omega
      have HN8 : Hid (some g8 ≠ (Value.slice p k d).ownBlock) := Lib.hid (fun e => by have := (own_ge2 HO.out g8 e.symm).1; omega)
      go_upto_region 8 with (fail)
      go_region_law (first
       | (refine step_append_at _ rfl (.tmp 39) (.tmp 45) 104 rfl Lo 180 i0 (.slice none 0 0) 1 24 underFs2 hi hz0 hz1 hz2 rfl (by decide) (.slice p k d) k vs rfl HOW.out ⟨w3.heap.size, 0, none⟩ 1 1 [.slice pf nb cf] rfl rfl (one_cell rfl) (by intro u hu; simp at hu; subst hu; rfl) (by unfold maxLen; omega) (by omega) (by simp; omega) ?_; intro v' w5 hown5 hgr5 hnil5 hat5; obtain ⟨p5, d5, rfl⟩ := own_form2 hown5; have G5 := Lib.hid (grownBy_blk hgr5 (blk_old (o := .cells #[.slice pf nb cf] 180) (XE.blk G8.out)) HN8.out); obtain ⟨-, -, -, -, -, e5, ef⟩ := blk6 G5.out; have ef5 := ef 5; clear ef; have hl85 := lt_of_block G5.out)
       | (go_simp; go_wp2_with (go_at_call 97; (with_reducible refine (compileBody_any W0.heap.size w1 (some Bm) T qb nb cb x.2 _ HNB.out hx4 HSS.out (EW.out.alloc _).drew).mono ?_); rintro e w3 ⟨⟨f, C1, rfl, hf, hC1⟩, hE3⟩; obtain ⟨pf, cf, rfl⟩ := hf.form; rw [HNB.out] at hf ⊢; have XE := ((Ext.refl wr).alloc _).drew.trans hE3; have x5 := XE.keep g5; have hl83 := Nat.lt_of_lt_of_le hl8r XE.size_le; have hLs := XE.size_le; have HOW := Lib.hid (ownsRow_ext HO.out (XE.alloc (.cells #[.slice pf nb cf] 180)))))
       | fail)
      all_goals
       obtain ⟨C2, r1, r2, r3, r4, r5⟩ := mach_step HL.out HLO.out hg8L G5.out HC1.out HC2.out HO.out hvl HTL.out HHE.out XE hf hC1 hgr5 hown5 hat5
       rw [← take_next HX.out] at r2
       have R1' := Lib.hid r1; have R2' := Lib.hid r2; have R3' := Lib.hid r3; have R4' := Lib.hid r4; have R5' := Lib.hid r5
       clear r1 r2 r3 r4 r5 hgr5 hown5 hat5 hnil5 hf hC1
       generalize w5.setCell ⟨g8, 5, none⟩ (.slice p5 (k + 1) d5) = w6 at *
       go_wp2
       go_roundw
       case rel => exact ⟨k + 1, p5, d5, C2, by omega, by go_num, R1'.out, R2'.out, R3'.out, R4'.out, R5'.out⟩
       case measure => simp [intOf]; omega
     ·obtain rfl : k = m := by omega
      have hrw := lt_of_block R2.out
      have RR := Lib.hid (HL.out.heap R4.out (by omega))
      obtain ⟨r0, r1, r2, r3, r4, r5, rf⟩ := blk6 RR.out
      have f0 := rf 0; have f1 := rf 1; have f2 := rf 2; have f3 := rf 3; have f4 := rf 4; have f5 := rf 5
      obtain ⟨s0, s1, s2, s3, s4, s5, -⟩ := blk6 G8.out
      have hlr := lt_of_block RR.out
      have HFS : Hid (FsL C W0.heap.size w1 (some Bm) T Lo wr (.slice p k d) ps) := Lib.hid (by have h := HFF.out; rwa [List.take_of_length_le (by rw [HM.out]; omega)] at h)
      have hE0 := E0.out.size_le
      have hR0 := lt_of_block R0.out
      have HMR := Lib.hid (machR_out (w := w) (K := W0.heap.size) (c1 := c1) (q1 := q1) rfl hR0 (Nat.le_succ _) R0.out HE01.out HPB.out HBM.out HOM.out HMI.out HEV.out HT.out HM.out HNE.out HN.out X12.out X24.out HLO.out HL.out hge8 H4.out N8.out HFS.out HC1.out rfl)
      have HZ := Lib.hid (blk6_set (a' := .map (some Bm)) (b' := .int .i64 T) (c' := .slice q1 k c1) (d' := .slice q2 ne c2) (e' := .slice p4 n d4) (f' := .slice p k d) RR.out)
      have HX := Lib.hid (ext_set6 (Lv.ext0 HL.out (E2.out.trans X24.out) (fun b hb => by have := E2.out.size_le; omega)) (g := w.heap.size + 1) (by omega) (.map (some Bm)) (.int .i64 T) (.slice q1 k c1) (.slice q2 ne c2) (.slice p4 n d4) (.slice p k d))
      clear rf
      go_wp2
      generalize ((((((wr.setCell ⟨w.heap.size + 1, 0, none⟩ (.map (some Bm))).setCell ⟨w.heap.size + 1, 1, none⟩ (.int .i64 T)).setCell ⟨w.heap.size + 1, 2, none⟩ (.slice q1 k c1)).setCell ⟨w.heap.size + 1, 3, none⟩ (.slice q2 ne c2)).setCell ⟨w.heap.size + 1, 4, none⟩ (.slice p4 n d4)).setCell ⟨w.heap.size + 1, 5, none⟩ (.slice p k d)) = w3 at *
      obtain ⟨z0, z1, z2, z3, z4, z5, -⟩ := blk6 HZ.out
      exact bodyPost_ret (v := .tuple #[.agg #[.map (some Bm), .int .i64 T, .slice q1 k c1, .slice q2 ne c2, .slice p4 n d4, .slice p k d], .bool true]) (by simp [results, Tryz.results59, go_sem, z0, z1, z2, z3, z4, z5]) rfl ⟨⟨_, by rw [HMB.out], (fun h => by rw [HMB.out] at h; cases h), fun _ => HMR.out⟩, HX.out⟩
  have HM := Lib.hid HMB.out
  go_upto_region 3 with (fail)
  have hl2 := lt_of_block R2.out
  obtain ⟨r0, r1, r2, r3, r4, r5, rf⟩ := blk6 R2.out
  have f0 := rf 0; have f1 := rf 1; have f2 := rf 2; have f3 := rf 3; have f4 := rf 4; have f5 := rf 5
  have HZ := Lib.hid (blk6_set (a' := .map none) (b' := .int .i64 0) (c' := .slice none 0 0) (d' := .slice none 0 0) (e' := .slice none 0 0) (f' := .slice none 0 0) R2.out)
  clear rf
  go_wp2
  have HX := Lib.hid (ext_set6 E2.out (g := w.heap.size + 1) (by omega) (.map none) (.int .i64 0) (.slice none 0 0) (.slice none 0 0) (.slice none 0 0) (.slice none 0 0))
  generalize ((((((w2.setCell ⟨w.heap.size + 1, 0, none⟩ (.map none)).setCell ⟨w.heap.size + 1, 1, none⟩ (.int .i64 0)).setCell ⟨w.heap.size + 1, 2, none⟩ (.slice none 0 0)).setCell ⟨w.heap.size + 1, 3, none⟩ (.slice none 0 0)).setCell ⟨w.heap.size + 1, 4, none⟩ (.slice none 0 0)).setCell ⟨w.heap.size + 1, 5, none⟩ (.slice none 0 0)) = w3 at *
  obtain ⟨q0, q1, q2, q3, q4, q5, -⟩ := blk6 HZ.out
  exact bodyPost_ret (v := .tuple #[.agg #[.map none, .int .i64 0, .slice none 0 0, .slice none 0 0, .slice none 0 0, .slice none 0 0], .bool false]) (by simp [results, Tryz.results59, go_sem, q0, q1, q2, q3, q4, q5]) rfl ⟨⟨_, by rw [HM.out], fun _ => rfl, fun h => by rw [HM.out] at h; cases h⟩, HX.out⟩
theorem mach_form {b : Bool} {L : Nat} {W : World} {v : Value} {ars : List Arr} {ps : List Pt} {xs : List Int} (h0 : b = false → v = .agg #[.map none, .int .i64 0, .slice none 0 0, .slice none 0 0, .slice none 0 0, .slice none 0 0]) (h1 : b = true → MachR L W v ars ps xs) :
  ∃ mo T q1 n1 c1 q2 n2 c2 q3 n3 c3 q4 n4 c4, v = .agg #[.map mo, .int .i64 T, .slice q1 n1 c1, .slice q2 n2 c2, .slice q3 n3 c3, .slice q4 n4 c4] := by
 cases b with
 | false => exact ⟨_, _, _, _, _, _, _, _, _, _, _, _, _, _, h0 rfl⟩
 | true =>
  obtain ⟨Z, B, M0, Lo, Bm, D, q1, c1, q2, c2, pm, cm, pf, cf, e, -⟩ := h1 rfl
  exact ⟨_, _, _, _, _, _, _, _, _, _, _, _, _, _, e⟩
set_option maxHeartbeats 1000000 in
theorem MemoryValid_any (v : Value) (ars : List Arr) (ps : List Pt) (p : Option Addr) (n c : Nat) (xs : List Int) (w : World) (hp : PrR w v ars ps) (hn : xs.length = n) (hs : IntsAt w (.slice p n c) xs) :
  Calls Tryz.prog 31 #[v, .slice p n c] w fun e w' => e = .returned (.bool (memB ars ps xs)) ∧ Ext w w' := by
 obtain ⟨qa, ca, qp, cp, rfl, -, -, -, -⟩ := hp.parts
 have HP := Lib.hid hp; have HN := Lib.hid hn; have HS := Lib.hid hs
 clear hp hn hs
 go_enter Tryz.func31, Tryz.ntmps31
 go_wp2_with (fail)
 refine (machineOf_any _ ars ps p n c xs _ (HP.out.ext ((Ext.refl w).alloc _)) HN.out (HS.out.ext ((Ext.refl w).alloc _))).mono ?_
 rintro e w1 ⟨⟨v, rfl, h0, h1⟩, hE⟩
 have HE := Lib.hid (((Ext.refl w).alloc (.cells #[.slice qa ars.length ca, .slice qp ps.length cp] 32)).trans hE)
 obtain ⟨mo, T, q1, n1, c1, q2, n2, c2, q3, n3, c3, q4, n4, c4, rfl⟩ := mach_form h0 h1
 clear h0 h1 hE
 go_wp2
 go_ret
 exact ⟨rfl, HE.out.alloc _⟩
end Go.Proofs.YtmhldhjpfeageabGreat
