/- FnExactDistances: Distances answers as its model at every argument: the walk. -/
import Derived.Test.YtklehkkclojccaaGreatJ44
import Derived.Test.YtklehkkclojccaaGreatJ53
import Derived.Test.YtklehkkclojccaaGreatJ28
import Derived.Test.YtklehkkclojccaaGreatJ26
import Derived.Test.YtklehkkclojccaaGreatJ22
namespace Go.Proofs.YtklehkkclojccaaGreat
open Go.RowKit

set_option maxHeartbeats 2000000 in
theorem markIntSS_big (own : List Nat) (B : Nat) (v : Value) (xss : List (List Int)) (k : Int) (w : World) (ho : PtsD own B w v xss) (hl : xss.length ≤ 20000) (h4 : ∀ x ∈ xss, x.length ≤ 4) (hk : 0 ≤ k) (hk1 : k ≤ 1000000) :
    Calls Tryz.prog 30 #[v, .int .i64 k] w fun e w' => e = .returned (.int .i64 (endS k xss)) ∧ PtsD own B w' v (marksS k xss) ∧ Lv (fun b => b ∈ own) w w' := by
  have hend := endS_four h4 k
  obtain ⟨p, c, rfl⟩ := (ho.at (by omega)).form
  generalize hn : xss.length = n at *
  have HO := Lib.hid ho; have H4 := Lib.hid h4; clear ho h4
  have HN := Lib.hid hn; clear hn
  go_enter Tryz.func30, Tryz.ntmps30
  go_wp2
  go_loopw [1, 5] (fun kk i wr => ∃ j : Nat, j ≤ n ∧ i = .int .i64 j ∧ kk = .int .i64 (endS k (xss.take j)) ∧ PtsD own B wr (.slice p n c) (midS k xss j) ∧ Lv (fun b => b ∈ own) w wr) (fun _ i _ => n - (intOf i).toNat)
  case atStart => exact ⟨0, by omega, rfl, by simp [endS], by simpa [midS, marksS] using HO.out, Lv.refl _ w⟩
  case round =>
    obtain ⟨j, hj, rfl, rfl, hown, hg⟩ := hrel
    have hb1 := endS_take k xss j
    have hb2 := endS_ge k (xss.take j)
    generalize hE : endS k (xss.take j) = E at *
    have HE := Lib.hid hE; clear hE
    by_cases hlt : j < n
    · obtain ⟨x, hx⟩ := get_some (xs := xss) (k := j) (by rw [HN.out]; exact hlt)
      have hx4 := H4.out x (List.mem_of_getElem? hx)
      obtain ⟨g, c1, t1, t2, t3, t4⟩ := hown.turn (midS_get hx k)
      obtain ⟨o, rfl⟩ : ∃ o, p = some ⟨o, 0, none⟩ := by
        obtain ⟨vs, ho, _⟩ := hown
        rw [midS_len, HN.out] at ho
        rcases ho.2 with ⟨h, h0⟩ | ⟨o, cap, cur, h, _⟩
        · omega
        · exact ⟨o, by simpa using (Value.slice.inj h).1⟩
      have hcc := t3 o n c rfl
      have HX := Lib.hid hx; have T1 := Lib.hid t1; have T2 := Lib.hid t2; have T4 := Lib.hid t4; have HG := Lib.hid hg; have HW := Lib.hid hown
      clear hx t1 t2 t3 t4 hg hown
      go_wp2_with (fail)
      refine (markIntS_any B (some ⟨g, 0, none⟩) x.length c1 x E wr rfl T1.out (by omega) (by omega)).mono ?_
      rintro e w1 ⟨rfl, h1, h2⟩
      have NX := Lib.hid (T4.out w1 (marks E x.length) (marks_len _ _) h2 (IntsOwn.mk h1 (marks_len _ _)))
      have NL := Lib.hid (HG.out.trans (Lv.grown (D := fun b => b = g) h2 (fun r e _ => (Option.some.inj e).symm)) (E := fun b => b ∈ own) (fun _ _ h => h) (fun b _ h => h ▸ T2.out))
      clear h1 h2 hcc
      go_wp2
      go_roundw
      case rel => exact ⟨j + 1, by omega, by go_num, by rw [endS_next HX.out, HE.out], by have h := NX.out; rw [← HE.out, midS_next HX.out] at h; exact h, NL.out⟩
      case measure => simp [intOf]; omega
    · have e : j = n := by omega
      subst e
      have HW := Lib.hid hown; have HG := Lib.hid hg; clear hown hg
      go_wp2
      go_ret
      have e1 : xss.take j = xss := List.take_of_length_le (by rw [HN.out]; omega)
      refine ⟨by rw [← HE.out, e1]; rfl, ?_, HG.out⟩
      have h := HW.out
      unfold midS at h
      rwa [e1, List.drop_of_length_le (by rw [HN.out]; omega), List.append_nil] at h

set_option maxHeartbeats 2000000 in
theorem heldIntSS_big (v : Value) (xss : List (List Int)) (k : Int) (w : World) (hs : PtsAt w v (marksS k xss)) (hl : xss.length ≤ 20000) (h4 : ∀ x ∈ xss, x.length ≤ 4) (hk : 0 ≤ k) (hk1 : k ≤ 1000000) :
    Calls Tryz.prog 31 #[v, .int .i64 k] w fun e w' => e = .returned (.int .i64 (endS k xss)) ∧ w = w' := by
  have hend := endS_four h4 k
  obtain ⟨p, c, rfl⟩ := hs.form
  rw [marksS_len] at hs ⊢
  generalize hn : xss.length = n at *
  have HS := Lib.hid hs; have H4 := Lib.hid h4; clear hs h4
  have HN := Lib.hid hn; clear hn
  go_enter Tryz.func31, Tryz.ntmps31
  go_wp2
  go_loop [1, 5] (fun kk i => ∃ j : Nat, j ≤ n ∧ i = .int .i64 j ∧ kk = .int .i64 (endS k (xss.take j))) (fun _ i => n - (intOf i).toNat)
  case atStart => exact ⟨0, by omega, rfl, by simp [endS]⟩
  case round =>
    obtain ⟨j, hj, rfl, rfl⟩ := hrel
    have hb1 := endS_take k xss j
    have hb2 := endS_ge k (xss.take j)
    generalize hE : endS k (xss.take j) = E at *
    have HE := Lib.hid hE; clear hE
    by_cases hlt : j < n
    · obtain ⟨x, hx⟩ := get_some (xs := xss) (k := j) (by rw [HN.out]; exact hlt)
      have hx4 := H4.out x (List.mem_of_getElem? hx)
      obtain ⟨b, u, rfl, a0, hb, hr⟩ := HS.out.elem (marksS_get hx k)
      rw [HE.out] at hr
      have HX := Lib.hid hx; have HR := Lib.hid hr; clear hx hr
      have hneg : decide (E + (x.length : Int) < 0) = false := by simp; omega
      go_wp2_with (fail)
      refine (heldIntS_any u x.length E _ HR.out (by omega) (by omega)).mono ?_
      rintro e w1 ⟨rfl, rfl⟩
      go_wp2
      go_round
      case rel => exact ⟨j + 1, by omega, by go_num, by rw [endS_next HX.out, HE.out]⟩
      case measure => simp [intOf]; omega
    · have e : j = n := by omega
      subst e
      go_wp2
      go_ret
      exact ⟨by rw [← HE.out, List.take_of_length_le (by rw [HN.out]; omega)]; rfl, rfl⟩

theorem Mk.extW {B : Nat} {W w0 a b : World} (h : Mk B w0 a b) (hE : Ext W a) (hB : W.heap.size ≤ B) : Ext W b :=
  ⟨h.lv.os.trans hE.os, h.lv.tape.trans hE.tape, h.lv.output.trans hE.output, Nat.le_trans hE.size h.lv.size, fun i hi => (h.lv.block i (Nat.lt_of_lt_of_le hi hE.size) (fun hd => by omega)).trans (hE.block i hi)⟩
theorem distB_len (ars : List Arr) (ps : List Pt) (z : Int) : (distB ars ps z).length ≤ 20000 := by
  unfold distB
  split
  · have h1 := dstF_len (dsM ps z (depsB ars ps))
    have h2 := dsM_len ps z (depsB ars ps)
    have h3 := depsB_len ars ps
    omega
  · simp
theorem distB_4 (ars : List Arr) (ps : List Pt) (z : Int) : ∀ x ∈ distB ars ps z, x.length ≤ 4 := by
  intro x hx
  unfold distB at hx
  split at hx
  · rename_i hb
    rw [(dstF_is _).2] at hx
    unfold dsM at hx
    obtain ⟨d, -, hd⟩ := List.mem_filterMap.1 hx
    unfold dAt at hd
    split at hd
    · rename_i a b ha hbb
      split at hd
      · cases hd
        obtain ⟨h4, -, -, -⟩ := ins_pts hb (List.mem_of_getElem? ha) (List.mem_of_getElem? hbb)
        unfold subL
        rw [List.length_zipWith]
        omega
      · cases hd
    · cases hd
  · simp at hx
set_option maxRecDepth 100000 in
set_option maxHeartbeats 8000000 in
theorem walkHFnExactDistances (R : List Arr → List Pt → Int → List (List Int)) (hRl : ∀ ars ps z, (R ars ps z).length ≤ 20000) (hR4 : ∀ ars ps z, ∀ x ∈ R ars ps z, x.length ≤ 4)
    (hspec : ∀ (v : Value) (ars : List Arr) (ps : List Pt) (zt : Int) (w : World), PrR w v ars ps → Calls Tryz.prog 27 #[v, .int .i64 zt] w fun e w' => (∃ v', e = .returned v' ∧ PtsOwn w.heap.size w' v' (R ars ps zt)) ∧ Ext w w')
    (himpl : ∀ (v : Value) (ars : List Arr) (ps : List Pt) (zt : Int) (w : World), PrR w v ars ps → Calls Tryz.prog 28 #[v, .int .i64 zt] w fun e w' => (∃ v' own, e = .returned v' ∧ PtsD own w.heap.size w' v' (R ars ps zt) ∧ ∀ b ∈ own, w.heap.size ≤ b ∧ b < w'.heap.size) ∧ Ext w w')
    (v : Value) (ars : List Arr) (ps : List Pt) (zt : Int) (w : World) (hs : PrR w v ars ps) :
    Calls Tryz.prog 5 #[v, .int .i64 zt] w fun r w' => r = .returned (.bool true) ∧ Ext w w' := by
  have HS := Lib.hid hs
  obtain ⟨xs, hxs⟩ : ∃ xs, R ars ps zt = xs := ⟨_, rfl⟩
  have HXL : Hid (xs.length ≤ 20000) := Lib.hid (by rw [← hxs]; exact hRl ars ps zt)
  have HX4 : Hid (∀ x ∈ xs, x.length ≤ 4) := Lib.hid (by rw [← hxs]; exact hR4 ars ps zt)
  have HSPEC := Lib.hid (fun v w (h : PrR w v ars ps) => hxs ▸ hspec v ars ps zt w h)
  have HIMPL := Lib.hid (fun v w (h : PrR w v ars ps) => hxs ▸ himpl v ars ps zt w h)
  clear hspec himpl hRl hR4 hxs
  obtain ⟨q1, c1, q2, c2, rfl, -, -, -, -⟩ := hs.parts
  obtain ⟨na, hna⟩ : ∃ n, ars.length = n := ⟨_, rfl⟩
  obtain ⟨np, hnp⟩ : ∃ n, ps.length = n := ⟨_, rfl⟩
  rw [hna, hnp] at HS ⊢
  have HNA := Lib.hid hna; have HNP := Lib.hid hnp
  clear hs hna hnp
  go_enter Tryz.func5, Tryz.ntmps5
  go_wp2_with (fail)
  refine (szProgramW_any _ ars ps _ _ (HS.out.ext ((Ext.refl w).alloc _)) (by omega) (by omega)).mono ?_
  rintro r w1 ⟨⟨z, rfl, hz⟩, hE⟩
  have B1 := Lib.hid (hE.blk (g := w.heap.size) (blk_at rfl))
  have E1 := Lib.hid (((Ext.refl w).alloc _).trans hE)
  clear hE
  rcases hz with rfl | ⟨z0, z1, hcp, hsa, hsp⟩
  · go_wp2_with (fail)
    go_ret
    exact ⟨rfl, E1.out⟩
  · have HSA := Lib.hid hsa; have HSP := Lib.hid hsp; have HCP := Lib.hid hcp; clear hsa hsp hcp
    obtain ⟨y0, y1, -, -⟩ := blk2 B1.out
    go_wp2_with (fail)
    refine (toProgram_any _ ars ps _ (HS.out.ext E1.out) HSA.out HSP.out).mono ?_
    rintro r w2 ⟨⟨v2, rfl, hv2⟩, hE⟩
    have B2 := Lib.hid (hE.blk B1.out); have E2 := Lib.hid (E1.out.trans hE); have HV2 := Lib.hid hv2.at
    clear hE hv2 y0 y1
    go_wp2_with (fail)
    refine (HSPEC.out v2 _ HV2.out).mono ?_
    rintro r w3 ⟨⟨v3, rfl, hv3⟩, hE⟩
    obtain ⟨p3, c3', rfl⟩ := hv3.slice
    have B3 := Lib.hid (hE.blk B2.out); have E3 := Lib.hid (E2.out.trans hE); have HG3 := Lib.hid hv3
    clear hE hv3
    obtain ⟨y0, y1, -, -⟩ := blk2 B3.out
    go_wp2_with (fail)
    refine (toProgram_any _ ars ps _ (HS.out.ext E3.out) HSA.out HSP.out).mono ?_
    rintro r w4 ⟨⟨v4, rfl, hv4⟩, hE⟩
    have B4 := Lib.hid (hE.blk B3.out); have E4 := Lib.hid (E3.out.trans hE); have HV4 := Lib.hid hv4.at; have HPO := Lib.hid hv4
    have X34 := Lib.hid hE; have S4 := Lib.hid hE.size_le
    obtain ⟨q3, c3, q4, c4, rfl, -, -, -, -⟩ := hv4.at.parts
    rw [HNA.out, HNP.out] at HV4 HPO ⊢
    clear hE hv4 y0 y1
    obtain ⟨w5, hw5⟩ : ∃ w5, w4.alloc (.cells #[.slice q3 na c3, .slice q4 np c4] 32) = w5 := ⟨_, rfl⟩
    have X5 : Ext w4 w5 := by rw [← hw5]; exact (Ext.refl w4).alloc _
    have BX5 : w5.heap[w4.heap.size]? = some (.cells #[.slice q3 na c3, .slice q4 np c4] 32 (0, 0)) := by rw [← hw5]; exact blk_at rfl
    have HW5 := Lib.hid hw5; have HX5 := Lib.hid X5; have HB5 := Lib.hid BX5
    clear hw5 X5 BX5
    go_wp2_with (fail)
    rw [HW5.out]
    refine (HIMPL.out _ _ (HV4.out.ext HX5.out)).mono ?_
    rintro r w6 ⟨⟨v6, own6, rfl, hv6, hob6⟩, hE⟩
    have hl20 : xs.length ≤ 1000000 := by have := HXL.out; omega
    obtain ⟨p6, c6, rfl⟩ := hv6.form
    have X6 := Lib.hid (HX5.out.trans hE); have HK6 := Lib.hid hv6; have S5 := Lib.hid HX5.out.size_le
    have HOB : Hid (∀ b ∈ own6, w5.heap.size ≤ b) := Lib.hid (fun b hb => (hob6 b hb).1)
    have X36 := Lib.hid (X34.out.trans X6.out)
    have E6 := Lib.hid (E4.out.trans X6.out); have B6 := Lib.hid (X6.out.blk B4.out); have BX6 := Lib.hid (hE.blk HB5.out); have HX6 := Lib.hid (HV4.out.ext X6.out)
    clear hE hv6 hob6
    go_wp2_with (fail)
    refine (eqIntSS_any _ _ xs xs _ (HK6.out.at hl20) ((HG3.out.ext X36.out).at hl20)).mono ?_
    rw [lEqB_self]
    rintro e w7 ⟨rfl, hE⟩
    have X7 := Lib.hid (X6.out.trans hE); have E7 := Lib.hid (E6.out.trans hE); have B7 := Lib.hid (hE.blk B6.out); have BX7 := Lib.hid (hE.blk BX6.out); have HX7 := Lib.hid (HX6.out.ext hE)
    have X37 := Lib.hid (X36.out.trans hE); have HK7 := Lib.hid (HK6.out.lv hE.lv)
    clear hE
    obtain ⟨y0, y1, -, -⟩ := blk2 B7.out
    obtain ⟨z0', z1', -, -⟩ := blk2 BX7.out
    have u0 := z0'; have u1 := z1'
    clear z0' z1'
    go_wp2
    go_region_held3 (fun W => W.cell? ⟨w.heap.size, 0, none⟩ = some (.slice q1 na c1) ∧ W.cell? ⟨w.heap.size, 1, none⟩ = some (.slice q2 np c2) ∧ W.cell? ⟨w4.heap.size, 0, none⟩ = some (.slice q3 na c3) ∧ W.cell? ⟨w4.heap.size, 1, none⟩ = some (.slice q4 np c4))
      (first | exact ⟨y0, y1, u0, u1⟩ | exact ⟨g3.keep y0, g3.keep y1, g3.keep u0, g3.keep u1⟩ | exact ⟨g4.keep y0, g4.keep y1, g4.keep u0, g4.keep u1⟩ | fail)
      (first | (go_at_call 14; (with_reducible refine (toProgram_any _ ars ps _ (HS.out.ext (E7.out.trans (Ext.refl w7).drew)) HSA.out HSP.out).mono ?_); rintro r w8 ⟨⟨v8, rfl, hv8⟩, hE8⟩; have g3 := (Ext.refl w7).drew.trans hE8; have HV8 := Lib.hid hv8.at; have G3 := Lib.hid g3; clear hE8 hv8) | (go_at_call 17; (with_reducible refine (eqProgram_same _ v8 ars ps _ (HX7.out.ext G3.out) HV8.out).mono ?_); rintro r w9 ⟨rfl, hE9⟩; have g4 := G3.out.trans hE9) | fail)
    have E9 := Lib.hid (E7.out.trans g4); have X9 := Lib.hid (X7.out.trans g4); have B9 := Lib.hid (g4.blk B7.out); have BX9 := Lib.hid (g4.blk BX7.out)
    have X39 := Lib.hid (X37.out.trans g4); have HK9 := Lib.hid (HK7.out.lv g4.lv)
    have hLT : w.heap.size < w3.heap.size := lt_of_block B3.out
    have hLE : w3.heap.size ≤ w4.heap.size := S4.out
    have hLE5 : w4.heap.size ≤ w5.heap.size := S5.out
    clear y0 y1 u0 u1 g3 g4 hE9
    obtain ⟨u0, u1, -, -⟩ := blk2 BX9.out
    go_wp2_with (fail)
    refine (markProgram_sh w3.heap.size w4 _ ars ps 1 _ HPO.out ((Sh.refl _ w4).ext X9.out) (by omega) (by have := HCP.out; omega)).mono ?_
    rintro e w10 ⟨rfl, hmk⟩
    have E10 := Lib.hid (hmk.extW E9.out (by omega)); have B10 := Lib.hid (hmk.lv.heap B9.out (fun h => by omega))
    have X310 := Lib.hid (hmk.extW X39.out (Nat.le_refl _))
    have HK10 := Lib.hid (HK9.out.lv (hmk.lv.mono (fun b _ h hb => by have := HOB.out b hb; omega)))
    clear hmk u0 u1
    have hk1 : (0 : Int) ≤ 1 + (cPr ars ps : Nat) := by omega
    generalize (1 : Int) + (cPr ars ps : Nat) = ky at *
    have hkd : decide (ky < 0) = false := by simp; omega
    go_wp2_with (fail)
    refine (eqIntSS_any _ _ xs xs _ (HK10.out.at hl20) ((HG3.out.ext X310.out).at hl20)).mono ?_
    rw [lEqB_self]
    rintro e w11 ⟨rfl, hE⟩
    have E11 := Lib.hid (E10.out.trans hE); have B11 := Lib.hid (hE.blk B10.out); have X311 := Lib.hid (X310.out.trans hE); have HK11 := Lib.hid (HK10.out.lv hE.lv)
    clear hE
    have hxl : xs.length ≤ 20000 := HXL.out
    have hend := endS_four HX4.out 1
    have hend2 := endS_ge 1 xs
    go_wp2_with (fail)
    refine (markIntSS_big own6 w5.heap.size _ xs 1 _ HK11.out hxl HX4.out (by omega) (by omega)).mono ?_
    rintro e w12 ⟨rfl, hM, hlv⟩
    have HM12 := Lib.hid (PtsD.at hM (by rw [marksS_len]; exact hl20))
    have X312 := Lib.hid (hlv.ext0 X311.out (fun b hb h => by have := HOB.out b h; omega))
    have E12 := Lib.hid (hlv.ext0 E11.out (fun b hb h => by have := HOB.out b h; omega))
    have B12 := Lib.hid (hlv.heap B11.out (fun h => by have := HOB.out _ h; omega))
    clear hM hlv
    obtain ⟨em, hem⟩ : ∃ em, endS 1 xs = em := ⟨_, rfl⟩
    rw [hem] at hend hend2 ⊢
    have HEM := Lib.hid hem
    clear hem
    have hq0 : decide (em < 0) = false := by simp; omega
    have hq1 : (em != em) = false := by simp
    go_wp2_with (fail)
    refine (heldIntSS_big _ xs 1 _ HM12.out hxl HX4.out (by omega) (by omega)).mono ?_
    rw [HEM.out]
    rintro e w13 ⟨rfl, rfl⟩
    obtain ⟨y0, y1, -, -⟩ := blk2 B12.out
    go_wp2_with (fail)
    refine (toProgram_any _ ars ps _ (HS.out.ext E12.out) HSA.out HSP.out).mono ?_
    rintro r w14 ⟨⟨v14, rfl, hv14⟩, hE⟩
    have E14 := Lib.hid (E12.out.trans hE); have HV14 := Lib.hid hv14.at; have X314 := Lib.hid (X312.out.trans hE); have HM14 := Lib.hid (PtsAt.ext HM12.out hE)
    clear hE hv14 y0 y1
    go_wp2_with (fail)
    refine (HIMPL.out _ _ HV14.out).mono ?_
    rintro r w15 ⟨⟨v15, own15, rfl, hv15, -⟩, hE⟩
    obtain ⟨p15, c15, rfl⟩ := hv15.form
    have E15 := Lib.hid (E14.out.trans hE); have X315 := Lib.hid (X314.out.trans hE); have HM15 := Lib.hid (PtsAt.ext HM14.out hE); have HH15 := Lib.hid hv15
    clear hE hv15
    go_wp2_with (fail)
    refine (eqIntSS_any _ _ xs xs _ (HH15.out.at hl20) ((HG3.out.ext X315.out).at hl20)).mono ?_
    rw [lEqB_self]
    rintro e w16 ⟨rfl, hE⟩
    have E16 := Lib.hid (E15.out.trans hE); have HM16 := Lib.hid (PtsAt.ext HM15.out hE)
    clear hE
    go_wp2_with (fail)
    refine (heldIntSS_big _ xs 1 _ HM16.out hxl HX4.out (by omega) (by omega)).mono ?_
    rw [HEM.out]
    rintro e w17 ⟨rfl, rfl⟩
    go_wp2
    go_ret
    exact ⟨rfl, E16.out⟩
theorem walkFnExactDistances (v v1 : Value) (w : World) (h : RProg w v) (h1 : RInt w v1) :
    Calls Tryz.prog 5 #[v, v1] w fun e w' => e = .returned (.bool true) ∧ Below w.heap.size w w' := by
  obtain ⟨ars, ps, hs⟩ := h
  obtain ⟨zt, rfl, _⟩ := h1
  exact walkHFnExactDistances distB distB_len distB_4 specDistances_any Distances_any v ars ps zt w hs
end Go.Proofs.YtklehkkclojccaaGreat
