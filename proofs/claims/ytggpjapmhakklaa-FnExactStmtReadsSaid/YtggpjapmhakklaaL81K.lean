/- FnExactStmtReads: StmtReads answers as its model at every argument: the walk. (Written by l81.py.) -/
import Derived.Test.YtggpjapmhakklaaK31
import Derived.Test.YtggpjapmhakklaaK42
import Derived.Test.YtggpjapmhakklaaK32
import Derived.Test.YtggpjapmhakklaaK44
import Derived.Test.YtggpjapmhakklaaK36
namespace Go.Proofs.Ytggpjapmhakklaa
open Go.RowKit

theorem Mk.extW2 {B : Nat} {W w0 a b : World} (h : Mk B w0 a b) (hE : Ext W a) (hB : W.heap.size ≤ B) : Ext W b :=
  ⟨h.lv.os.trans hE.os, h.lv.tape.trans hE.tape, h.lv.output.trans hE.output, Nat.le_trans hE.size h.lv.size, fun i hi => (h.lv.block i (Nat.lt_of_lt_of_le hi hE.size) (fun hd => by omega)).trans (hE.block i hi)⟩
theorem endA_bd : ∀ (l : List Aff) (k : Int), (∀ a ∈ l, a.1.length = 4) → endA k l ≤ k + 5 * l.length
  | [], k, _ => by simp [endA]
  | a :: r, k, h => by
    have h1 := endA_bd r (k + a.1.length + 1) (fun b hb => h b (by simp [hb]))
    have h2 := h a (by simp)
    simp only [endA, List.length_cons]
    omega
theorem endC_bd : ∀ (l : List Acc) (k : Int), (∀ x ∈ l, x.2.length ≤ 2 ∧ ∀ a ∈ x.2, a.1.length = 4) → endC k l ≤ k + 11 * l.length
  | [], k, _ => by simp [endC]
  | x :: r, k, h => by
    have h1 := endC_bd r (endQ k x) (fun b hb => h b (by simp [hb]))
    have h2 := h x (by simp)
    have h3 := endA_bd x.2 (k + 1) h2.2
    simp only [endC, List.length_cons]
    have h4 : endQ k x = endA (k + 1) x.2 := rfl
    rw [h4] at h1 ⊢
    have := h2.1
    omega
theorem rdL_bd (arr : ByteArray) (subs : List Aff) (e : Ex) : (rdL arr subs e).length ≤ 12 ∧ ∀ x ∈ rdL arr subs e, x.2.length ≤ 2 ∧ ∀ a ∈ x.2, a.1.length = 4 := by
  cases hb : validB arr subs e 4 with
  | false => unfold rdL; rw [if_neg (by rw [hb]; decide)]; simp
  | true =>
    unfold rdL
    rw [if_pos hb]
    obtain ⟨-, hsh, hct⟩ := vshape hb
    refine ⟨by have h := reads_len 5 e; omega, fun x hx => ?_⟩
    have h := reads_ok2 5 e hsh x hx
    have h4 := four_of_accB h
    simp only [accB, Bool.and_eq_true, decide_eq_true_eq] at h
    exact ⟨h.2.2.2, fun a ha => by obtain ⟨p, q, r, s, e1, _⟩ := valid_four (h4.2.1 a ha); rw [e1]; rfl⟩

set_option maxRecDepth 100000 in
set_option maxHeartbeats 8000000 in
theorem walk0FnExactStmtReads (v : Value) (arr : ByteArray) (subs : List Aff) (e : Ex) (w : World) (hs : StR w v arr subs e) :
    Calls Try.prog 8 #[v] w fun r w' => r = .returned (.bool true) ∧ Ext w w' := by
  have HS := Lib.hid hs
  obtain ⟨xs, hxs⟩ : ∃ xs, rdL arr subs e = xs := ⟨_, rfl⟩
  have hbd := rdL_bd arr subs e
  rw [hxs] at hbd
  obtain ⟨n, hn⟩ : ∃ n, xs.length = n := ⟨_, rfl⟩
  have hcb := endC_bd xs 1 hbd.2
  have hcg := endC_ge 1 xs
  have HN := Lib.hid hn
  have HSM : Hid (∀ x ∈ xs, x.2.length ≤ 2000000) := Lib.hid (fun x hx => by have := (hbd.2 x hx).1; omega)
  have HB12 : Hid (n ≤ 12 ∧ endC 1 xs ≤ 1000 ∧ 1 ≤ endC 1 xs) := Lib.hid ⟨by have := hbd.1; omega, by have := hbd.1; omega, hcg⟩
  have HXS := Lib.hid hxs
  clear hbd hcb hcg
  obtain ⟨p1, pd1, p2, pd2, p3, pd3, p4, pd4, rfl, ha, hs1, he⟩ := hs.parts
  obtain ⟨u', s', v', hcs, hu2, ha2, hs2, hv2⟩ := he.parts
  simp only [List.cons.injEq, and_true, true_and] at hcs
  obtain ⟨rfl, rfl, rfl⟩ := hcs
  clear hs hs1 he hu2 hs2 hv2 ha ha2 hxs hn
  go_enter Try.func8, Try.ntmps8
  go_wp2_with (fail)
  refine (szStmtw_any _ arr subs e _ _ (HS.out.ext ((Ext.refl w).alloc _)) (by omega) (by omega)).mono ?_
  rintro r w1 ⟨⟨z, rfl, hz⟩, hE⟩
  have B1 := Lib.hid (hE.blk (g := w.heap.size) (blk_at rfl))
  have E1 := Lib.hid (((Ext.refl w).alloc _).trans hE)
  clear hE
  rcases hz with rfl | ⟨z0, z1, hwt, -, hsa, hse⟩
  · go_wp2_with (fail)
    go_ret
    exact ⟨rfl, E1.out⟩
  · have HSA := Lib.hid hsa; have HSE := Lib.hid hse
    have HWT : Hid (((tot cA subs + cM e : Nat) : Int) ≤ 5242885) := Lib.hid (by
      have h1 : cE e = 4 + cM e := by rw [cE_eq]; unfold cM; omega
      unfold Wt at hwt; omega)
    clear hsa hse hwt
    obtain ⟨y0, y1, y2, y3, y4, y5, y6, y7, y8⟩ := blk9 B1.out
    go_wp2_with (fail)
    refine (toStmt_any _ arr subs e _ (HS.out.ext E1.out) HSA.out HSE.out).mono ?_
    rintro r w2 ⟨⟨v2, rfl, hv2⟩, hE⟩
    have B2 := Lib.hid (hE.blk B1.out); have E2 := Lib.hid (E1.out.trans hE); have HV2 := Lib.hid hv2.at
    clear hE hv2 y0 y1 y2 y3 y4 y5 y6 y7 y8
    go_wp2_with (fail)
    refine (specStmtReads_any v2 arr subs e _ HV2.out).mono ?_
    rw [HXS.out]
    rintro r w3 ⟨⟨v3, rfl, hv3⟩, hE⟩
    have B3 := Lib.hid (hE.blk B2.out); have E3 := Lib.hid (E2.out.trans hE)
    obtain ⟨p3', c3', rfl⟩ := PairsOwn.slice hv3
    have HG3 : Hid (AcsAt w3 (.slice p3' xs.length c3') xs) := Lib.hid (PairsOwn.at' (fun h => ⟨h.1, h.2.2.at⟩) hv3)
    rw [HN.out] at HG3 ⊢
    clear hE hv3
    obtain ⟨y0, y1, y2, y3, y4, y5, y6, y7, y8⟩ := blk9 B3.out
    go_wp2_with (fail)
    refine (toStmt_any _ arr subs e _ (HS.out.ext E3.out) HSA.out HSE.out).mono ?_
    rintro r w4 ⟨⟨v4, rfl, hv4⟩, hE⟩
    have B4 := Lib.hid (hE.blk B3.out); have E4 := Lib.hid (E3.out.trans hE); have HV4 := Lib.hid hv4.at; have HPO := Lib.hid hv4; have T4 := Lib.hid hE
    obtain ⟨q1, qd1, q2, qd2, q3, qd3, q4, qd4, rfl, -, -, he4⟩ := hv4.at.parts
    obtain ⟨u', s', v', hcs, -, -, -, -⟩ := he4.parts
    simp only [List.cons.injEq, and_true, true_and] at hcs
    obtain ⟨rfl, rfl, rfl⟩ := hcs
    clear hE hv4 he4 y0 y1 y2 y3 y4 y5 y6 y7 y8
    obtain ⟨w5, hw5⟩ : ∃ w5, w4.alloc (.cells #[(.string arr), (.slice q1 subs.length qd1), (.int .i64 e.kind), (.int .i64 e.num), (.slice q2 e.ix.1.length qd2), (.int .i64 e.ix.2), (.string e.arr), (.slice q3 e.subs.length qd3), (.slice q4 e.kids.length qd4)] 50) = w5 := ⟨_, rfl⟩
    have X5 : Ext w4 w5 := by rw [← hw5]; exact (Ext.refl w4).alloc _
    have BX5 : w5.heap[w4.heap.size]? = some (.cells #[(.string arr), (.slice q1 subs.length qd1), (.int .i64 e.kind), (.int .i64 e.num), (.slice q2 e.ix.1.length qd2), (.int .i64 e.ix.2), (.string e.arr), (.slice q3 e.subs.length qd3), (.slice q4 e.kids.length qd4)] 50 (0, 0)) := by rw [← hw5]; exact blk_at rfl
    have HW5 := Lib.hid hw5; have HX5 := Lib.hid X5; have HB5 := Lib.hid BX5
    clear hw5 X5 BX5
    go_wp2_with (fail)
    rw [HW5.out]
    refine (StmtReads_any _ arr subs e _ (HV4.out.ext HX5.out)).mono ?_
    rw [HXS.out]
    rintro r w6 ⟨⟨v6, F, rfl, hv6, hFl6⟩, hE⟩
    have X6 := Lib.hid (HX5.out.trans hE); have S5 := Lib.hid HX5.out.size_le
    obtain ⟨p6, c6, rfl⟩ := PairsF.slice hv6
    rw [HN.out] at hv6 ⊢
    have HK6 := Lib.hid hv6
    have HFge : Hid (∀ b ∈ F, w5.heap.size ≤ b) := Lib.hid (fun b hb => AccsF.ge hv6 b hb)
    have T6 := Lib.hid (T4.out.trans X6.out); have HG6 := Lib.hid (HG3.out.ext T6.out)
    have E6 := Lib.hid (E4.out.trans X6.out); have B6 := Lib.hid (X6.out.blk B4.out); have BX6 := Lib.hid (hE.blk HB5.out); have HX6 := Lib.hid (HV4.out.ext X6.out)
    clear hE hv6 hFl6
    go_wp2_with (fail)
    refine (eqAccessS_same p6 n c6 p3' c3' xs _ HN.out HK6.out.at HG6.out).mono ?_
    rintro r w7 ⟨rfl, hE⟩
    have X7 := Lib.hid (X6.out.trans hE); have T7 := Lib.hid (T6.out.trans hE); have E7 := Lib.hid (E6.out.trans hE); have B7 := Lib.hid (hE.blk B6.out); have BX7 := Lib.hid (hE.blk BX6.out); have HX7 := Lib.hid (HX6.out.ext hE)
    have HK7 := Lib.hid (AccsF.kp HK6.out (Kp.of_ext (F := []) hE) (fun _ _ h => by cases h))
    clear hE
    obtain ⟨y0, y1, y2, y3, y4, y5, y6, y7, y8⟩ := blk9 B7.out
    obtain ⟨z0', z1', z2, z3, z4, z5, z6, z7, z8⟩ := blk9 BX7.out
    have z0 := z0'; have z1 := z1'
    clear z0' z1'
    go_wp2
    refine wp_region_held_drew (S := (fun W => W.cell? ⟨w.heap.size, 0, none⟩ = some (.string arr) ∧ W.cell? ⟨w.heap.size, 1, none⟩ = some (.slice p1 subs.length pd1) ∧ W.cell? ⟨w.heap.size, 2, none⟩ = some (.int .i64 e.kind) ∧ W.cell? ⟨w.heap.size, 3, none⟩ = some (.int .i64 e.num) ∧ W.cell? ⟨w.heap.size, 4, none⟩ = some (.slice p2 e.ix.1.length pd2) ∧ W.cell? ⟨w.heap.size, 5, none⟩ = some (.int .i64 e.ix.2) ∧ W.cell? ⟨w.heap.size, 6, none⟩ = some (.string e.arr) ∧ W.cell? ⟨w.heap.size, 7, none⟩ = some (.slice p3 e.subs.length pd3) ∧ W.cell? ⟨w.heap.size, 8, none⟩ = some (.slice p4 e.kids.length pd4) ∧ W.cell? ⟨w4.heap.size, 0, none⟩ = some (.string arr) ∧ W.cell? ⟨w4.heap.size, 1, none⟩ = some (.slice q1 subs.length qd1) ∧ W.cell? ⟨w4.heap.size, 2, none⟩ = some (.int .i64 e.kind) ∧ W.cell? ⟨w4.heap.size, 3, none⟩ = some (.int .i64 e.num) ∧ W.cell? ⟨w4.heap.size, 4, none⟩ = some (.slice q2 e.ix.1.length qd2) ∧ W.cell? ⟨w4.heap.size, 5, none⟩ = some (.int .i64 e.ix.2) ∧ W.cell? ⟨w4.heap.size, 6, none⟩ = some (.string e.arr) ∧ W.cell? ⟨w4.heap.size, 7, none⟩ = some (.slice q3 e.subs.length qd3) ∧ W.cell? ⟨w4.heap.size, 8, none⟩ = some (.slice q4 e.kids.length qd4))) (by kernel_rfl) ⟨y0, y1, y2, y3, y4, y5, y6, y7, y8, z0, z1, z2, z3, z4, z5, z6, z7, z8⟩ (fun hHeld => ?_)
    refine wpAnyH_takeD (some 27) (i := 0) (v := ?vka0) rfl (by kernel_rfl) (by kernel_rfl) (by kernel_rfl) (by kernel_rfl) (fun _ _ _ h => h) (Or.inl ⟨by rfl, ?hyka0⟩) (by assumption) ?rka0
    case hyka0 => intro w hSw; (try dsimp only at hSw); go_simp; first | done | with_reducible rfl
    case' rka0 => try simp only [Act.put, List.setIfInBounds_toArray, List.set_cons_zero, List.set_cons_succ]
    refine wpAnyH_takeD (some 28) (i := 1) (v := ?vka1) rfl (by kernel_rfl) (by kernel_rfl) (by kernel_rfl) (by kernel_rfl) (fun _ _ _ h => h) (Or.inl ⟨by rfl, ?hyka1⟩) (by assumption) ?rka1
    case hyka1 => intro w hSw; (try dsimp only at hSw); go_simp; first | done | with_reducible rfl
    case' rka1 => try simp only [Act.put, List.setIfInBounds_toArray, List.set_cons_zero, List.set_cons_succ]
    refine wpAnyH_ready (rs := [2]) (by kernel_rfl) (by simp) ?_
    refine AllReadyH.cons rfl (fun K9 hK => ?_) AllReadyH.nil
    go_simp
    refine (toStmt_any _ arr subs e _ (HS.out.ext E7.out.drew) HSA.out HSE.out).mono ?_
    rintro r w8 ⟨⟨v8, rfl, hv8⟩, hE8⟩
    have g8 : Ext w7 w8 := (Ext.refl w7).drew.trans hE8
    have HV8 := Lib.hid hv8.at; have G8 := Lib.hid g8
    clear hE8 hv8
    refine hK.out _ _ ⟨g8.keep y0, g8.keep y1, g8.keep y2, g8.keep y3, g8.keep y4, g8.keep y5, g8.keep y6, g8.keep y7, g8.keep y8, g8.keep z0, g8.keep z1, g8.keep z2, g8.keep z3, g8.keep z4, g8.keep z5, g8.keep z6, g8.keep z7, g8.keep z8⟩ (fun hHka2 => ?_)
    clear hK K9
    try simp only [Act.put, List.setIfInBounds_toArray, List.set_cons_zero, List.set_cons_succ]
    refine wpAnyH_ready (rs := [3]) (by kernel_rfl) (by simp) ?_
    refine AllReadyH.cons rfl (fun K9 hK => ?_) AllReadyH.nil
    go_simp
    refine (eqStmt_same _ v8 arr subs e _ (HX7.out.ext G8.out) HV8.out).mono ?_
    rintro r w9 ⟨rfl, hE9⟩
    have g9 : Ext w7 w9 := G8.out.trans hE9
    clear hE9
    refine hK.out _ _ ⟨g9.keep y0, g9.keep y1, g9.keep y2, g9.keep y3, g9.keep y4, g9.keep y5, g9.keep y6, g9.keep y7, g9.keep y8, g9.keep z0, g9.keep z1, g9.keep z2, g9.keep z3, g9.keep z4, g9.keep z5, g9.keep z6, g9.keep z7, g9.keep z8⟩ (fun hHka3 => ?_)
    clear hK K9
    try simp only [Act.put, List.setIfInBounds_toArray, List.set_cons_zero, List.set_cons_succ]
    refine wpAnyH_takeD (some 31) (i := 4) (v := ?vka4) rfl (by kernel_rfl) (by kernel_rfl) (by kernel_rfl) (by kernel_rfl) (fun _ _ _ h => h) (Or.inl ⟨by rfl, ?hyka4⟩) (by assumption) ?rka4
    case hyka4 => intro w hSw; (try dsimp only at hSw); go_simp; first | done | with_reducible rfl
    case' rka4 => try simp only [Act.put, List.setIfInBounds_toArray, List.set_cons_zero, List.set_cons_succ]
    refine wpAnyH_done (by kernel_rfl) ?_ _
    have E9 := Lib.hid (E7.out.trans g9); have X9 := Lib.hid (X7.out.trans g9); have T9 := Lib.hid (T7.out.trans g9); have B9 := Lib.hid (g9.blk B7.out); have BX9 := Lib.hid (g9.blk BX7.out)
    have HK9 := Lib.hid (AccsF.kp HK7.out (Kp.of_ext (F := []) g9) (fun _ _ h => by cases h))
    have hLT : w.heap.size < w3.heap.size := lt_of_block B3.out
    have hLE : w3.heap.size ≤ w4.heap.size := T4.out.size_le
    have hLE5 : w4.heap.size ≤ w5.heap.size := S5.out
    have HLT := Lib.hid hLT; have HLE := Lib.hid hLE; have HLE5 := Lib.hid hLE5
    clear hHka2 hHka3 hHeld g9 y0 y1 y2 y3 y4 y5 y6 y7 y8 z0 z1 z2 z3 z4 z5 z6 z7 z8
    obtain ⟨z0, z1, z2, z3, z4, z5, z6, z7, z8⟩ := blk9 BX9.out
    have hwt := HWT.out
    go_wp2_with (fail)
    refine (markStmt_sh w3.heap.size w4 _ arr subs e 1 _ HPO.out ((Sh.refl _ w4).ext X9.out) (by omega) (by omega)).mono ?_
    rintro r w10 ⟨rfl, hmk⟩
    have E10 := Lib.hid (hmk.extW2 E9.out (by omega)); have T10 := Lib.hid (hmk.extW2 T9.out (Nat.le_refl _)); have B10 := Lib.hid (hmk.lv.heap B9.out (fun h => by omega))
    have HG10 := Lib.hid (HG3.out.ext T10.out)
    have HK10 := Lib.hid (AccsF.lv HK9.out hmk.lv (fun b hb hd => by have := HFge.out b hb; omega))
    clear hmk z0 z1 z2 z3 z4 z5 z6 z7 z8
    have hk1 : (0 : Int) ≤ 1 + ((tot cA subs + cM e : Nat) : Int) := by omega
    generalize (1 : Int) + ((tot cA subs + cM e : Nat) : Int) = ky at *
    have hkd : decide (ky < 0) = false := by simp; omega
    go_wp2_with (fail)
    refine (eqAccessS_same p6 n c6 p3' c3' xs _ HN.out HK10.out.at HG10.out).mono ?_
    rintro r w11 ⟨rfl, hE⟩
    have E11 := Lib.hid (E10.out.trans hE); have T11 := Lib.hid (T10.out.trans hE); have B11 := Lib.hid (hE.blk B10.out)
    have HK11 := Lib.hid (AccsF.kp HK10.out (Kp.of_ext (F := []) hE) (fun _ _ h => by cases h))
    clear hE
    obtain ⟨hb12, hce, hcg⟩ := HB12.out
    go_wp2_with (fail)
    refine (markAccessS_any w5.heap.size p6 n c6 xs F 1 _ HN.out HK11.out (by omega) (by omega) (by omega) HSM.out).mono ?_
    rintro r w12 ⟨rfl, h1, h2⟩
    have HM12 := Lib.hid h1
    have E12 := Lib.hid (Kp.ext h2 E11.out (fun x hx => by have := HFge.out x hx; omega)); have T12 := Lib.hid (Kp.ext h2 T11.out (fun x hx => by have := HFge.out x hx; omega))
    have B12 := Lib.hid ((h2.block w.heap.size (lt_of_block B11.out) (fun hx => by have := HFge.out _ hx; omega)).trans B11.out)
    clear h1 h2
    generalize hz : endC 1 xs = ec at *
    have HZ := Lib.hid hz
    clear hz
    have hq0 : decide (ec < 0) = false := by simp; omega
    go_wp2_with (fail)
    refine (heldAccessS_any p6 n c6 xs 1 _ HN.out HM12.out.at (by omega) (by rw [HZ.out]; omega) (by omega) HSM.out).mono ?_
    rw [HZ.out]
    rintro r w13 ⟨rfl, hE⟩
    have E13 := Lib.hid (E12.out.trans hE); have T13 := Lib.hid (T12.out.trans hE); have B13 := Lib.hid (hE.blk B12.out)
    have HM13 := Lib.hid (AccsF.kp HM12.out (Kp.of_ext (F := []) hE) (fun _ _ h => by cases h))
    clear hE
    obtain ⟨y0, y1, y2, y3, y4, y5, y6, y7, y8⟩ := blk9 B13.out
    go_wp2_with (fail)
    refine (toStmt_any _ arr subs e _ (HS.out.ext E13.out) HSA.out HSE.out).mono ?_
    rintro r w14 ⟨⟨v14, rfl, hv14⟩, hE⟩
    have E14 := Lib.hid (E13.out.trans hE); have T14 := Lib.hid (T13.out.trans hE); have HV14 := Lib.hid hv14.at
    have HM14 := Lib.hid (AccsF.kp HM13.out (Kp.of_ext (F := []) hE) (fun _ _ h => by cases h))
    clear hE hv14 y0 y1 y2 y3 y4 y5 y6 y7 y8
    go_wp2_with (fail)
    refine (StmtReads_any _ arr subs e _ HV14.out).mono ?_
    rw [HXS.out]
    rintro r w15 ⟨⟨v15, F2, rfl, hv15, -⟩, hE⟩
    obtain ⟨p15, c15, rfl⟩ := PairsF.slice hv15
    rw [HN.out] at hv15 ⊢
    have E15 := Lib.hid (E14.out.trans hE); have HH15 := Lib.hid hv15; have HG15 := Lib.hid (HG3.out.ext (T14.out.trans hE))
    have HM15 := Lib.hid (AccsF.kp HM14.out (Kp.of_ext (F := []) hE) (fun _ _ h => by cases h))
    clear hE hv15
    go_wp2_with (fail)
    refine (eqAccessS_same p15 n c15 p3' c3' xs _ HN.out HH15.out.at HG15.out).mono ?_
    rintro r w16 ⟨rfl, hE⟩
    have E16 := Lib.hid (E15.out.trans hE)
    have HM16 := Lib.hid (AccsF.kp HM15.out (Kp.of_ext (F := []) hE) (fun _ _ h => by cases h))
    clear hE
    go_wp2_with (fail)
    refine (heldAccessS_any p6 n c6 xs 1 _ HN.out HM16.out.at (by omega) (by rw [HZ.out]; omega) (by omega) HSM.out).mono ?_
    rw [HZ.out]
    rintro r w17 ⟨rfl, hE⟩
    have E17 := Lib.hid (E16.out.trans hE)
    clear hE
    go_wp2
    go_ret
    exact ⟨rfl, E17.out⟩
end Go.Proofs.Ytggpjapmhakklaa
